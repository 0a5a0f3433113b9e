/- FnExactFindFeed: FindFeed of the program answers as the model's, at every configuration, finder and string; its events are its own memory. No condition. -/
import Derived.Test.YtfojlpnnhghcbaaFindX
import Derived.SliceStrings
import Derived.Lib.SmallJoins
namespace Go.Proofs.Ytfojlpnnhghcbaa.fnExactFindFeed
open Go.ChangeShapes Go.WideShapes Go.ChangeAt Go.RowKit
open Go.ChangeMaps (open_string shut_string)
set_option linter.unusedVariables false
set_option maxRecDepth 100000 in
set_option maxHeartbeats 8000000 in
theorem walk (a0_0 : Int) (a0_1 : Int) (a0_2 : Int) (a0_3 : Int) (s1_0 : ByteArray) (b1_1 : Bool) (s2 : ByteArray) (w : World) (w0_0 : (Lit.int .i64 a0_0).wf = true) (w0_1 : (Lit.int .i64 a0_1).wf = true) (w0_2 : (Lit.int .i64 a0_2).wf = true) (w0_3 : (Lit.int .i64 a0_3).wf = true) (w1_0 : s1_0.size ≤ maxLen) (w2 : s2.size ≤ maxLen) :
    Calls Try.prog 11 #[.agg #[.int .i64 a0_0, .int .i64 a0_1, .int .i64 a0_2, .int .i64 a0_3], .agg #[.string s1_0, .bool b1_1], .string s2] w fun e w' => e = .returned (.bool true) ∧ Below w.heap.size w w' := by
  have HM1 := Lib.hid w1_0
  have HM2 := Lib.hid w2
  unfold maxLen at w1_0 w2
  clear w0_1 w0_2 w0_3
  generalize a0_0 = a at *
  generalize a0_1 = b at *
  generalize a0_2 = d at *
  generalize a0_3 = m at *
  generalize s1_0 = H at *
  generalize b1_1 = o at *
  by_cases hbig2 : 1048576 < s2.size
  · go_enter Try.func11, Try.ntmps11
    go_wp2
    go_ret
    exact ⟨rfl, below2 _ _ _⟩
  by_cases hbig : 1048576 < H.size
  · go_enter Try.func11, Try.ntmps11
    go_wp2_with fail
    refine (szFind_big H o _ HM1.out hbig).mono ?_
    rintro e w1 ⟨rfl, hb1⟩
    have HB := Lib.hid ((Bx.new w a b d m H o _ _).next hb1).2.2.1
    clear hb1
    go_wp2
    go_ret
    exact ⟨rfl, HB.out⟩
  have hsm : H.size ≤ 1048576 := by omega
  clear hbig
  have hlen := feedF_len ⟨a, b, d, m⟩ ⟨H.data.toList, o⟩ s2.data.toList
  have HSp := Lib.hid (fun W => specFindFeed_any a b d m H o s2 W HM1.out HM2.out)
  have HIm := Lib.hid (fun W => implFindFeed_any a b d m H o s2 W w0_0 HM1.out HM2.out)
  generalize feedF ⟨a, b, d, m⟩ ⟨H.data.toList, o⟩ s2.data.toList = p at *
  obtain ⟨⟨Xl, y⟩, evs⟩ := p
  obtain ⟨X, rfl⟩ : ∃ X : ByteArray, X.data.toList = Xl := ⟨⟨Xl.toArray⟩, rfl⟩
  simp only at hlen
  have hz := zero_find
  go_enter Try.func11, Try.ntmps11
  go_wp2_with fail
  refine (szFind_small H o _ hsm).mono ?_
  rintro e w1 ⟨rfl, hb1⟩
  have HB1 := Lib.hid ((Bx.new w a b d m H o _ _).next hb1)
  clear hb1
  go_upto_region 7 with fail
  go_cut [8, 9] (fun sb se wx => ∃ g, sb = .pointer (some ⟨g, 0, none⟩) ∧ XO w1.drew wx g X y se evs)
  case first =>
    have hF := HB1.out.drew
    have hge := hF.2.2.2
    have hW := Below.refl w1.drew.heap.size w1.drew
    go_region_held3 (fun wx => (wx.cell? ⟨w.heap.size, 0, none⟩ = some (.int .i64 a) ∧ wx.cell? ⟨w.heap.size, 1, none⟩ = some (.int .i64 b) ∧ wx.cell? ⟨w.heap.size, 2, none⟩ = some (.int .i64 d) ∧ wx.cell? ⟨w.heap.size, 3, none⟩ = some (.int .i64 m)) ∧ (wx.cell? ⟨w.heap.size + 1, 0, none⟩ = some (.string H) ∧ wx.cell? ⟨w.heap.size + 1, 1, none⟩ = some (.bool o))) (first | exact hFl.flat | exact (hFl.alloc _).flat | exact ((hFl.farSet (Nat.le_trans hge hg0) _).farSet (Nat.le_trans hge hg0) _).flat | exact hF.flat | exact (hF.alloc _).flat) (first | (go_at_call 31; refine (toConf_any _ _ _ _ _).mono ?_; rintro e w2 ⟨rfl, hb2⟩; (first | (have hF := hF.next hb2; have hx := hx.from hb2; have hW := hW.trans (hb2.mono hW.size)) | (have hF := hF.next hb2; have hW := hW.trans (hb2.mono hW.size)) | (have hx : BK w2 w1.heap.size #[.string ⟨#[]⟩, .bool false] 30 := (BK.new w1.drew #[.string ⟨#[]⟩, .bool false] 30).from hb2; have hg0 := hW.size; have hF := (hF.alloc (.cells #[.string ⟨#[]⟩, .bool false] 30)).next hb2; have hW := (hW.alloc hW.size (.cells #[.string ⟨#[]⟩, .bool false] 30)).trans (hb2.mono (Nat.le_trans hW.size (by simp)))) | (have hx := (BK.new _ #[.string ⟨#[]⟩, .bool false] 30).from hb2; have hg0 := hW.size; have hF := (hF.alloc (.cells #[.string ⟨#[]⟩, .bool false] 30)).next hb2; have hW := (hW.alloc hW.size (.cells #[.string ⟨#[]⟩, .bool false] 30)).trans (hb2.mono (Nat.le_trans hW.size (by simp)))))) | (go_at_call 33; refine (toFind_any _ _ _).mono ?_; rintro e w2 ⟨rfl, hb2⟩; (first | (have hF := hF.next hb2; have hx := hx.from hb2; have hW := hW.trans (hb2.mono hW.size)) | (have hF := hF.next hb2; have hW := hW.trans (hb2.mono hW.size)) | (have hx : BK w2 w1.heap.size #[.string ⟨#[]⟩, .bool false] 30 := (BK.new w1.drew #[.string ⟨#[]⟩, .bool false] 30).from hb2; have hg0 := hW.size; have hF := (hF.alloc (.cells #[.string ⟨#[]⟩, .bool false] 30)).next hb2; have hW := (hW.alloc hW.size (.cells #[.string ⟨#[]⟩, .bool false] 30)).trans (hb2.mono (Nat.le_trans hW.size (by simp)))) | (have hx := (BK.new _ #[.string ⟨#[]⟩, .bool false] 30).from hb2; have hg0 := hW.size; have hF := (hF.alloc (.cells #[.string ⟨#[]⟩, .bool false] 30)).next hb2; have hW := (hW.alloc hW.size (.cells #[.string ⟨#[]⟩, .bool false] 30)).trans (hb2.mono (Nat.le_trans hW.size (by simp)))))) | (go_at_call 21; refine (HSp.out _).mono ?_; rintro e w3 ⟨v3, rfl, ho3, hb3⟩; simp only [fdL, Lib.mk_data]; (first | (have hx3 := hx.from hb3; have x0 := hx3.cell (i := 0) rfl; have x1 := hx3.cell (i := 1) rfl; have y0 := hx3.free 0; have y1 := hx3.free 1; have hFl := hF.next hb3) | (have hFl := hF.next hb3) | (have hx := bk_before hb3; have hx3 := hx.from hb3; have x0 := hx3.cell (i := 0) rfl; have x1 := hx3.cell (i := 1) rfl; have y0 := hx3.free 0; have y1 := hx3.free 1; have hg0 := hW.size; have hF := hF.alloc (.cells #[.string ⟨#[]⟩, .bool false] 30); have hFl := hF.next hb3; have hW := hW.alloc hW.size (.cells #[.string ⟨#[]⟩, .bool false] 30)))))
    all_goals
      (first
        | (have hXO := xo_box hW hx hg0 hb3 ho3 X y)
        | (have hXO := xo_last hW hb3 ho3 X y))
      have HXO := Lib.hid hXO
      clear hXO
      go_wp2
      go_meet
      exact ⟨_, rfl, HXO.out⟩
  case rest =>
    obtain ⟨g8, rfl, hxo⟩ := hcut
    have HK8 := Lib.hid (KF.start HB1.out.drew hxo)
    generalize wc.heap.size = B8 at *
    clear hxo HB1
    have HB8 := Lib.hid HK8.out.1
    go_upto_region 8 with fail
    go_cut [10, 11] (fun sb se wx => ∃ g, sb = .pointer (some ⟨g, 0, none⟩) ∧ XO wc.drew wx g X y se evs)
    case first =>
      have hF := HB8.out.drew
      have hge := hF.2.2.2
      have hW := Below.refl wc.drew.heap.size wc.drew
      go_region_held3 (fun wx => (wx.cell? ⟨w.heap.size, 0, none⟩ = some (.int .i64 a) ∧ wx.cell? ⟨w.heap.size, 1, none⟩ = some (.int .i64 b) ∧ wx.cell? ⟨w.heap.size, 2, none⟩ = some (.int .i64 d) ∧ wx.cell? ⟨w.heap.size, 3, none⟩ = some (.int .i64 m)) ∧ (wx.cell? ⟨w.heap.size + 1, 0, none⟩ = some (.string H) ∧ wx.cell? ⟨w.heap.size + 1, 1, none⟩ = some (.bool o))) (first | exact hFl.flat | exact (hFl.alloc _).flat | exact ((hFl.farSet (Nat.le_trans hge hg0) _).farSet (Nat.le_trans hge hg0) _).flat | exact hF.flat | exact (hF.alloc _).flat) (first | (go_at_call 31; refine (toConf_any _ _ _ _ _).mono ?_; rintro e w2 ⟨rfl, hb2⟩; (first | (have hF := hF.next hb2; have hx := hx.from hb2; have hW := hW.trans (hb2.mono hW.size)) | (have hF := hF.next hb2; have hW := hW.trans (hb2.mono hW.size)) | (have hx : BK w2 wc.heap.size #[.string ⟨#[]⟩, .bool false] 30 := (BK.new wc.drew #[.string ⟨#[]⟩, .bool false] 30).from hb2; have hg0 := hW.size; have hF := (hF.alloc (.cells #[.string ⟨#[]⟩, .bool false] 30)).next hb2; have hW := (hW.alloc hW.size (.cells #[.string ⟨#[]⟩, .bool false] 30)).trans (hb2.mono (Nat.le_trans hW.size (by simp)))) | (have hx := (BK.new _ #[.string ⟨#[]⟩, .bool false] 30).from hb2; have hg0 := hW.size; have hF := (hF.alloc (.cells #[.string ⟨#[]⟩, .bool false] 30)).next hb2; have hW := (hW.alloc hW.size (.cells #[.string ⟨#[]⟩, .bool false] 30)).trans (hb2.mono (Nat.le_trans hW.size (by simp)))))) | (go_at_call 33; refine (toFind_any _ _ _).mono ?_; rintro e w2 ⟨rfl, hb2⟩; (first | (have hF := hF.next hb2; have hx := hx.from hb2; have hW := hW.trans (hb2.mono hW.size)) | (have hF := hF.next hb2; have hW := hW.trans (hb2.mono hW.size)) | (have hx : BK w2 wc.heap.size #[.string ⟨#[]⟩, .bool false] 30 := (BK.new wc.drew #[.string ⟨#[]⟩, .bool false] 30).from hb2; have hg0 := hW.size; have hF := (hF.alloc (.cells #[.string ⟨#[]⟩, .bool false] 30)).next hb2; have hW := (hW.alloc hW.size (.cells #[.string ⟨#[]⟩, .bool false] 30)).trans (hb2.mono (Nat.le_trans hW.size (by simp)))) | (have hx := (BK.new _ #[.string ⟨#[]⟩, .bool false] 30).from hb2; have hg0 := hW.size; have hF := (hF.alloc (.cells #[.string ⟨#[]⟩, .bool false] 30)).next hb2; have hW := (hW.alloc hW.size (.cells #[.string ⟨#[]⟩, .bool false] 30)).trans (hb2.mono (Nat.le_trans hW.size (by simp)))))) | (go_at_call 18; refine (HIm.out _).mono ?_; rintro e w3 ⟨v3, rfl, ho3, hb3⟩; simp only [fdL, Lib.mk_data]; (first | (have hx3 := hx.from hb3; have x0 := hx3.cell (i := 0) rfl; have x1 := hx3.cell (i := 1) rfl; have y0 := hx3.free 0; have y1 := hx3.free 1; have hFl := hF.next hb3) | (have hFl := hF.next hb3) | (have hx := bk_before hb3; have hx3 := hx.from hb3; have x0 := hx3.cell (i := 0) rfl; have x1 := hx3.cell (i := 1) rfl; have y0 := hx3.free 0; have y1 := hx3.free 1; have hg0 := hW.size; have hF := hF.alloc (.cells #[.string ⟨#[]⟩, .bool false] 30); have hFl := hF.next hb3; have hW := hW.alloc hW.size (.cells #[.string ⟨#[]⟩, .bool false] 30)))))
      all_goals
        (first
          | (have hXO := xo_box hW hx hg0 hb3 ho3 X y)
          | (have hXO := xo_last hW hb3 ho3 X y))
        have HXO := Lib.hid hXO
        clear hXO
        go_wp2
        go_meet
        exact ⟨_, rfl, HXO.out⟩
    case rest =>
      obtain ⟨g10, rfl, hxo⟩ := hcut
      have hk10 := HK8.out.drew.from hxo.2.2.2
      obtain ⟨d0, d1⟩ : wc.cell? ⟨g8, 0, none⟩ = some (.string X) ∧ wc.cell? ⟨g8, 1, none⟩ = some (.bool y) := ⟨hk10.2.1.cell rfl, hk10.2.1.cell rfl⟩
      obtain ⟨c0, c1⟩ : wc.cell? ⟨g10, 0, none⟩ = some (.string X) ∧ wc.cell? ⟨g10, 1, none⟩ = some (.bool y) := ⟨hxo.1.cell rfl, hxo.1.cell rfl⟩
      have HK10 := Lib.hid hk10
      have HO10 := Lib.hid (hxo.2.2.1.mono HK8.out.2.2.2.2.2)
      generalize u11 = v2 at *
      generalize u9 = v1 at *
      clear hk10 hxo HK8 HB8
      go_wp2_with fail
      refine (eqFind_same X y _).mono ?_
      rintro e y1 ⟨rfl, hb1⟩
      have HK7 := Lib.hid (HK10.out.from hb1)
      have HO7 := Lib.hid (OE.below HO10.out hb1)
      clear hb1 c0 c1 d0 d1 HK10 HO10
      go_wp2_with fail
      refine (eqEvents_same v2 v1 evs _ _ _ _ _ HO7.out.reads HK7.out.2.2.1 (Nat.le_refl _) HK7.out.2.2.2.2.2 (by omega)).mono ?_
      rintro e y2 ⟨rfl, hb2⟩
      have HK8 := Lib.hid (HK7.out.from hb2)
      have HO8 := Lib.hid (OE.below HO7.out hb2)
      clear hb2 HK7 HO7
      go_wp2_with fail
      refine (mark_any v2 evs _ _ HO8.out (by omega)).mono ?_
      rintro e y3 ⟨rfl, hoe3, hg3⟩
      have HK9 := Lib.hid (HK8.out.below ((Below.refl _ _).grown hg3 HK8.out.2.2.2.2.2 (fun k hk => (HO8.out.lt k hk).1)))
      have HO9 := Lib.hid hoe3
      clear hoe3 hg3 HK8 HO8
      go_wp2_with fail
      refine (held_any v2 evs.length _ _ _ HO9.out.reads (Nat.le_refl _) (by omega)).mono ?_
      rintro e y4 ⟨rfl, hb4⟩
      have HK10 := Lib.hid (HK9.out.from hb4)
      have HO10 := Lib.hid (OE.below HO9.out hb4)
      clear hb4 HK9 HO9
      have HB10 := Lib.hid HK10.out.1
      go_upto_region 19 with fail
      go_cut [14, 15] (fun sb se wx => ∃ g, sb = .pointer (some ⟨g, 0, none⟩) ∧ XO y4.drew wx g X y se evs)
      case first =>
        have hF := HB10.out.drew
        have hge := hF.2.2.2
        have hW := Below.refl y4.drew.heap.size y4.drew
        go_region_held3 (fun wx => (wx.cell? ⟨w.heap.size, 0, none⟩ = some (.int .i64 a) ∧ wx.cell? ⟨w.heap.size, 1, none⟩ = some (.int .i64 b) ∧ wx.cell? ⟨w.heap.size, 2, none⟩ = some (.int .i64 d) ∧ wx.cell? ⟨w.heap.size, 3, none⟩ = some (.int .i64 m)) ∧ (wx.cell? ⟨w.heap.size + 1, 0, none⟩ = some (.string H) ∧ wx.cell? ⟨w.heap.size + 1, 1, none⟩ = some (.bool o))) (first | exact hFl.flat | exact (hFl.alloc _).flat | exact ((hFl.farSet (Nat.le_trans hge hg0) _).farSet (Nat.le_trans hge hg0) _).flat | exact hF.flat | exact (hF.alloc _).flat) (first | (go_at_call 31; refine (toConf_any _ _ _ _ _).mono ?_; rintro e w2 ⟨rfl, hb2⟩; (first | (have hF := hF.next hb2; have hx := hx.from hb2; have hW := hW.trans (hb2.mono hW.size)) | (have hF := hF.next hb2; have hW := hW.trans (hb2.mono hW.size)) | (have hx : BK w2 y4.heap.size #[.string ⟨#[]⟩, .bool false] 30 := (BK.new y4.drew #[.string ⟨#[]⟩, .bool false] 30).from hb2; have hg0 := hW.size; have hF := (hF.alloc (.cells #[.string ⟨#[]⟩, .bool false] 30)).next hb2; have hW := (hW.alloc hW.size (.cells #[.string ⟨#[]⟩, .bool false] 30)).trans (hb2.mono (Nat.le_trans hW.size (by simp)))) | (have hx := (BK.new _ #[.string ⟨#[]⟩, .bool false] 30).from hb2; have hg0 := hW.size; have hF := (hF.alloc (.cells #[.string ⟨#[]⟩, .bool false] 30)).next hb2; have hW := (hW.alloc hW.size (.cells #[.string ⟨#[]⟩, .bool false] 30)).trans (hb2.mono (Nat.le_trans hW.size (by simp)))))) | (go_at_call 33; refine (toFind_any _ _ _).mono ?_; rintro e w2 ⟨rfl, hb2⟩; (first | (have hF := hF.next hb2; have hx := hx.from hb2; have hW := hW.trans (hb2.mono hW.size)) | (have hF := hF.next hb2; have hW := hW.trans (hb2.mono hW.size)) | (have hx : BK w2 y4.heap.size #[.string ⟨#[]⟩, .bool false] 30 := (BK.new y4.drew #[.string ⟨#[]⟩, .bool false] 30).from hb2; have hg0 := hW.size; have hF := (hF.alloc (.cells #[.string ⟨#[]⟩, .bool false] 30)).next hb2; have hW := (hW.alloc hW.size (.cells #[.string ⟨#[]⟩, .bool false] 30)).trans (hb2.mono (Nat.le_trans hW.size (by simp)))) | (have hx := (BK.new _ #[.string ⟨#[]⟩, .bool false] 30).from hb2; have hg0 := hW.size; have hF := (hF.alloc (.cells #[.string ⟨#[]⟩, .bool false] 30)).next hb2; have hW := (hW.alloc hW.size (.cells #[.string ⟨#[]⟩, .bool false] 30)).trans (hb2.mono (Nat.le_trans hW.size (by simp)))))) | (go_at_call 18; refine (HIm.out _).mono ?_; rintro e w3 ⟨v3, rfl, ho3, hb3⟩; simp only [fdL, Lib.mk_data]; (first | (have hx3 := hx.from hb3; have x0 := hx3.cell (i := 0) rfl; have x1 := hx3.cell (i := 1) rfl; have y0 := hx3.free 0; have y1 := hx3.free 1; have hFl := hF.next hb3) | (have hFl := hF.next hb3) | (have hx := bk_before hb3; have hx3 := hx.from hb3; have x0 := hx3.cell (i := 0) rfl; have x1 := hx3.cell (i := 1) rfl; have y0 := hx3.free 0; have y1 := hx3.free 1; have hg0 := hW.size; have hF := hF.alloc (.cells #[.string ⟨#[]⟩, .bool false] 30); have hFl := hF.next hb3; have hW := hW.alloc hW.size (.cells #[.string ⟨#[]⟩, .bool false] 30)))))
        all_goals
          (first
            | (have hXO := xo_box hW hx hg0 hb3 ho3 X y)
            | (have hXO := xo_last hW hb3 ho3 X y))
          have HXO := Lib.hid hXO
          clear hXO
          go_wp2
          go_meet
          exact ⟨_, rfl, HXO.out⟩
      case rest =>
        obtain ⟨g14, rfl, hxo⟩ := hcut
        have hk12 := HK10.out.drew.from hxo.2.2.2
        obtain ⟨d0, d1⟩ : wc.cell? ⟨g8, 0, none⟩ = some (.string X) ∧ wc.cell? ⟨g8, 1, none⟩ = some (.bool y) := ⟨hk12.2.1.cell rfl, hk12.2.1.cell rfl⟩
        obtain ⟨c0, c1⟩ : wc.cell? ⟨g14, 0, none⟩ = some (.string X) ∧ wc.cell? ⟨g14, 1, none⟩ = some (.bool y) := ⟨hxo.1.cell rfl, hxo.1.cell rfl⟩
        have HK12 := Lib.hid hk12
        have HO12 := Lib.hid (OE.below HO10.out.drew hxo.2.2.2)
        have HO3 := Lib.hid hxo.2.2.1
        generalize u15 = v3 at *
        clear hk12 hxo HK10 HB10 HO10
        go_wp2_with fail
        refine (eqFind_same X y _).mono ?_
        rintro e y8 ⟨rfl, hb8⟩
        have HK13 := Lib.hid (HK12.out.from hb8)
        have HO13 := Lib.hid (OE.below HO12.out hb8)
        have HO4 := Lib.hid (OE.below HO3.out hb8)
        clear hb8 d0 d1 c0 c1 HK12 HO12 HO3
        go_wp2_with fail
        refine (eqEvents_same v3 v1 evs _ _ _ _ _ HO4.out.reads HK13.out.2.2.1 (Nat.le_refl _) HK13.out.2.2.2.2.2 (by omega)).mono ?_
        rintro e y9 ⟨rfl, hb9⟩
        have HK14 := Lib.hid (HK13.out.from hb9)
        have HO14 := Lib.hid (OE.below HO13.out hb9)
        clear hb9 HK13 HO13 HO4
        go_wp2_with fail
        refine (held_any v2 evs.length _ _ _ HO14.out.reads (Nat.le_refl _) (by omega)).mono ?_
        rintro e y10 ⟨rfl, hb10⟩
        have HB := Lib.hid (HK14.out.from hb10).1.2.2.1
        clear hb10 HK14 HO14
        go_wp2
        go_ret
        exact ⟨rfl, HB.out⟩
theorem own : ownKnob Try.prog.godebug = none := by kernel_rfl
theorem laidOut : laidOutB Try.prog = true := by kernel_rfl
set_option maxRecDepth 100000 in
theorem lifted (os : Os) (started : os.Started) (H : Type) (enc : TypeId × Value → H) :
    ReturnsInHanded {} Try.checked os 11 .any (Rows.fnExactFindFeedSpec.pre6 enc Try.prog Try.f11 Rows.fnExactFindFeedRow.domain false) (Rows.fnExactFindFeedSpec.post enc Try.prog Try.f11 false true false false) := by
  refine returnsInHanded_of_change (C := Try.checked) own started (by kernel_rfl) Try.func11
    (ChangeSpec.witness6 (enc := enc) (C := Try.checked) false ⟨#[], #[.agg #[.int .i64 0, .int .i64 0, .int .i64 0, .int .i64 0], .agg #[.string .empty, .bool false], .string .empty], []⟩ 8 (by kernel_rfl) (by kernel_rfl) (by kernel_rfl) (by kernel_rfl)) ?_
  intro W base args ds gs before hval0 hW hcnd _
  have hval : ∀ (j : Nat) t v, Try.f11.params[j]? = some t → args[j]? = some v → Value.okWide Try.prog W .any base t v := hval0
  have hW' := hW
  obtain ⟨p, q, hA0, hV, rfl, hfz, hnd⟩ := hW
  have hA : DataW.TrodAll enc Try.prog W 0 (fun _ => true) true Try.f11.params.toList args.toList ds p := hA0
  rw [Try.params11] at hA hval
  obtain ⟨v0, vs0, d0, ds0, p0, q0, hargs, rfl, rfl, h0, r0⟩ := trodAll_cons hA
  obtain ⟨v1, vs1, d1, ds1, p1, q1, rfl, rfl, rfl, h1, r1⟩ := trodAll_cons r0
  obtain ⟨v2, vs2, d2, ds2, p2, q2, rfl, rfl, rfl, h2, r2⟩ := trodAll_cons r1
  obtain ⟨rfl, rfl, rfl⟩ := trodAll_nil r2
  obtain rfl : args = #[v0, v1, v2] := by cases args; simp_all
  obtain ⟨rfl, rfl⟩ := trodVars_none hV
  have k0 := h0
  have lt0 : ∀ x ∈ p0, x.block < W.heap.size := by obtain ⟨m, hm⟩ := k0; exact DataW.trod_lt m _ _ _ hm
  obtain ⟨u0_0, u0_1, u0_2, u0_3, y0_0, y0_1, y0_2, y0_3, nn0, rfl, hd0, hp0, t0_0, t0_1, t0_2, t0_3⟩ := Joins.open_agg4 Try.underlying48 (by kernel_rfl) (by kernel_rfl) (hval 0 48 v0 rfl rfl) h0
  obtain ⟨a0_0, e0_0, _, w0_0⟩ := DataW.trod_int Try.underlying3 t0_0
  obtain ⟨a0_1, e0_1, _, w0_1⟩ := DataW.trod_int Try.underlying3 t0_1
  obtain ⟨a0_2, e0_2, _, w0_2⟩ := DataW.trod_int Try.underlying3 t0_2
  obtain ⟨a0_3, e0_3, _, w0_3⟩ := DataW.trod_int Try.underlying3 t0_3
  simp only [List.cons.injEq, and_true] at e0_0 e0_1 e0_2 e0_3
  subst e0_0 e0_1 e0_2 e0_3
  clear t0_0 t0_1 t0_2 t0_3 hd0 hp0
  have k1 := h1
  have lt1 : ∀ x ∈ p1, x.block < W.heap.size := by obtain ⟨m, hm⟩ := k1; exact DataW.trod_lt m _ _ _ hm
  obtain ⟨u1_0, u1_1, y1_0, y1_1, nn1, rfl, hd1, hp1, t1_0, t1_1⟩ := Joins.open_agg2 Try.underlying52 (by kernel_rfl) (by kernel_rfl) (hval 1 52 v1 rfl rfl) h1
  obtain ⟨s1_0, e1_0, _, w1_0⟩ := DataW.trod_string Try.underlying9 t1_0
  obtain ⟨b1_1, e1_1, _⟩ := DataW.trod_bool Try.underlying4 t1_1
  simp only [List.cons.injEq, and_true] at e1_0 e1_1
  subst e1_0 e1_1
  clear t1_0 t1_1 hd1 hp1
  obtain ⟨s2, rfl, rfl, rfl, w2⟩ := open_string Try.underlying9 (hval 2 9 v2 rfl rfl) h2
  clear hA0 hval0
  refine (walk a0_0 a0_1 a0_2 a0_3 s1_0 b1_1 s2 W w0_0 w0_1 w0_2 w0_3 w1_0 w2).mono fun e W' ⟨he, bel⟩ => ?_
  subst he
  exact ⟨_, rfl, _, _, _, [], _, [], hW', trodAll_mk1 (shut_bool Try.underlying4 _), (trodAll_cons_mk (Below.trod laidOut (by kernel_rfl) (of_decide_eq_true (by kernel_rfl)) k0 bel lt0) (trodAll_cons_mk (Below.trod laidOut (by kernel_rfl) (of_decide_eq_true (by kernel_rfl)) k1 bel lt1) (trodAll_cons_mk (shut_string Try.underlying9 w2) trodAll_mk0))), rfl, bel.frame _, fun h => by cases h⟩
theorem over : Rows.fnExactFindFeedRow.holds Try.pinned (OpenSpec.ofChange Rows.fnExactFindFeedSpec) :=
  OpenClaim.holds_of_wide 11 Try.f11 rfl rfl rfl rfl rfl rfl rfl ⟨rfl, rfl, rfl, rfl, rfl⟩ rfl rfl rfl rfl rfl (by kernel_rfl) Try.func11 (by kernel_rfl)
    (of_decide_eq_true (by kernel_rfl)) (by unfold Func.isWrapper; first | (rw [if_pos (by decide +kernel)]; kernel_rfl) | (rw [if_neg (by decide +kernel)]; exact ⟨rfl, rfl⟩))
    (fun os started H enc _ => lifted os started H enc)
theorem proved : Rows.FnExactFindFeedSaid := over
end Go.Proofs.Ytfojlpnnhghcbaa.fnExactFindFeed
