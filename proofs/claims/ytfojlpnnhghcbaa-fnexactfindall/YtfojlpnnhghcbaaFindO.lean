/- Bytes taken one by one, in the model. -/
import Derived.Test.YtfojlpnnhghcbaaFindN
import Derived.Deep.DeepCutAuto
namespace Go.Proofs.Ytfojlpnnhghcbaa
open Go.ChangeShapes Go.WideShapes Go.ChangeAt Go.RowKit
/-- a finder, and a slice of events of the call's own -/
def FeedPost (w : World) (p : Fd × List Ev) (e : Ending) (w' : World) : Prop := ∃ v, e = .returned (.tuple #[fdL p.1, v]) ∧ OE w' w.heap.size v p.2 ∧ Below w.heap.size w w'
theorem F3.farSet {w W : World} {a b d m : Int} {H : ByteArray} {o : Bool} (h : F3 w W a b d m H o) {g i : Nat} (hg : w.heap.size + 3 ≤ g) (x : Value) : F3 w (W.setCell ⟨g, i, none⟩ x) a b d m H o :=
  ⟨h.1.far (by omega) _, h.2.1.far (by omega) _, h.2.2.1.far (by omega) _, h.2.2.2.setCell (by show w.heap.size ≤ g; omega) _⟩
/-- a finder and events that a call has answered, the finder in a box that was made ahead of the call or behind it -/
def XAt (w0 wx : World) (g : Nat) (X : ByteArray) (y : Bool) (v : Value) (l : List Ev) : Prop := BK wx g #[.string X, .bool y] 30 ∧ w0.heap.size ≤ g ∧ RE wx w0.heap.size wx.heap.size v l ∧ Below w0.heap.size w0 wx
theorem x_last {w0 w2 : World} {v : Value} {l : List Ev} (hb : Below w0.heap.size w0 w2) (hr : RE w2 w0.heap.size w2.heap.size v l) (X : ByteArray) (y : Bool) : XAt w0 (w2.alloc (.cells #[.string X, .bool y] 30)) w2.heap.size X y v l :=
  ⟨BK.new _ _ _, hb.size, (hr.below ((Below.refl _ _).alloc (Nat.le_refl _) _)).mono (Nat.le_refl _) (by simp), hb.alloc hb.size _⟩
theorem x_ahead {w0 w2 : World} {v : Value} {l : List Ev} {x y : Value} (hb : Below (w0.alloc (.cells #[x, y] 30)).heap.size (w0.alloc (.cells #[x, y] 30)) w2) (hr : RE w2 (w0.alloc (.cells #[x, y] 30)).heap.size w2.heap.size v l) (X : ByteArray) (o : Bool) :
    XAt w0 ((w2.setCell ⟨w0.heap.size, 0, none⟩ (.string X)).setCell ⟨w0.heap.size, 1, none⟩ (.bool o)) w0.heap.size X o v l := by
  have hs : (w0.alloc (.cells #[x, y] 30)).heap.size = w0.heap.size + 1 := by simp
  refine ⟨(((BK.new w0 #[x, y] 30).from hb).set 0 (.string X)).set 1 (.bool o), Nat.le_refl _, ?_, ?_⟩
  · have h1 := (hr.setCell (p := ⟨w0.heap.size, 0, none⟩) (by rw [hs]; simp) (.string X)).setCell (p := ⟨w0.heap.size, 1, none⟩) (by rw [hs]; simp) (.bool o)
    exact h1.mono (by rw [hs]; omega) (by simp)
  · exact ((alloc_below hb).setCell (by simp) _).setCell (by simp) _
theorem OE.reads' {w : World} {base : Nat} {v : Value} {l : List Ev} (h : OE w base v l) : RE w base w.heap.size v l := h.reads
theorem OE.mono {w : World} {base base' : Nat} {v : Value} {l : List Ev} (h : OE w base v l) (hb : base' ≤ base) : OE w base' v l := by
  refine ⟨h.1, ?_⟩
  rcases h.2 with hn | ⟨g, cap, cur, hv, hbg, rest⟩
  · exact .inl hn
  · exact .inr ⟨g, cap, cur, hv, by omega, rest⟩
theorem OE.drew {w : World} {base : Nat} {v : Value} {l : List Ev} (h : OE w base v l) : OE w.drew base v l := h
theorem feed_done {w W : World} {a b d m : Int} {X : ByteArray} {y : Bool} {v : Value} {evs : List Ev} {p : Fd × List Ev} (hF : F3 w W a b d m X y) (ho : OE W (w.heap.size + 3) v evs) (hp : p = (⟨X.data.toList, y⟩, evs)) :
    FeedPost w p (.returned (.tuple #[fdV X y, v])) ((W.setCell ⟨w.heap.size + 2, 0, none⟩ (.string X)).setCell ⟨w.heap.size + 2, 1, none⟩ (.bool y)) := by
  subst hp
  refine ⟨v, by simp only [fdL], ?_, hF.done _ _⟩
  have h1 := (ho.put (p := ⟨w.heap.size + 2, 0, none⟩) (by simp) (.string X)).put (p := ⟨w.heap.size + 2, 1, none⟩) (by simp) (.bool y)
  exact h1.mono (by omega)
theorem OE_made (w : World) {base g : Nat} (hg : w.heap.size = g) (hb : base ≤ g := by omega) : OE (w.alloc (.cells #[] 47)) base (.slice (some ⟨g, 0, none⟩) 0 0) [] := by
  subst hg
  exact ⟨rfl, .inr ⟨w.heap.size, 0, #[], rfl, hb, heap_alloc_new w _, Nat.le_refl _, by simp [maxLen], rfl, rfl⟩⟩
set_option maxRecDepth 100000 in
set_option maxHeartbeats 4000000 in
theorem l7Feed_any (a b d m : Int) (H : ByteArray) (o : Bool) (s : ByteArray) (w : World) (hok : okF ⟨a, b, d, m⟩ ⟨H.data.toList, o⟩ = true) (hs : s.size ≤ 1000000) :
    Calls Try.prog 51 #[cfV a b d m, fdV H o, .string s] w (FeedPost w (ffeed ⟨a, b, d, m⟩ ⟨H.data.toList, o⟩ s.data.toList)) := by
  have hz := zero_find
  have HOK := Lib.hid hok
  have HSL := Lib.hid (size_list s)
  obtain ⟨i0, hi, hz0, hz1, hz2⟩ := info_parts info_ev
  have HI := Lib.hid hi
  have HZ0 := Lib.hid hz0
  have HZ1 := Lib.hid hz1
  have HZ2 := Lib.hid hz2
  clear hok hi hz0 hz1 hz2
  go_enter Try.func51, Try.ntmps51
  go_wp2
  go_loopw [8, 9] (fun v i wr => ∃ (k : Nat) (X : ByteArray) (y : Bool) (evs : List Ev), k ≤ s.size ∧ i = .int .i64 k ∧ ffeed ⟨a, b, d, m⟩ ⟨H.data.toList, o⟩ (s.data.toList.take k) = (⟨X.data.toList, y⟩, evs) ∧ OE wr (w.heap.size + 3) v evs ∧ F3 w wr a b d m X y) (fun _ i _ => s.size - (intOf i).toNat)
  case atStart => exact ⟨0, H, o, [], Nat.zero_le _, rfl, rfl, OE_made _ (by simp), (F3.start w a b d m H o).alloc _⟩
  case round =>
    obtain ⟨k, X, y, evs, hk, rfl, hfe, hoe, hF⟩ := hrel
    have HFE := Lib.hid hfe
    have HOE := Lib.hid hoe
    have hel := ffeed_len ⟨a, b, d, m⟩ (s.data.toList.take k) ⟨H.data.toList, o⟩
    have hokk := ffeed_ok (s.data.toList.take k) HOK.out
    rw [hfe] at hel hokk
    have hl2 : (s.data.toList.take k).length ≤ k := List.length_take_le _ _
    simp only at hel hokk
    have HOKK := Lib.hid hokk
    clear hfe hoe hokk
    by_cases hlt : k < s.size
    · have HS := Lib.hid (show ffeed ⟨a, b, d, m⟩ ⟨H.data.toList, o⟩ (s.data.toList.take (k + 1)) = ((fstep ⟨a, b, d, m⟩ ⟨X.data.toList, y⟩ s[k]).1, evs ++ (fstep ⟨a, b, d, m⟩ ⟨X.data.toList, y⟩ s[k]).2.toList) by
        rw [snoc_take s k hlt, ffeed_snoc, HFE.out]; rfl)
      obtain ⟨⟨c0, c1, c2, c3⟩, e0, e1⟩ := hF.flat
      have hge := hF.size
      have hF := hF.drew
      obtain ⟨fn, en, hst⟩ : ∃ fn en, fstep ⟨a, b, d, m⟩ ⟨X.data.toList, y⟩ s[k] = (fn, en) := ⟨_, _, rfl⟩
      obtain ⟨Xl, yn⟩ := fn
      obtain ⟨Xn, rfl⟩ : ∃ Xn : ByteArray, Xn.data.toList = Xl := ⟨⟨Xl.toArray⟩, rfl⟩
      have HBY := Lib.hid (fun w => l7Byte_any a b d m X y s[k] w HOKK.out)
      rw [hst] at HS HBY
      clear hst
      have hF0 := Lib.hid hF
      go_upto_region 5 with fail
      go_cut [10, 11] (fun s10 s11 wx => ∃ g, s10 = .pointer (some ⟨g, 0, none⟩) ∧ XAt wr.drew wx g Xn yn s11 en.toList)
      case first =>
        go_region_held3 (fun wx => (wx.cell? ⟨w.heap.size, 0, none⟩ = some (.int .i64 a) ∧ wx.cell? ⟨w.heap.size, 1, none⟩ = some (.int .i64 b) ∧ wx.cell? ⟨w.heap.size, 2, none⟩ = some (.int .i64 d) ∧ wx.cell? ⟨w.heap.size, 3, none⟩ = some (.int .i64 m)) ∧ (wx.cell? ⟨w.heap.size + 1, 0, none⟩ = some (.string X) ∧ wx.cell? ⟨w.heap.size + 1, 1, none⟩ = some (.bool y))) (first | exact hF.flat | exact (hF.alloc _).flat | exact ((hF.farSet hge _).farSet hge _).flat) (first | (go_at_call 73; refine (HBY.out _).mono ?_; rintro e w2 ⟨v2, rfl, hr2, hb2⟩; simp only [fdL, Lib.mk_data]; (first | have hF := hF.from hb2 | (have hF := (hF.alloc _).from hb2; have hx : BK w2 wr.heap.size #[.string ⟨#[]⟩, .bool false] 30 := (BK.new wr.drew _ _).from hb2; have x0 : w2.cell? ⟨wr.heap.size, 0, none⟩ = some (.string ⟨#[]⟩) := hx.cell rfl; have x1 : w2.cell? ⟨wr.heap.size, 1, none⟩ = some (.bool false) := hx.cell rfl; have y0 := hx.free 0; have y1 := hx.free 1))))
        all_goals
          (first
            | (have hXA := x_last (w0 := wr.drew) hb2 hr2 Xn yn)
            | (have hXA := x_ahead (w0 := wr.drew) hb2 hr2 Xn yn))
          have HXA := Lib.hid hXA
          clear hXA hb2 hr2
          go_wp2
          go_meet
          exact ⟨_, rfl, HXA.out⟩
      case rest =>
        obtain ⟨g, rfl, hbk, hgg, hre, hbl⟩ := hcut
        have k0 := hbk.cell (i := 0) rfl
        have k1 := hbk.cell (i := 1) rfl
        have hFc := hF0.out.from hbl
        obtain ⟨_, e0, e1⟩ := hFc.flat
        obtain ⟨_, ⟨f0, f1⟩, _, _⟩ := hFc.res
        have hgs := hF0.out.size
        have hF4 := hFc.put2 Xn yn
        have hoe4 := ((HOE.out.drew.below hbl).put (p := ⟨w.heap.size + 1, 0, none⟩) (by simp) (.string Xn)).put (p := ⟨w.heap.size + 1, 1, none⟩) (by simp) (.bool yn)
        have hre4 := (hre.setCell (p := ⟨w.heap.size + 1, 0, none⟩) (by show w.heap.size + 1 < _; omega) (.string Xn)).setCell (p := ⟨w.heap.size + 1, 1, none⟩) (by show w.heap.size + 1 < _; omega) (.bool yn)
        have HF4 := Lib.hid hF4
        have HOE4 := Lib.hid hoe4
        have HRE4 := Lib.hid hre4
        have hlen1 := opt_len en
        clear hbk hgg hre hbl hFc hF4 hoe4 hre4 c0 c1 c2 c3
        go_wp2_with (at_builtin; refine wpList_append_ev _ rfl _ _ 31 rfl (w.heap.size + 3) i0 Try.underlying31 HI.out HZ0.out HZ1.out HZ2.out _ evs rfl HOE4.out _ _ _ en.toList rfl HRE4.out (by omega) (by have := HF4.out.size; omega) ?_; intro v5 w5 ho5 hg5 hat5; have HOE5 := Lib.hid ho5; have HF5 := Lib.hid (HF4.out.grown hg5 (fun k hk => (HOE4.out.lt k hk).1)); clear ho5 hg5 hat5)
        go_roundw
        case rel => exact ⟨k + 1, Xn, yn, evs ++ en.toList, by omega, by go_num, HS.out, HOE5.out, HF5.out⟩
        case measure => simp [intOf]; omega
    · have HE := Lib.hid (take_all s k (by omega))
      rw [HE.out] at HFE
      obtain ⟨_, e0, e1⟩ := hF.flat
      obtain ⟨⟨r0, r1⟩, _, f0, f1⟩ := hF.res
      have HQ := Lib.hid (feed_done hF HOE.out HFE.out)
      clear hF
      go_wp2
      exact bodyPost_ret (v := .tuple #[fdV X y, u8]) (by simp [results, Try.results51, go_sem, r0, r1]) rfl HQ.out
end Go.Proofs.Ytfojlpnnhghcbaa
