/- FnFindMany: frames that are sent one behind the other are found, all of them. For every two codes (the law draws a configuration and two frames from them). No condition. -/
import Derived.Test.YtfojlpnnhghcbaaFindZ
import Derived.Test.YtfojlpnnhghcbaaFindX
import Derived.Test.YtfojlpnnhghcbaaFindV
import Derived.Test.YtfojlpnnhghcbaaDrawSend
namespace Go.Proofs.Ytfojlpnnhghcbaa.fnFindMany
open Go.ChangeShapes Go.WideShapes Go.ChangeAt Go.RowKit
set_option linter.unusedVariables false
theorem RS_three (w : World) (s t u : ByteArray) : RS (w.alloc (.cells #[.string s, .string t, .string u] 9)) (w.heap.size + 1) (.slice (some ⟨w.heap.size, 0, none⟩) 3 3) [s, t, u] := by
  refine ⟨_, _, rfl, fun _ => ⟨_, rfl, by simp, fun j hj => ?_⟩⟩
  rw [slit_add]
  match j, hj with
  | 0, _ => simp
  | 1, _ => simp
  | 2, _ => simp
set_option maxRecDepth 100000 in
set_option maxHeartbeats 8000000 in
theorem walk (a0 : Option Addr) (len0 cap0 : Nat) (z0 : List Int) (a1 : Option Addr) (len1 cap1 : Nat) (z1 : List Int) (w : World) (w0 : IsRow .u8 w a0 len0 cap0 z0) (w1 : IsRow .u8 w a1 len1 cap1 z1) :
    Calls Try.prog 6 #[.slice a0 len0 cap0, .slice a1 len1 cap1] w fun e w' => e = .returned (.bool true) ∧ Below w.heap.size w w' := by
  by_cases hbig : 1048576 < len0
  · go_enter Try.func6, Try.ntmps6
    go_wp2
    go_ret
    exact ⟨rfl, Below.refl _ _⟩
  by_cases hbig2 : 1048576 < len1
  · go_enter Try.func6, Try.ntmps6
    go_wp2
    go_ret
    exact ⟨rfl, Below.refl _ _⟩
  have HH := Lib.hid w0
  have HH1 := Lib.hid w1
  have hz := zero_find
  clear w0 w1
  go_enter Try.func6, Try.ntmps6
  go_wp2_with fail
  refine (drawSend_any a0 len0 cap0 z0 HH.out).mono ?_
  rintro e x1 ⟨a, b, d, m, s, rfl, hsm, hs, hb1⟩
  have wa := wf_small hsm.1
  have hL := LB.new (a := a) (b := b) (d := d) (m := m) hb1
  obtain ⟨gc, hgc⟩ : ∃ gc, x1.heap.size = gc := ⟨_, rfl⟩
  rw [hgc] at hL
  have HL := Lib.hid hL
  have HI1 := Lib.hid (HH1.out.keep hL.2.2)
  clear hb1 hL
  go_wp2_with fail
  refine (drawSend_any a1 len1 cap1 z1 HI1.out).mono ?_
  rintro e x2 ⟨a', b', d', m', t, rfl, _, ht, hb2⟩
  have hL := (HL.out.from hb2).alloc (.cells #[.int .i64 a', .int .i64 b', .int .i64 d', .int .i64 m'] 24)
  obtain ⟨c0, c1, c2, c3⟩ := hL.flat
  have HL := Lib.hid hL
  have hsx : s.size ≤ maxLen := by unfold maxLen; omega
  have htx : t.size ≤ maxLen := by unfold maxLen; omega
  have HSP := Lib.hid (fun W => specFindSend_any a b d m s W hsx)
  have HIM := Lib.hid (fun W => implFindSend_any a b d m s W wa hsx)
  have HIT := Lib.hid (fun W => implFindSend_any a b d m t W wa htx)
  have HFD := Lib.hid (fun X W hX => implFindFeed_any a b d m ⟨#[]⟩ false X W wa (by show 0 ≤ maxLen; exact Nat.zero_le _) hX)
  obtain ⟨T, hT⟩ : ∃ T : ByteArray, (⟨(sendA ⟨a, b, d, m⟩ s.data.toList).toArray⟩ : ByteArray) = T := ⟨_, rfl⟩
  have HTD := Lib.hid (show T.data.toList = sendA ⟨a, b, d, m⟩ s.data.toList by rw [← hT])
  rw [hT] at HSP HIM
  clear hb2 hL hT hsx htx hgc
  go_wp2_with fail
  refine (HIM.out _).mono ?_
  rintro e x4 ⟨rfl, hb4⟩
  have hL4 := HL.out.from hb4
  obtain ⟨c0, c1, c2, c3⟩ := hL4.flat
  have HL4 := Lib.hid hL4
  clear hb4 hL4
  go_wp2_with fail
  refine (HSP.out _).mono ?_
  rintro e x5 ⟨rfl, hb5⟩
  have hL5 := HL4.out.from hb5
  obtain ⟨c0, c1, c2, c3⟩ := hL5.flat
  have HL5 := Lib.hid hL5
  clear hb5 hL5 HL4 HL
  cases hok : sendOk ⟨a, b, d, m⟩ s.data.toList with
  | false =>
    have hTe : T = ⟨#[]⟩ := by
      apply sz0
      rw [← size_list, HTD.out, sendA_nil hok]; rfl
    subst hTe
    clear hok
    go_wp2_with fail
    refine (HSP.out _).mono ?_
    rintro e x6 ⟨rfl, hb6⟩
    have HB6 := Lib.hid (HL5.out.from hb6).2.2
    clear hb6
    go_wp2
    go_ret
    exact ⟨rfl, HB6.out⟩
  | true =>
    have hTl : T.data.toList = sendL ⟨a, b, d, m⟩ s.data.toList := by rw [HTD.out, sendA_yes hok]
    have hlen := sendL_len hok
    rw [← hTl, size_list] at hlen
    obtain ⟨hl93, hl1⟩ := hlen
    have h1 : T.toList ≠ [] := by rw [Lib.toList_data]; intro e; have := size_list T; rw [e] at this; simp at this; omega
    have h2 : T.toList.isEmpty = false := by rw [emp_size]; exact decide_eq_false (by omega)
    by_cases hbl : (t.size : Int) ≤ d
    · have hc : confB ⟨a, b, d, m⟩ = true := by simp only [sendOk, Bool.and_eq_true] at hok; exact hok.1
      have hok2 : sendOk ⟨a, b, d, m⟩ t.data.toList = true := by simp only [sendOk, hc, size_list, Bool.true_and, decide_eq_true_eq]; exact hbl
      obtain ⟨U, hU⟩ : ∃ U : ByteArray, (⟨(sendA ⟨a, b, d, m⟩ t.data.toList).toArray⟩ : ByteArray) = U := ⟨_, rfl⟩
      have hUl : U.data.toList = sendL ⟨a, b, d, m⟩ t.data.toList := by rw [← hU]; exact sendA_yes hok2
      have hlen2 := sendL_len hok2
      rw [← hUl, size_list] at hlen2
      obtain ⟨hu93, hu1⟩ := hlen2
      rw [hU] at HIT
      have hadd1 : ∀ u : World, (Op.stringOp .add T U).run Try.prog u = .ok (.string (T ++ U)) u := fun u => run_string_add_sum u _ _ (by omega)
      obtain ⟨V, hV⟩ : ∃ V : ByteArray, T ++ U = V := ⟨_, rfl⟩
      have hVs : V.size = T.size + U.size := by rw [← hV, ByteArray.size_append]
      have hVd : V.data.toList = T.data.toList ++ U.data.toList := by rw [← hV, str_append]
      rw [hV] at hadd1
      have hadd2 : ∀ u : World, (Op.stringOp .add V T).run Try.prog u = .ok (.string (V ++ T)) u := fun u => run_string_add_sum u _ _ (by omega)
      obtain ⟨Z, hZ⟩ : ∃ Z : ByteArray, V ++ T = Z := ⟨_, rfl⟩
      have hZs : Z.size = V.size + T.size := by rw [← hZ, ByteArray.size_append]
      have hZd : Z.data.toList = sendL ⟨a, b, d, m⟩ s.data.toList ++ sendL ⟨a, b, d, m⟩ t.data.toList ++ sendL ⟨a, b, d, m⟩ s.data.toList := by rw [← hZ, str_append, hVd, hTl, hUl]
      rw [hZ] at hadd2
      have HFT := Lib.hid (fun W => HFD.out Z W (by unfold maxLen; omega))
      rw [hZd, feed_three hok hok2] at HFT
      clear hok hok2 hTl hUl hV hVs hVd hZ hZs hZd hU hc
      go_upto_region 8 with fail
      go_cut [10, 11] (fun sb se wx => ∃ g, sb = .pointer (some ⟨g, 0, none⟩) ∧ XO x5.drew wx g ⟨#[]⟩ false se [⟨1, s.data.toList⟩, ⟨1, t.data.toList⟩, ⟨1, s.data.toList⟩])
      case first =>
        have hL := HL5.out.drew
        have hge := hL.1.lt
        have hW := Below.refl x5.drew.heap.size x5.drew
        go_region_held3 (fun wx => wx.cell? ⟨gc, 0, none⟩ = some (.int .i64 a) ∧ wx.cell? ⟨gc, 1, none⟩ = some (.int .i64 b) ∧ wx.cell? ⟨gc, 2, none⟩ = some (.int .i64 d) ∧ wx.cell? ⟨gc, 3, none⟩ = some (.int .i64 m)) (first | exact hLl.flat | exact (hLl.alloc _).flat | exact ((hLl.farSet (Nat.lt_of_lt_of_le hge hg0) _).farSet (Nat.lt_of_lt_of_le hge hg0) _).flat | exact hL.flat | exact (hL.alloc _).flat) (first | (go_at_call 14; refine (HIT.out _).mono ?_; rintro e w2x ⟨rfl, hb2⟩; (first | (have hL := hL.from hb2; have hx := hx.from hb2; have hW := hW.trans (hb2.mono hW.size)) | (have hL := hL.from hb2; have hW := hW.trans (hb2.mono hW.size)) | (have hx : BK w2x x5.heap.size #[.string ⟨#[]⟩, .bool false] 30 := (BK.new x5.drew #[.string ⟨#[]⟩, .bool false] 30).from hb2; have hg0 := hW.size; have hL := (hL.alloc (.cells #[.string ⟨#[]⟩, .bool false] 30)).from hb2; have hW := (hW.alloc hW.size (.cells #[.string ⟨#[]⟩, .bool false] 30)).trans (hb2.mono (Nat.le_trans hW.size (by simp)))) | (have hx := (BK.new _ #[.string ⟨#[]⟩, .bool false] 30).from hb2; have hg0 := hW.size; have hL := (hL.alloc (.cells #[.string ⟨#[]⟩, .bool false] 30)).from hb2; have hW := (hW.alloc hW.size (.cells #[.string ⟨#[]⟩, .bool false] 30)).trans (hb2.mono (Nat.le_trans hW.size (by simp)))))) | (go_at_call 18; refine (HFT.out _).mono ?_; rintro e w3 ⟨v3, rfl, ho3, hb3⟩; simp only [fdL, Lib.mk_data]; (first | (have hx3 := hx.from hb3; have x0 := hx3.cell (i := 0) rfl; have x1 := hx3.cell (i := 1) rfl; have y0 := hx3.free 0; have y1 := hx3.free 1; have hLl := hL.from hb3) | (have hLl := hL.from hb3) | (have hx : BK (x5.drew.alloc (.cells #[.string ⟨#[]⟩, .bool false] 30)) x5.heap.size #[.string ⟨#[]⟩, .bool false] 30 := BK.new x5.drew _ _; have hx3 := hx.from hb3; have x0 := hx3.cell (i := 0) rfl; have x1 := hx3.cell (i := 1) rfl; have y0 := hx3.free 0; have y1 := hx3.free 1; have hg0 := hW.size; have hL := hL.alloc (.cells #[.string ⟨#[]⟩, .bool false] 30); have hLl := hL.from hb3; have hW := hW.alloc hW.size (.cells #[.string ⟨#[]⟩, .bool false] 30)) | (have hx := bk_before hb3; have hx3 := hx.from hb3; have x0 := hx3.cell (i := 0) rfl; have x1 := hx3.cell (i := 1) rfl; have y0 := hx3.free 0; have y1 := hx3.free 1; have hg0 := hW.size; have hL := hL.alloc (.cells #[.string ⟨#[]⟩, .bool false] 30); have hLl := hL.from hb3; have hW := hW.alloc hW.size (.cells #[.string ⟨#[]⟩, .bool false] 30)))))
        all_goals
          (first
            | (have hXO := xo_box hW hx hg0 hb3 ho3 ⟨#[]⟩ false)
            | (have hXO := xo_last hW hb3 ho3 ⟨#[]⟩ false))
          have HXO := Lib.hid hXO
          clear hXO
          go_wp2
          go_meet
          exact ⟨_, rfl, HXO.out⟩
      case rest =>
        obtain ⟨g10, rfl, hxo⟩ := hcut
        have HB10 := Lib.hid (HL5.out.drew.2.2.trans (hxo.2.2.2.mono HL5.out.drew.2.2.size))
        have HOE := Lib.hid hxo.2.2.1
        generalize u11 = v1 at *
        clear hxo hadd1 hadd2 c0 c1 c2 c3
        go_wp2_with fail
        refine (implCount_any v1 _ _ _ _ HOE.out.reads (Nat.le_refl _) (by simp)).mono ?_
        rintro e y1 ⟨rfl, hb1⟩
        have HB11 := Lib.hid (HB10.out.trans (hb1.mono HB10.out.size))
        have HRE := Lib.hid ((HOE.out.below hb1).reads.below ((Below.refl _ _).alloc (Nat.le_refl _) (.cells #[.string s, .string t, .string s] 9)))
        rw [show cntF [⟨1, s.data.toList⟩, ⟨1, t.data.toList⟩, ⟨1, s.data.toList⟩] = 3 from rfl]
        clear hb1
        go_wp2_with fail
        refine (ctWhole_same v1 _ [s, t, s] _ _ _ _ HRE.out (RS_three y1 s t s) (by simp) (by simp) (by simp)).mono ?_
        rintro e y2 ⟨rfl, hb2⟩
        have HB12 := Lib.hid ((HB11.out.alloc HB11.out.size _).trans (hb2.mono (Nat.le_trans HB11.out.size (by simp))))
        clear hb2
        go_wp2
        go_ret
        exact ⟨rfl, HB12.out⟩
    · go_wp2_with fail
      refine (HSP.out _).mono ?_
      rintro e x6 ⟨rfl, hb6⟩
      have HB6 := Lib.hid (HL5.out.from hb6).2.2
      clear hb6
      go_wp2
      go_ret
      exact ⟨rfl, HB6.out⟩
theorem own : ownKnob Try.prog.godebug = none := by kernel_rfl
theorem laidOut : laidOutB Try.prog = true := by kernel_rfl
set_option maxRecDepth 100000 in
theorem lifted (os : Os) (started : os.Started) (H : Type) (enc : TypeId × Value → H) :
    ReturnsInHanded {} Try.checked os 6 .any (Rows.fnFindManySpec.pre6 enc Try.prog Try.f6 Rows.fnFindManyRow.domain false) (Rows.fnFindManySpec.post enc Try.prog Try.f6 false true false false) := by
  refine returnsInHanded_of_change (C := Try.checked) own started (by kernel_rfl) Try.func6
    (ChangeSpec.witness6 (enc := enc) (C := Try.checked) false ⟨#[], #[.slice none 0 0, .slice none 0 0], []⟩ 8 (by kernel_rfl) (by kernel_rfl) (by kernel_rfl) (by kernel_rfl)) ?_
  intro W base args ds gs before hval0 hW hcnd _
  have hval : ∀ (j : Nat) t v, Try.f6.params[j]? = some t → args[j]? = some v → Value.okWide Try.prog W .any base t v := hval0
  have hW' := hW
  obtain ⟨p, q, hA0, hV, rfl, hfz, hnd⟩ := hW
  have hA : DataW.TrodAll enc Try.prog W 0 (fun _ => true) true Try.f6.params.toList args.toList ds p := hA0
  rw [Try.params6] at hA hval
  obtain ⟨v0, vs0, d0, ds0, p0, q0, hargs, rfl, rfl, h0, r0⟩ := trodAll_cons hA
  obtain ⟨v1, vs1, d1, ds1, p1, q1, rfl, rfl, rfl, h1, r1⟩ := trodAll_cons r0
  obtain ⟨rfl, rfl, rfl⟩ := trodAll_nil r1
  obtain rfl : args = #[v0, v1] := by cases args; simp_all
  obtain ⟨rfl, rfl⟩ := trodVars_none hV
  obtain ⟨a0, len0, cap0, rfl⟩ := okWide_slice Try.underlying22 (hval 0 22 v0 rfl rfl)
  have k0 := h0
  have lt0 : ∀ x ∈ p0, x.block < W.heap.size := by obtain ⟨m, hm⟩ := k0; exact DataW.trod_lt m _ _ _ hm
  obtain ⟨z0, w0⟩ : ∃ zs, IsRow .u8 W a0 len0 cap0 zs := by
    obtain ⟨fuel, hf⟩ := h0
    rcases open_ints Try.underlying22 Try.underlying5 (by kernel_rfl) hf with ⟨hcs, _⟩ | ⟨x, l, c, zs, hcs, _, hl, hm, hz, _, hcell, hwz⟩
    · simp [Value.cells] at hcs
      obtain ⟨rfl, rfl, rfl⟩ := hcs
      exact ⟨[], .inl ⟨rfl, rfl, rfl, rfl⟩⟩
    · simp [Value.cells] at hcs
      obtain ⟨rfl, rfl, rfl⟩ := hcs
      exact ⟨zs, .inr ⟨_, rfl, hl, hm, by simpa using hz, hcell, hwz⟩⟩
  obtain ⟨a1, len1, cap1, rfl⟩ := okWide_slice Try.underlying22 (hval 1 22 v1 rfl rfl)
  have k1 := h1
  have lt1 : ∀ x ∈ p1, x.block < W.heap.size := by obtain ⟨m, hm⟩ := k1; exact DataW.trod_lt m _ _ _ hm
  obtain ⟨z1, w1⟩ : ∃ zs, IsRow .u8 W a1 len1 cap1 zs := by
    obtain ⟨fuel, hf⟩ := h1
    rcases open_ints Try.underlying22 Try.underlying5 (by kernel_rfl) hf with ⟨hcs, _⟩ | ⟨x, l, c, zs, hcs, _, hl, hm, hz, _, hcell, hwz⟩
    · simp [Value.cells] at hcs
      obtain ⟨rfl, rfl, rfl⟩ := hcs
      exact ⟨[], .inl ⟨rfl, rfl, rfl, rfl⟩⟩
    · simp [Value.cells] at hcs
      obtain ⟨rfl, rfl, rfl⟩ := hcs
      exact ⟨zs, .inr ⟨_, rfl, hl, hm, by simpa using hz, hcell, hwz⟩⟩
  clear hA0 hval0
  refine (walk a0 len0 cap0 z0 a1 len1 cap1 z1 W w0 w1).mono fun e W' ⟨he, bel⟩ => ?_
  subst he
  exact ⟨_, rfl, _, _, _, [], _, [], hW', trodAll_mk1 (shut_bool Try.underlying4 _), (trodAll_cons_mk (Below.trod laidOut (by kernel_rfl) (of_decide_eq_true (by kernel_rfl)) k0 bel lt0) (trodAll_cons_mk (Below.trod laidOut (by kernel_rfl) (of_decide_eq_true (by kernel_rfl)) k1 bel lt1) trodAll_mk0)), rfl, bel.frame _, fun h => by cases h⟩
theorem over : Rows.fnFindManyRow.holds Try.pinned (OpenSpec.ofChange Rows.fnFindManySpec) :=
  OpenClaim.holds_of_wide 6 Try.f6 rfl rfl rfl rfl rfl rfl rfl ⟨rfl, rfl, rfl, rfl, rfl⟩ rfl rfl rfl rfl rfl (by kernel_rfl) Try.func6 (by kernel_rfl)
    (of_decide_eq_true (by kernel_rfl)) (by unfold Func.isWrapper; first | (rw [if_pos (by decide +kernel)]; kernel_rfl) | (rw [if_neg (by decide +kernel)]; exact ⟨rfl, rfl⟩))
    (fun os started H enc _ => lifted os started H enc)
theorem proved : Rows.FnFindManySaid := over
end Go.Proofs.Ytfojlpnnhghcbaa.fnFindMany
