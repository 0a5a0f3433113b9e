/- FnExactLineOk: LineOk of the program answers as the model's, at every line. No condition. -/
import Derived.Test.YtdnedoafgfpnfaaLnE
namespace Go.Proofs.Ytdnedoafgfpnfaa.fnExactLineOk
open Go.ChangeShapes Go.WideShapes Go.ChangeAt Go.RowKit
set_option linter.unusedVariables false
theorem strs_wide {w : World} {a : Option Addr} {len cap : Nat} {ss : List ByteArray} (h : IsStrs w a len cap ss) : len ≤ maxLen := by
  rcases h with ⟨_, rfl, _⟩ | ⟨x, _, h1, h2, _⟩
  · exact Nat.zero_le _
  · omega
set_option maxRecDepth 100000 in
set_option maxHeartbeats 8000000 in
theorem walk (la lb ld lm : Int) (am : Option Addr) (len_m cap_m : Nat) (zm : List ByteArray) (nx : Int) (ag : Option Addr) (len_g cap_g : Nat) (zg : List ByteArray) (lT : ByteArray) (lto : Bool) (lH : ByteArray) (lho : Bool) (at_ : Option Addr) (len_t cap_t : Nat) (zt : List ByteArray) (ab : Option Addr) (len_b cap_b : Nat) (zb : List ByteArray) (w : World) (wla : (Lit.int .i64 la).wf = true) (wm : IsStrs w am len_m cap_m zm) (wnx : (Lit.int .i64 nx).wf = true) (wg : IsStrs w ag len_g cap_g zg) (wT : lT.size ≤ maxLen) (wH : lH.size ≤ maxLen) (wt : IsStrs w at_ len_t cap_t zt) (wb : IsStrs w ab len_b cap_b zb) :
    Calls Try.prog 5 #[lnV la lb ld lm (.slice am len_m cap_m) nx (.slice ag len_g cap_g) lT lto lH lho (.slice at_ len_t cap_t) (.slice ab len_b cap_b)] w fun e w' => e = .returned (.bool true) ∧ Below w.heap.size w w' := by
  have hw_ms := strs_wide wm
  obtain ⟨hr_ms, hl_ms, hz_ms⟩ := RS.of_arg wm
  generalize zm.take len_m = ms at hr_ms hl_ms hz_ms
  subst hl_ms
  have hw_gs := strs_wide wg
  obtain ⟨hr_gs, hl_gs, hz_gs⟩ := RS.of_arg wg
  generalize zg.take len_g = gs at hr_gs hl_gs hz_gs
  subst hl_gs
  have hw_ts := strs_wide wt
  obtain ⟨hr_ts, hl_ts, hz_ts⟩ := RS.of_arg wt
  generalize zt.take len_t = ts at hr_ts hl_ts hz_ts
  subst hl_ts
  have hw_bs := strs_wide wb
  obtain ⟨hr_bs, hl_bs, hz_bs⟩ := RS.of_arg wb
  generalize zb.take len_b = bs at hr_bs hl_bs hz_bs
  subst hl_bs
  have HR := Lib.hid (show RL w w.heap.size (.slice am ms.length cap_m) ms (.slice ag gs.length cap_g) gs (.slice at_ ts.length cap_t) ts (.slice ab bs.length cap_b) bs from ⟨hr_ms, hr_gs, hr_ts, hr_bs⟩)
  have HZ := Lib.hid hz_ms
  have HWM := Lib.hid (show wideS ms from ⟨hw_ms, hz_ms⟩)
  have HWG := Lib.hid (show wideS gs from ⟨hw_gs, hz_gs⟩)
  have HWT := Lib.hid (show wideS ts from ⟨hw_ts, hz_ts⟩)
  have HWB := Lib.hid (show wideS bs from ⟨hw_bs, hz_bs⟩)
  have hzl := zero_line
  have HB := Lib.hid ((Below.refl _ w).alloc (Nat.le_refl _) (.cells #[.int .i64 la, .int .i64 lb, .int .i64 ld, .int .i64 lm, .slice am ms.length cap_m, .int .i64 nx, .slice ag gs.length cap_g, .string lT, .bool lto, .string lH, .bool lho, .slice at_ ts.length cap_t, .slice ab bs.length cap_b] 48))
  have HR := Lib.hid (HR.out.below ((Below.refl _ w).alloc (Nat.le_refl _) (.cells #[.int .i64 la, .int .i64 lb, .int .i64 ld, .int .i64 lm, .slice am ms.length cap_m, .int .i64 nx, .slice ag gs.length cap_g, .string lT, .bool lto, .string lH, .bool lho, .slice at_ ts.length cap_t, .slice ab bs.length cap_b] 48)))
  have hk := BK.new w #[.int .i64 la, .int .i64 lb, .int .i64 ld, .int .i64 lm, .slice am ms.length cap_m, .int .i64 nx, .slice ag gs.length cap_g, .string lT, .bool lto, .string lH, .bool lho, .slice at_ ts.length cap_t, .slice ab bs.length cap_b] 48
  obtain ⟨c0, c1, c2, c3, c4, c5, c6, c7, c8, c9, c10, c11, c12⟩ := cells13 hk
  have HK := Lib.hid hk
  clear hk hr_ms hr_gs hr_ts hr_bs hz_ms hz_gs hz_ts hz_bs wm wg wt wb
  have HRT := Lib.hid (HR.out.mono (B' := (w.alloc (.cells #[.int .i64 la, .int .i64 lb, .int .i64 ld, .int .i64 lm, .slice am ms.length cap_m, .int .i64 nx, .slice ag gs.length cap_g, .string lT, .bool lto, .string lH, .bool lho, .slice at_ ts.length cap_t, .slice ab bs.length cap_b] 48)).heap.size) (by simp))
  go_enter Try.func5, Try.ntmps5
  go_wp2_with fail
  refine (szLine_any la lb ld lm _ ms nx _ gs lT lto lH lho _ ts _ bs _ (HRT.out) HWM.out HWG.out wT wH HWT.out HWB.out).mono ?_
  rintro e x1 ⟨z, rfl, hbx, hz⟩
  have hk := HK.out.from hbx
  obtain ⟨c0, c1, c2, c3, c4, c5, c6, c7, c8, c9, c10, c11, c12⟩ := cells13 hk
  have HR := Lib.hid (HR.out.below (hbx.mono HB.out.size))
  have HB := Lib.hid (HB.out.trans (hbx.mono HB.out.size))
  have HK := Lib.hid hk
  clear hk hbx
  clear HRT
  rcases hz with rfl | ⟨hz0, hz1, hsm⟩
  · go_wp2
    go_ret
    exact ⟨rfl, HB.out⟩
  have HSM := Lib.hid hsm
  clear hsm
  go_wp2_with fail
  refine (toLine_any la lb ld lm _ ms nx _ gs lT lto lH lho _ ts _ bs _ w.heap.size HR.out HB.out.size HSM.out).mono ?_
  rintro e x2 ⟨um, ug, ut, ub, rfl, hol, hbx⟩
  have hk := HK.out.from hbx
  obtain ⟨c0, c1, c2, c3, c4, c5, c6, c7, c8, c9, c10, c11, c12⟩ := cells13 hk
  have HR := Lib.hid (HR.out.below (hbx.mono HB.out.size))
  have HB := Lib.hid (HB.out.trans (hbx.mono HB.out.size))
  have HK := Lib.hid hk
  obtain ⟨Am1, Cm1, hsh⟩ := hol.1.reads.shape
  subst hsh
  obtain ⟨Ag1, Cg1, hsh⟩ := hol.2.1.reads.shape
  subst hsh
  obtain ⟨At1, Ct1, hsh⟩ := hol.2.2.1.reads.shape
  subst hsh
  obtain ⟨Ab1, Cb1, hsh⟩ := hol.2.2.2.reads.shape
  subst hsh
  have HO1 := Lib.hid hol
  clear hol
  clear hk hbx
  go_wp2_with fail
  refine (specLineOk_any la lb ld lm nx _ ms _ _ _ _ _ _ _ _ _ lT lH lto lho _ _ HO1.out.1.reads (Nat.le_refl _) wla wT wH hw_ms HZ.out).mono ?_
  rintro e x3 ⟨rfl, hbx⟩
  have hk := HK.out.from hbx
  obtain ⟨c0, c1, c2, c3, c4, c5, c6, c7, c8, c9, c10, c11, c12⟩ := cells13 hk
  have HR := Lib.hid (HR.out.below (hbx.mono HB.out.size))
  have HB := Lib.hid (HB.out.trans (hbx.mono HB.out.size))
  have HK := Lib.hid hk
  clear hk hbx
  clear HO1
  go_wp2_with fail
  refine (toLine_any la lb ld lm _ ms nx _ gs lT lto lH lho _ ts _ bs _ w.heap.size HR.out HB.out.size HSM.out).mono ?_
  rintro e x4 ⟨um, ug, ut, ub, rfl, hol, hbx⟩
  obtain ⟨Am2, Cm2, hsh⟩ := hol.1.reads.shape
  subst hsh
  obtain ⟨Ag2, Cg2, hsh⟩ := hol.2.1.reads.shape
  subst hsh
  obtain ⟨At2, Ct2, hsh⟩ := hol.2.2.1.reads.shape
  subst hsh
  obtain ⟨Ab2, Cb2, hsh⟩ := hol.2.2.2.reads.shape
  subst hsh
  have hk := (HK.out.from hbx).alloc (.cells #[.int .i64 la, .int .i64 lb, .int .i64 ld, .int .i64 lm, .slice Am2 ms.length Cm2, .int .i64 nx, .slice Ag2 gs.length Cg2, .string lT, .bool lto, .string lH, .bool lho, .slice At2 ts.length Ct2, .slice Ab2 bs.length Cb2] 31)
  have hj := BK.new x4 #[.int .i64 la, .int .i64 lb, .int .i64 ld, .int .i64 lm, .slice Am2 ms.length Cm2, .int .i64 nx, .slice Ag2 gs.length Cg2, .string lT, .bool lto, .string lH, .bool lho, .slice At2 ts.length Ct2, .slice Ab2 bs.length Cb2] 31
  obtain ⟨c0, c1, c2, c3, c4, c5, c6, c7, c8, c9, c10, c11, c12⟩ := cells13 hk
  obtain ⟨e0, e1, e2, e3, e4, e5, e6, e7, e8, e9, e10, e11, e12⟩ := cells13 hj
  have HR := Lib.hid ((HR.out.below (hbx.mono HB.out.size)).below ((Below.refl _ _).alloc (Nat.le_trans HB.out.size hbx.size) (.cells #[.int .i64 la, .int .i64 lb, .int .i64 ld, .int .i64 lm, .slice Am2 ms.length Cm2, .int .i64 nx, .slice Ag2 gs.length Cg2, .string lT, .bool lto, .string lH, .bool lho, .slice At2 ts.length Ct2, .slice Ab2 bs.length Cb2] 31)))
  have HB := Lib.hid ((HB.out.trans (hbx.mono HB.out.size)).alloc (Nat.le_trans HB.out.size hbx.size) (.cells #[.int .i64 la, .int .i64 lb, .int .i64 ld, .int .i64 lm, .slice Am2 ms.length Cm2, .int .i64 nx, .slice Ag2 gs.length Cg2, .string lT, .bool lto, .string lH, .bool lho, .slice At2 ts.length Ct2, .slice Ab2 bs.length Cb2] 31))
  have HO2 := Lib.hid (hol.below ((Below.refl _ _).alloc (Nat.le_refl _) (.cells #[.int .i64 la, .int .i64 lb, .int .i64 ld, .int .i64 lm, .slice Am2 ms.length Cm2, .int .i64 nx, .slice Ag2 gs.length Cg2, .string lT, .bool lto, .string lH, .bool lho, .slice At2 ts.length Ct2, .slice Ab2 bs.length Cb2] 31)))
  have HK := Lib.hid hk
  have HJ := Lib.hid hj
  clear hol hk hj hbx
  go_wp2_with fail
  refine (implLineOk_any la lb ld lm nx _ ms _ _ _ _ _ _ _ _ _ lT lH lto lho _ _ HO2.out.1.reads (Nat.le_refl _) wla wT wH hw_ms HZ.out).mono ?_
  rintro e x5 ⟨rfl, hbx⟩
  have HK := Lib.hid (HK.out.from hbx)
  have HJ := Lib.hid (HJ.out.from hbx)
  have HO2 := Lib.hid (HO2.out.below hbx)
  have HR := Lib.hid (HR.out.below (hbx.mono HB.out.size))
  have HB := Lib.hid (HB.out.trans (hbx.mono HB.out.size))
  clear hbx
  generalize x4.heap.size = gj at *
  obtain ⟨q, hq⟩ : ∃ q, lineB ⟨la, lb, ld, lm⟩ ms nx gs.length ⟨lT.data.toList, lto⟩ ⟨lH.data.toList, lho⟩ ts.length bs.length = q := ⟨_, rfl⟩
  rw [hq]
  have hqq : (q != q) = false := by simp
  clear hq
  go_wp2_with fail
  have hKb := HK.out.drew
  have hJ := HJ.out.drew
  have hO := HO2.out.below (Below.refl _ _).drew
  have hR := HR.out.below (Below.refl _ _).drew
  have hB := HB.out.drew
  have hS := And.intro (cells13 hKb) (cells13 hJ)
  refine wp_region_held_drew (S := (fun wx => (wx.cell? ⟨w.heap.size, 0, none⟩ = some (.int .i64 la) ∧ wx.cell? ⟨w.heap.size, 1, none⟩ = some (.int .i64 lb) ∧ wx.cell? ⟨w.heap.size, 2, none⟩ = some (.int .i64 ld) ∧ wx.cell? ⟨w.heap.size, 3, none⟩ = some (.int .i64 lm) ∧ wx.cell? ⟨w.heap.size, 4, none⟩ = some (.slice am ms.length cap_m) ∧ wx.cell? ⟨w.heap.size, 5, none⟩ = some (.int .i64 nx) ∧ wx.cell? ⟨w.heap.size, 6, none⟩ = some (.slice ag gs.length cap_g) ∧ wx.cell? ⟨w.heap.size, 7, none⟩ = some (.string lT) ∧ wx.cell? ⟨w.heap.size, 8, none⟩ = some (.bool lto) ∧ wx.cell? ⟨w.heap.size, 9, none⟩ = some (.string lH) ∧ wx.cell? ⟨w.heap.size, 10, none⟩ = some (.bool lho) ∧ wx.cell? ⟨w.heap.size, 11, none⟩ = some (.slice at_ ts.length cap_t) ∧ wx.cell? ⟨w.heap.size, 12, none⟩ = some (.slice ab bs.length cap_b)) ∧ (wx.cell? ⟨gj, 0, none⟩ = some (.int .i64 la) ∧ wx.cell? ⟨gj, 1, none⟩ = some (.int .i64 lb) ∧ wx.cell? ⟨gj, 2, none⟩ = some (.int .i64 ld) ∧ wx.cell? ⟨gj, 3, none⟩ = some (.int .i64 lm) ∧ wx.cell? ⟨gj, 4, none⟩ = some (.slice Am2 ms.length Cm2) ∧ wx.cell? ⟨gj, 5, none⟩ = some (.int .i64 nx) ∧ wx.cell? ⟨gj, 6, none⟩ = some (.slice Ag2 gs.length Cg2) ∧ wx.cell? ⟨gj, 7, none⟩ = some (.string lT) ∧ wx.cell? ⟨gj, 8, none⟩ = some (.bool lto) ∧ wx.cell? ⟨gj, 9, none⟩ = some (.string lH) ∧ wx.cell? ⟨gj, 10, none⟩ = some (.bool lho) ∧ wx.cell? ⟨gj, 11, none⟩ = some (.slice At2 ts.length Ct2) ∧ wx.cell? ⟨gj, 12, none⟩ = some (.slice Ab2 bs.length Cb2)))) (by kernel_rfl) hS (fun hHeld => ?_)
  refine wpAnyH_take (i := 0) (v := ?_) rfl (by kernel_rfl) (by kernel_rfl) (by kernel_rfl) (fun _ _ _ h => h) (Or.inl ⟨by rfl, ?_⟩) (by assumption) ?_
  rotate_left
  · intro wq hSw
    (try dsimp only at hSw)
    (try simp only [List.getElem_toArray, List.getElem_cons_zero])
    go_simp
    (try with_reducible rfl)
  simp only [Act.put, List.getElem_toArray, List.getElem_cons_zero, List.setIfInBounds_toArray, List.set_cons_zero, List.set_cons_succ]
  refine wpAnyH_take (i := 1) (v := ?_) rfl (by kernel_rfl) (by kernel_rfl) (by kernel_rfl) (fun _ _ _ h => h) (Or.inl ⟨by rfl, ?_⟩) (by assumption) ?_
  rotate_left
  · intro wq hSw
    (try dsimp only at hSw)
    (try simp only [List.getElem_toArray, List.getElem_cons_succ, List.getElem_cons_zero])
    go_simp
    (try with_reducible rfl)
  simp only [Act.put, List.getElem_toArray, List.getElem_cons_succ, List.getElem_cons_zero, List.setIfInBounds_toArray, List.set_cons_zero, List.set_cons_succ]
  refine wpAnyH_ready (rs := [2]) (by kernel_rfl) (by simp) ?_
  refine AllReadyH.cons rfl (fun K hK => ?_) AllReadyH.nil
  (try simp only [List.getElem_toArray, List.getElem_cons_succ, List.getElem_cons_zero])
  go_simp
  go_at_call 20
  refine (toLine_any la lb ld lm _ ms nx _ gs lT lto lH lho _ ts _ bs _ w.heap.size hR hB.size HSM.out).mono ?_
  rintro e x6 ⟨um, ug, ut, ub, rfl, hol, hbx⟩
  have hKb := hKb.from hbx
  have hJ := hJ.from hbx
  have hO := hO.below hbx
  have hB := hB.trans (hbx.mono hB.size)
  have hS := And.intro (cells13 hKb) (cells13 hJ)
  refine hK.out _ _ hS (fun hHeld => ?_)
  clear hK K
  refine wpAnyH_ready (rs := [3]) (by kernel_rfl) (by simp) ?_
  refine AllReadyH.cons rfl (fun K hK => ?_) AllReadyH.nil
  (try simp only [List.getElem_toArray, List.getElem_cons_succ, List.getElem_cons_zero])
  go_simp
  go_at_call 21
  refine (eqLine_same la lb ld lm _ ms nx _ gs lT lto lH lho _ ts _ bs _ _ _ _ _ _ _ hO.reads hol.reads (Nat.le_refl _) (Nat.le_refl _) HSM.out.1.1 HSM.out.2.1.1 HSM.out.2.2.2.2.1.1 HSM.out.2.2.2.2.2.1).mono ?_
  rintro e x7 ⟨rfl, hby⟩
  have hKb := hKb.from hby
  have hJ := hJ.from hby
  have hB := hB.trans (hby.mono hB.size)
  have hS := And.intro (cells13 hKb) (cells13 hJ)
  refine hK.out _ _ hS (fun hHeld => ?_)
  clear hK K
  refine wpAnyH_take (i := 4) (v := ?_) rfl (by kernel_rfl) (by kernel_rfl) (by kernel_rfl) (fun _ _ _ h => h) (Or.inl ⟨by rfl, ?_⟩) (by assumption) ?_
  rotate_left
  · intro wq hSw
    (try dsimp only at hSw)
    (try simp only [List.getElem_toArray, List.getElem_cons_succ, List.getElem_cons_zero])
    go_simp
    (try with_reducible rfl)
  simp only [Act.put, List.getElem_toArray, List.getElem_cons_succ, List.getElem_cons_zero, List.setIfInBounds_toArray, List.set_cons_zero, List.set_cons_succ]
  refine wpAnyH_done (by kernel_rfl) ?_ _
  have HB := Lib.hid hB
  clear hKb hJ hO hB hS hol hbx hby
  go_wp2
  go_ret
  exact ⟨rfl, HB.out⟩
theorem own : ownKnob Try.prog.godebug = none := by kernel_rfl
theorem laidOut : laidOutB Try.prog = true := by kernel_rfl
set_option maxRecDepth 100000 in
theorem lifted (os : Os) (started : os.Started) (H : Type) (enc : TypeId × Value → H) :
    ReturnsInHanded {} Try.checked os 5 .any (Rows.fnExactLineOkSpec.pre6 enc Try.prog Try.f5 Rows.fnExactLineOkRow.domain false) (Rows.fnExactLineOkSpec.post enc Try.prog Try.f5 false true false false) := by
  refine returnsInHanded_of_change (C := Try.checked) own started (by kernel_rfl) Try.func5
    (ChangeSpec.witness6 (enc := enc) (C := Try.checked) false ⟨#[], #[.agg #[.int .i64 0, .int .i64 0, .int .i64 0, .int .i64 0, .slice none 0 0, .int .i64 0, .slice none 0 0, .string .empty, .bool false, .string .empty, .bool false, .slice none 0 0, .slice none 0 0]], []⟩ 8 (by kernel_rfl) (by kernel_rfl) (by kernel_rfl) (by kernel_rfl)) ?_
  intro W base args ds gs before hval0 hW hcnd _
  have hval : ∀ (j : Nat) t v, Try.f5.params[j]? = some t → args[j]? = some v → Value.okWide Try.prog W .any base t v := hval0
  have hW' := hW
  obtain ⟨p, q, hA0, hV, rfl, hfz, hnd⟩ := hW
  have hA : DataW.TrodAll enc Try.prog W 0 (fun _ => true) true Try.f5.params.toList args.toList ds p := hA0
  rw [Try.params5] at hA hval
  obtain ⟨v0, vs0, d0, ds0, p0, q0, hargs, rfl, rfl, h0, r0⟩ := trodAll_cons hA
  obtain ⟨rfl, rfl, rfl⟩ := trodAll_nil r0
  obtain rfl : args = #[v0] := by cases args; simp_all
  obtain ⟨rfl, rfl⟩ := trodVars_none hV
  have k0 := h0
  have lt0 : ∀ x ∈ p0, x.block < W.heap.size := by obtain ⟨m, hm⟩ := k0; exact DataW.trod_lt m _ _ _ hm
  obtain ⟨la, lb, ld, lm, am, len_m, cap_m, zm, nx, ag, len_g, cap_g, zg, lT, lto, lH, lho, at_, len_t, cap_t, zt, ab, len_b, cap_b, zb, hline0, wla, wm, wnx, wg, wT, wH, wt, wb⟩ := isLine_open (hval 0 48 v0 rfl rfl) h0
  subst hline0
  clear hA0 hval0
  refine (walk la lb ld lm am len_m cap_m zm nx ag len_g cap_g zg lT lto lH lho at_ len_t cap_t zt ab len_b cap_b zb W wla wm wnx wg wT wH wt wb).mono fun e W' ⟨he, bel⟩ => ?_
  subst he
  exact ⟨_, rfl, _, _, _, [], _, [], hW', trodAll_mk1 (shut_bool Try.underlying4 _), (trodAll_cons_mk (Below.trod laidOut (by kernel_rfl) (of_decide_eq_true (by kernel_rfl)) k0 bel lt0) trodAll_mk0), rfl, bel.frame _, fun h => by cases h⟩
theorem over : Rows.fnExactLineOkRow.holds Try.pinned (OpenSpec.ofChange Rows.fnExactLineOkSpec) :=
  OpenClaim.holds_of_wide 5 Try.f5 rfl rfl rfl rfl rfl rfl rfl ⟨rfl, rfl, rfl, rfl, rfl⟩ rfl rfl rfl rfl rfl (by kernel_rfl) Try.func5 (by kernel_rfl)
    (of_decide_eq_true (by kernel_rfl)) (by unfold Func.isWrapper; first | (rw [if_pos (by decide +kernel)]; kernel_rfl) | (rw [if_neg (by decide +kernel)]; exact ⟨rfl, rfl⟩))
    (fun os started H enc _ => lifted os started H enc)
theorem proved : Rows.FnExactLineOkSaid := over
end Go.Proofs.Ytdnedoafgfpnfaa.fnExactLineOk
