/- FnExactLineCalm: LineCalm of the program answers as the model's, at every line and every number of rounds; it writes into no argument, and its answer owns its memory. No condition. -/
import Derived.Test.YtmggoiabcboaiaaGreatZc1
import Derived.Test.YtmggoiabcboaiaaGreatZc2
import Derived.Test.YtmggoiabcboaiaaGreatZc3
import Derived.Test.YtmggoiabcboaiaaGreatZc4
import Derived.Test.YtmggoiabcboaiaaGreatZc5
import Derived.Test.YtmggoiabcboaiaaGreatZc6
import Derived.Test.YtmggoiabcboaiaaGreatZc7
import Derived.Test.YtmggoiabcboaiaaGreatZc8
import Derived.Test.YtmggoiabcboaiaaGreatZc9
import Derived.Test.YtmggoiabcboaiaaGreatZc10
import Derived.Test.YtmggoiabcboaiaaGreatZc11
import Derived.Test.YtmggoiabcboaiaaGreatZc12
import Derived.Test.YtmggoiabcboaiaaGreatZc13
import Derived.Test.YtmggoiabcboaiaaGreatZc14
import Derived.Test.YtmggoiabcboaiaaGreatZc15
import Derived.Test.YtmggoiabcboaiaaGreatZc16
import Derived.Test.YtmggoiabcboaiaaGreatZc17
import Derived.Test.YtmggoiabcboaiaaGreatZc18
import Derived.Test.YtmggoiabcboaiaaGreatZc19
import Derived.Test.YtmggoiabcboaiaaGreatZc20
import Derived.Test.YtmggoiabcboaiaaGreatZc21
import Derived.Test.YtmggoiabcboaiaaGreatZc22
import Derived.Test.YtmggoiabcboaiaaGreatZc23
import Derived.Test.YtmggoiabcboaiaaGreatZc24
import Derived.Test.YtmggoiabcboaiaaGreatZc25
import Derived.Test.YtmggoiabcboaiaaGreatZc26
import Derived.Test.YtmggoiabcboaiaaGreatZc27
import Derived.Test.YtmggoiabcboaiaaGreatZc28
import Derived.Test.YtmggoiabcboaiaaGreatZc29
import Derived.Test.YtmggoiabcboaiaaGreatZc30
import Derived.Test.YtmggoiabcboaiaaGreatZc31
import Derived.Test.YtmggoiabcboaiaaGreatZc32
namespace Go.Proofs.YtmggoiabcboaiaaGreat.fnExactLineCalm
open Go.ChangeShapes Go.WideShapes Go.ChangeAt Go.RowKit
set_option linter.unusedVariables false
theorem strs_wide {w : World} {a : Option Addr} {len cap : Nat} {ss : List ByteArray} (h : IsStrs w a len cap ss) : len ≤ maxLen := by
 rcases h with ⟨_, rfl, _⟩ | ⟨x, _, h1, h2, _⟩
 ·exact Nat.zero_le _
 ·omega
/-- a line of these fields, its rows from base on -/
def ResX (base : Nat) (ra rb rd rm : Int) (pm : List ByteArray) (rn : Int) (pg : List ByteArray) (rT : ByteArray) (rto : Bool) (rH : ByteArray) (rho : Bool) (pt pb : List ByteArray) (w : World) (e : Ending) (w' : World) : Prop :=
 ∃ um ug ut ub, e = .returned (lnV ra rb rd rm um rn ug rT rto rH rho ut ub) ∧ OL w' base um pm ug pg ut pt ub pb ∧ Below w.heap.size w w'
def ResI (ra rb rd rm : Int) (pm : List ByteArray) (rn : Int) (pg : List ByteArray) (rT : ByteArray) (rto : Bool) (rH : ByteArray) (rho : Bool) (pt pb : List ByteArray) (w : World) (e : Ending) (w' : World) : Prop :=
 ∃ um ug ut ub, e = .returned (lnV ra rb rd rm um rn ug rT rto rH rho ut ub) ∧ OL w' w.heap.size um pm ug pg ut pt ub pb ∧ Below w.heap.size w w' ∧ Ap4 um ug ut ub
theorem calm_small {a b d m nx : Int} {ms gs ts bs : List ByteArray} {T H : ByteArray} {tO hO : Bool} (hz : (∀ s ∈ gs, s.size ≤ 1048576) ∧ (∀ s ∈ ts, s.size ≤ 1048576) ∧ (∀ s ∈ bs, s.size ≤ 1048576)) (r : Int) :
  (calmRes (mkLs a b d m ms nx gs T tO H hO ts bs) (okLn a b d m ms nx gs T tO H hO ts bs) r).ms.length ≤ 6 ∧ (calmRes (mkLs a b d m ms nx gs T tO H hO ts bs) (okLn a b d m ms nx gs T tO H hO ts bs) r).gs.length ≤ 6 ∧ (calmRes (mkLs a b d m ms nx gs T tO H hO ts bs) (okLn a b d m ms nx gs T tO H hO ts bs) r).ts.length ≤ 6 ∧ (calmRes (mkLs a b d m ms nx gs T tO H hO ts bs) (okLn a b d m ms nx gs T tO H hO ts bs) r).bs.length ≤ 6 := by
 unfold calmRes
 by_cases hc : okLn a b d m ms nx gs T tO H hO ts bs = true ∧ 0 ≤ r ∧ r ≤ 12
 ·rw [if_pos hc]
  have h := Ls.Ok.calmN r.toNat (okLn_yes hc.1 hz).1
  have h1 := h.ml
  have h2 := h.gl
  have h3 := h.tl
  have h4 := h.bl
  exact ⟨h1, by omega, by omega, by omega⟩
 ·rw [if_neg hc]
  exact ⟨Nat.zero_le _, Nat.zero_le _, Nat.zero_le _, Nat.zero_le _⟩
set_option maxRecDepth 100000 in
set_option maxHeartbeats 8000000 in
theorem walk (la lb ld lm : Int) (am : Option Addr) (len_m cap_m : Nat) (zm : List ByteArray) (nx : Int) (ag : Option Addr) (len_g cap_g : Nat) (zg : List ByteArray) (lT : ByteArray) (lto : Bool) (lH : ByteArray) (lho : Bool) (at_ : Option Addr) (len_t cap_t : Nat) (zt : List ByteArray) (ab : Option Addr) (len_b cap_b : Nat) (zb : List ByteArray) (a1 : Int) (w : World) (wla : (Lit.int .i64 la).wf = true) (wm : IsStrs w am len_m cap_m zm) (wnx : (Lit.int .i64 nx).wf = true) (wg : IsStrs w ag len_g cap_g zg) (wT : lT.size ≤ maxLen) (wH : lH.size ≤ maxLen) (wt : IsStrs w at_ len_t cap_t zt) (wb : IsStrs w ab len_b cap_b zb) (w1 : (Lit.int .i64 a1).wf = true) :
  Calls Tryz.prog 8 #[lnV la lb ld lm (.slice am len_m cap_m) nx (.slice ag len_g cap_g) lT lto lH lho (.slice at_ len_t cap_t) (.slice ab len_b cap_b), .int .i64 a1] w fun e w' => e = .returned (.bool true) ∧ Below w.heap.size w w' := by
 have hw_ms := strs_wide wm
 obtain ⟨hr_ms, hl_ms, hz_ms⟩ := RS.of_arg wm
 generalize zm.take len_m = ms at hr_ms hl_ms hz_ms
 subst hl_ms
 have hw_gs := strs_wide wg
 obtain ⟨hr_gs, hl_gs, hz_gs⟩ := RS.of_arg wg
 generalize zg.take len_g = gs at hr_gs hl_gs hz_gs
 subst hl_gs
 have hw_ts := strs_wide wt
 obtain ⟨hr_ts, hl_ts, hz_ts⟩ := RS.of_arg wt
 generalize zt.take len_t = ts at hr_ts hl_ts hz_ts
 subst hl_ts
 have hw_bs := strs_wide wb
 obtain ⟨hr_bs, hl_bs, hz_bs⟩ := RS.of_arg wb
 generalize zb.take len_b = bs at hr_bs hl_bs hz_bs
 subst hl_bs
 have HR := Lib.hid (show RL w w.heap.size (.slice am ms.length cap_m) ms (.slice ag gs.length cap_g) gs (.slice at_ ts.length cap_t) ts (.slice ab bs.length cap_b) bs from ⟨hr_ms, hr_gs, hr_ts, hr_bs⟩)
 have HZ := Lib.hid hz_ms
 have HWM := Lib.hid (show wideS ms from ⟨hw_ms, hz_ms⟩)
 have HWG := Lib.hid (show wideS gs from ⟨hw_gs, hz_gs⟩)
 have HWT := Lib.hid (show wideS ts from ⟨hw_ts, hz_ts⟩)
 have HWB := Lib.hid (show wideS bs from ⟨hw_bs, hz_bs⟩)
 have HB := Lib.hid (Below.refl w.heap.size w)
 clear hr_ms hr_gs hr_ts hr_bs hz_ms hz_gs hz_ts hz_bs wm wg wt wb
 have hzl := zero_line
 have hba := (Below.refl _ w).alloc (Nat.le_refl _) (.cells #[.int .i64 la, .int .i64 lb, .int .i64 ld, .int .i64 lm, .slice am ms.length cap_m, .int .i64 nx, .slice ag gs.length cap_g, .string lT, .bool lto, .string lH, .bool lho, .slice at_ ts.length cap_t, .slice ab bs.length cap_b] 55)
 have hnew := BK.new w #[.int .i64 la, .int .i64 lb, .int .i64 ld, .int .i64 lm, .slice am ms.length cap_m, .int .i64 nx, .slice ag gs.length cap_g, .string lT, .bool lto, .string lH, .bool lho, .slice at_ ts.length cap_t, .slice ab bs.length cap_b] 55
 have HR := Lib.hid (HR.out.below (hba.mono HB.out.size))
 have HB := Lib.hid (HB.out.trans (hba.mono HB.out.size))
 have HK := Lib.hid hnew
 clear hnew hba
 have HRT := Lib.hid (HR.out.mono (B' := (w.alloc (.cells #[.int .i64 la, .int .i64 lb, .int .i64 ld, .int .i64 lm, .slice am ms.length cap_m, .int .i64 nx, .slice ag gs.length cap_g, .string lT, .bool lto, .string lH, .bool lho, .slice at_ ts.length cap_t, .slice ab bs.length cap_b] 55)).heap.size) (by simp))
 obtain ⟨c0, c1, c2, c3, c4, c5, c6, c7, c8, c9, c10, c11, c12⟩ := cells13 HK.out
 go_enter Tryz.func8, Tryz.ntmps8
 go_wp2_with fail
 clear c0 c1 c2 c3 c4 c5 c6 c7 c8 c9 c10 c11 c12
 refine (szLine_any la lb ld lm _ ms nx _ gs lT lto lH lho _ ts _ bs _ (HRT.out) HWM.out HWG.out wT wH HWT.out HWB.out).mono ?_
 rintro e x1 ⟨z, rfl, hbx, hz⟩
 clear HRT
 have HK := Lib.hid (HK.out.from hbx)
 have HR := Lib.hid (HR.out.below (hbx.mono HB.out.size))
 have HB := Lib.hid (HB.out.trans (hbx.mono HB.out.size))
 clear hbx
 rcases hz with rfl | ⟨hz0, hz1, hsm⟩
 ·obtain ⟨c0, c1, c2, c3, c4, c5, c6, c7, c8, c9, c10, c11, c12⟩ := cells13 HK.out
  go_wp2
  go_ret
  exact ⟨rfl, HB.out⟩
 have HSM := Lib.hid hsm
 clear hsm
 have hfew : fewLn ms gs lT lH ts bs := ⟨⟨HSM.out.2.2.1, HSM.out.2.2.2.1⟩, ⟨HSM.out.1.1, HSM.out.2.1.1, HSM.out.2.2.2.2.1.1, HSM.out.2.2.2.2.2.1⟩, HSM.out.1.2, HSM.out.2.1.2, HSM.out.2.2.2.2.1.2, HSM.out.2.2.2.2.2.2⟩
 have hsml := calm_small (a := la) (b := lb) (d := ld) (m := lm) (nx := nx) (ms := ms) (T := lT) (H := lH) (tO := lto) (hO := lho) ⟨HSM.out.2.1.2, HSM.out.2.2.2.2.1.2, HSM.out.2.2.2.2.2.2⟩ a1
 have hspec := fun (W : World) (vm vg vt vb : Value) (h : OL W 0 vm ms vg gs vt ts vb bs) => specLineCalm_any la lb ld lm nx vm ms vg gs vt ts vb bs lT lH lto lho a1 W h wla hfew
 have himpl := fun (W : World) (vm vg vt vb : Value) (h : RL W W.heap.size vm ms vg gs vt ts vb bs) => implLineCalm_any la lb ld lm nx vm ms vg gs vt ts vb bs lT lH lto lho a1 W W.heap.size h (Nat.le_refl _) wla hfew
 generalize calmRes (mkLs la lb ld lm ms nx gs lT lto lH lho ts bs) (okLn la lb ld lm ms nx gs lT lto lH lho ts bs) a1 = Z at hsml hspec himpl
 obtain ⟨⟨ra, rb, rd, rm⟩, pm, rn0, pg, ⟨fT, rto⟩, ⟨fH, rho⟩, pt, pb⟩ := Z
 obtain ⟨rn, hrn⟩ : ∃ x : Int, x = (rn0 : Int) := ⟨_, rfl⟩
 obtain ⟨rT, hrT⟩ : ∃ x, x = bzL fT := ⟨_, rfl⟩
 obtain ⟨rH, hrH⟩ : ∃ x, x = bzL fH := ⟨_, rfl⟩
 have HSP := Lib.hid (show ∀ (W : World) (vm vg vt vb : Value), OL W 0 vm ms vg gs vt ts vb bs → Calls Tryz.prog 20 #[lnV la lb ld lm vm nx vg lT lto lH lho vt vb, .int .i64 a1] W (ResX 0 ra rb rd rm pm rn pg rT rto rH rho pt pb W) from fun W vm vg vt vb h => (hspec W vm vg vt vb h).mono (fun e w' hh => by obtain ⟨um, ub, ug, ut, he, ho, hb⟩ := hh; rw [hrn, hrT, hrH]; exact ⟨um, ug, ut, ub, he, ho, hb⟩))
 have HIM := Lib.hid (show ∀ (W : World) (vm vg vt vb : Value), RL W W.heap.size vm ms vg gs vt ts vb bs → Calls Tryz.prog 17 #[lnV la lb ld lm vm nx vg lT lto lH lho vt vb, .int .i64 a1] W (ResI ra rb rd rm pm rn pg rT rto rH rho pt pb W) from fun W vm vg vt vb h => (himpl W vm vg vt vb h).mono (fun e w' hh => by obtain ⟨um, ub, ug, ut, he, ⟨ho, hap⟩, hb⟩ := hh; rw [hrn, hrT, hrH]; exact ⟨um, ug, ut, ub, he, ho, hb, hap⟩))
 have HL6 := Lib.hid (show pm.length ≤ 6 ∧ pg.length ≤ 6 ∧ pt.length ≤ 6 ∧ pb.length ≤ 6 from hsml)
 clear hfew hsml hspec himpl hrn hrT hrH
 obtain ⟨c0, c1, c2, c3, c4, c5, c6, c7, c8, c9, c10, c11, c12⟩ := cells13 HK.out
 go_wp2_with fail
 clear c0 c1 c2 c3 c4 c5 c6 c7 c8 c9 c10 c11 c12
 refine (toLineA_any la lb ld lm _ ms nx _ gs lT lto lH lho _ ts _ bs _ w.heap.size HR.out HB.out.size HSM.out).mono ?_
 rintro e x2 ⟨um, ug, ut, ub, rfl, hol, hbx, hap⟩
 obtain ⟨Am1, Cm1, hsh⟩ := hol.1.reads.shape
 subst hsh
 obtain ⟨Ag1, Cg1, hsh⟩ := hol.2.1.reads.shape
 subst hsh
 obtain ⟨At1, Ct1, hsh⟩ := hol.2.2.1.reads.shape
 subst hsh
 obtain ⟨Ab1, Cb1, hsh⟩ := hol.2.2.2.reads.shape
 subst hsh
 have HK := Lib.hid (HK.out.from hbx)
 have HR := Lib.hid (HR.out.below (hbx.mono HB.out.size))
 have HB := Lib.hid (HB.out.trans (hbx.mono HB.out.size))
 have HO1 := Lib.hid (hol.lmono (Nat.zero_le _))
 clear hol hbx hap
 obtain ⟨c0, c1, c2, c3, c4, c5, c6, c7, c8, c9, c10, c11, c12⟩ := cells13 HK.out
 go_wp2_with fail
 clear c0 c1 c2 c3 c4 c5 c6 c7 c8 c9 c10 c11 c12
 refine (HSP.out _ _ _ _ _ HO1.out).mono ?_
 rintro e x3 ⟨um, ug, ut, ub, rfl, hol, hbx⟩
 obtain ⟨Am2, Cm2, hsh⟩ := hol.1.reads.shape
 subst hsh
 obtain ⟨Ag2, Cg2, hsh⟩ := hol.2.1.reads.shape
 subst hsh
 obtain ⟨At2, Ct2, hsh⟩ := hol.2.2.1.reads.shape
 subst hsh
 obtain ⟨Ab2, Cb2, hsh⟩ := hol.2.2.2.reads.shape
 subst hsh
 have HK := Lib.hid (HK.out.from hbx)
 have HR := Lib.hid (HR.out.below (hbx.mono HB.out.size))
 have HB := Lib.hid (HB.out.trans (hbx.mono HB.out.size))
 have HBW0 := Lib.hid HB.out.size
 have HO2 := Lib.hid hol
 have HW2 := Lib.hid hol.lows
 clear hol hbx HO1
 have hba := (Below.refl _ x3).alloc (Nat.le_refl _) (.cells #[.int .i64 ra, .int .i64 rb, .int .i64 rd, .int .i64 rm, .slice Am2 pm.length Cm2, .int .i64 rn, .slice Ag2 pg.length Cg2, .string rT, .bool rto, .string rH, .bool rho, .slice At2 pt.length Ct2, .slice Ab2 pb.length Cb2] 32)
 have hnew := BK.new x3 #[.int .i64 ra, .int .i64 rb, .int .i64 rd, .int .i64 rm, .slice Am2 pm.length Cm2, .int .i64 rn, .slice Ag2 pg.length Cg2, .string rT, .bool rto, .string rH, .bool rho, .slice At2 pt.length Ct2, .slice Ab2 pb.length Cb2] 32
 have HK := Lib.hid (HK.out.from hba)
 have HO2 := Lib.hid (HO2.out.below hba)
 have HR := Lib.hid (HR.out.below (hba.mono HB.out.size))
 have HB := Lib.hid (HB.out.trans (hba.mono HB.out.size))
 have HKw := Lib.hid hnew
 clear hnew hba
 have HBW := Lib.hid (show w.heap.size ≤ x3.heap.size by have h1 := HBW0.out; exact h1)
 have HS3 := Lib.hid (show x3.heap.size ≤ (x3.alloc (.cells #[.int .i64 ra, .int .i64 rb, .int .i64 rd, .int .i64 rm, .slice Am2 pm.length Cm2, .int .i64 rn, .slice Ag2 pg.length Cg2, .string rT, .bool rto, .string rH, .bool rho, .slice At2 pt.length Ct2, .slice Ab2 pb.length Cb2] 32)).heap.size by simp)
 obtain ⟨c0, c1, c2, c3, c4, c5, c6, c7, c8, c9, c10, c11, c12⟩ := cells13 HK.out
 obtain ⟨cw0, cw1, cw2, cw3, cw4, cw5, cw6, cw7, cw8, cw9, cw10, cw11, cw12⟩ := cells13 HKw.out
 go_wp2_with fail
 clear c0 c1 c2 c3 c4 c5 c6 c7 c8 c9 c10 c11 c12
 clear cw0 cw1 cw2 cw3 cw4 cw5 cw6 cw7 cw8 cw9 cw10 cw11 cw12
 refine (toLineA_any la lb ld lm _ ms nx _ gs lT lto lH lho _ ts _ bs _ w.heap.size HR.out HB.out.size HSM.out).mono ?_
 rintro e x4 ⟨um, ug, ut, ub, rfl, hol, hbx, hap⟩
 obtain ⟨Am3, Cm3, hsh⟩ := hol.1.reads.shape
 subst hsh
 obtain ⟨Ag3, Cg3, hsh⟩ := hol.2.1.reads.shape
 subst hsh
 obtain ⟨At3, Ct3, hsh⟩ := hol.2.2.1.reads.shape
 subst hsh
 obtain ⟨Ab3, Cb3, hsh⟩ := hol.2.2.2.reads.shape
 subst hsh
 have HB4 := Lib.hid hbx.size
 have HK := Lib.hid (HK.out.from hbx)
 have HKw := Lib.hid (HKw.out.from hbx)
 have HO2 := Lib.hid (HO2.out.below hbx)
 have HR := Lib.hid (HR.out.below (hbx.mono HB.out.size))
 have HB := Lib.hid (HB.out.trans (hbx.mono HB.out.size))
 have HBV := Lib.hid HB.out.size
 have HO3 := Lib.hid (hol.lmono (Nat.le_trans HS3.out (Nat.le_refl _)))
 have HA3 := Lib.hid hap
 have HW3 := Lib.hid hol.lows
 have HX3 := Lib.hid (Nat.le_trans HS3.out hbx.size)
 clear hol hbx hap
 have hba := (Below.refl _ x4).alloc (Nat.le_refl _) (.cells #[.int .i64 la, .int .i64 lb, .int .i64 ld, .int .i64 lm, .slice Am3 ms.length Cm3, .int .i64 nx, .slice Ag3 gs.length Cg3, .string lT, .bool lto, .string lH, .bool lho, .slice At3 ts.length Ct3, .slice Ab3 bs.length Cb3] 32)
 have hnew := BK.new x4 #[.int .i64 la, .int .i64 lb, .int .i64 ld, .int .i64 lm, .slice Am3 ms.length Cm3, .int .i64 nx, .slice Ag3 gs.length Cg3, .string lT, .bool lto, .string lH, .bool lho, .slice At3 ts.length Ct3, .slice Ab3 bs.length Cb3] 32
 have HK := Lib.hid (HK.out.from hba)
 have HKw := Lib.hid (HKw.out.from hba)
 have HO2 := Lib.hid (HO2.out.below hba)
 have HO3 := Lib.hid (HO3.out.below hba)
 have HR := Lib.hid (HR.out.below (hba.mono HB.out.size))
 have HB := Lib.hid (HB.out.trans (hba.mono HB.out.size))
 have HKx := Lib.hid hnew
 clear hnew hba
 obtain ⟨c0, c1, c2, c3, c4, c5, c6, c7, c8, c9, c10, c11, c12⟩ := cells13 HK.out
 obtain ⟨cw0, cw1, cw2, cw3, cw4, cw5, cw6, cw7, cw8, cw9, cw10, cw11, cw12⟩ := cells13 HKw.out
 obtain ⟨cx0, cx1, cx2, cx3, cx4, cx5, cx6, cx7, cx8, cx9, cx10, cx11, cx12⟩ := cells13 HKx.out
 go_wp2_with fail
 clear c0 c1 c2 c3 c4 c5 c6 c7 c8 c9 c10 c11 c12
 clear cw0 cw1 cw2 cw3 cw4 cw5 cw6 cw7 cw8 cw9 cw10 cw11 cw12
 clear cx0 cx1 cx2 cx3 cx4 cx5 cx6 cx7 cx8 cx9 cx10 cx11 cx12
 refine (HIM.out _ _ _ _ _ HO3.out.reads).mono ?_
 rintro e x5 ⟨um, ug, ut, ub, rfl, hol, hbx, hap⟩
 obtain ⟨Am4, Cm4, hsh⟩ := hol.1.reads.shape
 subst hsh
 obtain ⟨Ag4, Cg4, hsh⟩ := hol.2.1.reads.shape
 subst hsh
 obtain ⟨At4, Ct4, hsh⟩ := hol.2.2.1.reads.shape
 subst hsh
 obtain ⟨Ab4, Cb4, hsh⟩ := hol.2.2.2.reads.shape
 subst hsh
 have HK := Lib.hid (HK.out.from hbx)
 have HKw := Lib.hid (HKw.out.from hbx)
 have HKx := Lib.hid (HKx.out.from hbx)
 have HO2 := Lib.hid (HO2.out.below hbx)
 have HO3 := Lib.hid (HO3.out.below hbx)
 have HR := Lib.hid (HR.out.below (hbx.mono HB.out.size))
 have HB := Lib.hid (HB.out.trans (hbx.mono HB.out.size))
 have HO4 := Lib.hid (hol.lmono (base' := x4.heap.size) (by simp))
 have HA4 := Lib.hid hap
 clear hol hap hbx
 have hba := (Below.refl _ x5).alloc (Nat.le_refl _) (.cells #[.int .i64 ra, .int .i64 rb, .int .i64 rd, .int .i64 rm, .slice Am4 pm.length Cm4, .int .i64 rn, .slice Ag4 pg.length Cg4, .string rT, .bool rto, .string rH, .bool rho, .slice At4 pt.length Ct4, .slice Ab4 pb.length Cb4] 32)
 have hnew := BK.new x5 #[.int .i64 ra, .int .i64 rb, .int .i64 rd, .int .i64 rm, .slice Am4 pm.length Cm4, .int .i64 rn, .slice Ag4 pg.length Cg4, .string rT, .bool rto, .string rH, .bool rho, .slice At4 pt.length Ct4, .slice Ab4 pb.length Cb4] 32
 have HK := Lib.hid (HK.out.from hba)
 have HKw := Lib.hid (HKw.out.from hba)
 have HKx := Lib.hid (HKx.out.from hba)
 have HO2 := Lib.hid (HO2.out.below hba)
 have HO3 := Lib.hid (HO3.out.below hba)
 have HO4 := Lib.hid (HO4.out.below hba)
 have HR := Lib.hid (HR.out.below (hba.mono HB.out.size))
 have HB := Lib.hid (HB.out.trans (hba.mono HB.out.size))
 have HKg := Lib.hid hnew
 clear hnew hba
 obtain ⟨c0, c1, c2, c3, c4, c5, c6, c7, c8, c9, c10, c11, c12⟩ := cells13 HK.out
 obtain ⟨cw0, cw1, cw2, cw3, cw4, cw5, cw6, cw7, cw8, cw9, cw10, cw11, cw12⟩ := cells13 HKw.out
 obtain ⟨cx0, cx1, cx2, cx3, cx4, cx5, cx6, cx7, cx8, cx9, cx10, cx11, cx12⟩ := cells13 HKx.out
 obtain ⟨cg0, cg1, cg2, cg3, cg4, cg5, cg6, cg7, cg8, cg9, cg10, cg11, cg12⟩ := cells13 HKg.out
 go_wp2_with fail
 clear c0 c1 c2 c3 c4 c5 c6 c7 c8 c9 c10 c11 c12
 clear cw0 cw1 cw2 cw3 cw4 cw5 cw6 cw7 cw8 cw9 cw10 cw11 cw12
 clear cx0 cx1 cx2 cx3 cx4 cx5 cx6 cx7 cx8 cx9 cx10 cx11 cx12
 clear cg0 cg1 cg2 cg3 cg4 cg5 cg6 cg7 cg8 cg9 cg10 cg11 cg12
 refine (eqLine_same ra rb rd rm _ pm rn _ pg rT rto rH rho _ pt _ pb _ _ _ _ _ _ _ HO4.out.reads HO2.out.reads (Nat.le_refl _) (Nat.le_refl _) (Nat.le_trans HL6.out.1 (by decide)) (Nat.le_trans HL6.out.2.1 (by decide)) (Nat.le_trans HL6.out.2.2.1 (by decide)) (Nat.le_trans HL6.out.2.2.2 (by decide))).mono ?_
 rintro e x6 ⟨rfl, hbx⟩
 have HK := Lib.hid (HK.out.from hbx)
 have HKw := Lib.hid (HKw.out.from hbx)
 have HKx := Lib.hid (HKx.out.from hbx)
 have HKg := Lib.hid (HKg.out.from hbx)
 have HO2 := Lib.hid (HO2.out.below hbx)
 have HO3 := Lib.hid (HO3.out.below hbx)
 have HO4 := Lib.hid (HO4.out.below hbx)
 have HR := Lib.hid (HR.out.below (hbx.mono HB.out.size))
 have HB := Lib.hid (HB.out.trans (hbx.mono HB.out.size))
 clear hbx
 obtain ⟨c0, c1, c2, c3, c4, c5, c6, c7, c8, c9, c10, c11, c12⟩ := cells13 HK.out
 obtain ⟨cw0, cw1, cw2, cw3, cw4, cw5, cw6, cw7, cw8, cw9, cw10, cw11, cw12⟩ := cells13 HKw.out
 obtain ⟨cx0, cx1, cx2, cx3, cx4, cx5, cx6, cx7, cx8, cx9, cx10, cx11, cx12⟩ := cells13 HKx.out
 obtain ⟨cg0, cg1, cg2, cg3, cg4, cg5, cg6, cg7, cg8, cg9, cg10, cg11, cg12⟩ := cells13 HKg.out
 go_wp2_with fail
 clear c0 c1 c2 c3 c4 c5 c6 c7 c8 c9 c10 c11 c12
 clear cw0 cw1 cw2 cw3 cw4 cw5 cw6 cw7 cw8 cw9 cw10 cw11 cw12
 clear cx0 cx1 cx2 cx3 cx4 cx5 cx6 cx7 cx8 cx9 cx10 cx11 cx12
 clear cg0 cg1 cg2 cg3 cg4 cg5 cg6 cg7 cg8 cg9 cg10 cg11 cg12
 have hKq := HK.out.drew
 have hXq := HKx.out.drew
 have hGq := HKg.out.drew
 have hWq := HKw.out.drew
 have hO2 := HO2.out.below (Below.refl _ _).drew
 have hO3 := HO3.out.below (Below.refl _ _).drew
 have hO4 := HO4.out.below (Below.refl _ _).drew
 have hR := HR.out.below (Below.refl _ _).drew
 have hB := HB.out.drew
 have hS := And.intro (cells13 hKq) (cells13 hXq)
 refine wp_region_held_drew (S := (fun wx => (wx.cell? ⟨w.heap.size, 0, none⟩ = some (.int .i64 la) ∧ wx.cell? ⟨w.heap.size, 1, none⟩ = some (.int .i64 lb) ∧ wx.cell? ⟨w.heap.size, 2, none⟩ = some (.int .i64 ld) ∧ wx.cell? ⟨w.heap.size, 3, none⟩ = some (.int .i64 lm) ∧ wx.cell? ⟨w.heap.size, 4, none⟩ = some (.slice am ms.length cap_m) ∧ wx.cell? ⟨w.heap.size, 5, none⟩ = some (.int .i64 nx) ∧ wx.cell? ⟨w.heap.size, 6, none⟩ = some (.slice ag gs.length cap_g) ∧ wx.cell? ⟨w.heap.size, 7, none⟩ = some (.string lT) ∧ wx.cell? ⟨w.heap.size, 8, none⟩ = some (.bool lto) ∧ wx.cell? ⟨w.heap.size, 9, none⟩ = some (.string lH) ∧ wx.cell? ⟨w.heap.size, 10, none⟩ = some (.bool lho) ∧ wx.cell? ⟨w.heap.size, 11, none⟩ = some (.slice at_ ts.length cap_t) ∧ wx.cell? ⟨w.heap.size, 12, none⟩ = some (.slice ab bs.length cap_b)) ∧ (wx.cell? ⟨x4.heap.size, 0, none⟩ = some (.int .i64 la) ∧ wx.cell? ⟨x4.heap.size, 1, none⟩ = some (.int .i64 lb) ∧ wx.cell? ⟨x4.heap.size, 2, none⟩ = some (.int .i64 ld) ∧ wx.cell? ⟨x4.heap.size, 3, none⟩ = some (.int .i64 lm) ∧ wx.cell? ⟨x4.heap.size, 4, none⟩ = some (.slice Am3 ms.length Cm3) ∧ wx.cell? ⟨x4.heap.size, 5, none⟩ = some (.int .i64 nx) ∧ wx.cell? ⟨x4.heap.size, 6, none⟩ = some (.slice Ag3 gs.length Cg3) ∧ wx.cell? ⟨x4.heap.size, 7, none⟩ = some (.string lT) ∧ wx.cell? ⟨x4.heap.size, 8, none⟩ = some (.bool lto) ∧ wx.cell? ⟨x4.heap.size, 9, none⟩ = some (.string lH) ∧ wx.cell? ⟨x4.heap.size, 10, none⟩ = some (.bool lho) ∧ wx.cell? ⟨x4.heap.size, 11, none⟩ = some (.slice At3 ts.length Ct3) ∧ wx.cell? ⟨x4.heap.size, 12, none⟩ = some (.slice Ab3 bs.length Cb3)))) (by kernel_rfl) hS (fun hHeld => ?_)
 refine tkH 0 ?_ rfl (Or.inl ⟨by rfl, ?_⟩) ?_; rotate_left
 ·intro wq hSw; (try dsimp only at hSw); (try simp only [gT, gZ]); go_simp; (try with_reducible rfl)
 simp only [Act.put, gT, gZ, sT, sZ, sS]
 refine tkH 1 ?_ rfl (Or.inl ⟨by rfl, ?_⟩) ?_; rotate_left
 ·intro wq hSw; (try dsimp only at hSw); (try simp only [gT, gS, gZ]); go_simp; (try with_reducible rfl)
 simp only [Act.put, gT, gS, gZ, sT, sZ, sS]
 refine wpAnyH_ready (rs := [2]) (by kernel_rfl) (by simp) ?_
 refine AllReadyH.cons rfl (fun K hK => ?_) AllReadyH.nil
 (try simp only [gT, gS, gZ])
 go_simp
 go_at_call 33
 refine (toLineA_any la lb ld lm _ ms nx _ gs lT lto lH lho _ ts _ bs _ w.heap.size hR hB.size HSM.out).mono ?_
 rintro e x7 ⟨um, ug, ut, ub, rfl, hol, hbx, hap⟩
 have hKq := hKq.from hbx
 have hXq := hXq.from hbx
 have hGq := hGq.from hbx
 have hWq := hWq.from hbx
 have hO2 := hO2.below hbx
 have hO3 := hO3.below hbx
 have hO4 := hO4.below hbx
 have hR := hR.below (hbx.mono hB.size)
 have hB := hB.trans (hbx.mono hB.size)
 have hS := And.intro (cells13 hKq) (cells13 hXq)
 refine hK.out _ _ hS (fun hHeld => ?_)
 clear hK K
 refine wpAnyH_ready (rs := [3]) (by kernel_rfl) (by simp) ?_
 refine AllReadyH.cons rfl (fun K hK => ?_) AllReadyH.nil
 (try simp only [gT, gS, gZ])
 go_simp
 go_at_call 25
 refine (eqLine_same la lb ld lm _ ms nx _ gs lT lto lH lho _ ts _ bs _ _ _ _ _ _ _ hO3.reads hol.reads (Nat.le_refl _) (Nat.le_refl _) HSM.out.1.1 HSM.out.2.1.1 HSM.out.2.2.2.2.1.1 HSM.out.2.2.2.2.2.1).mono ?_
 rintro e x8 ⟨rfl, hby⟩
 have hKq := hKq.from hby
 have hXq := hXq.from hby
 have hGq := hGq.from hby
 have hWq := hWq.from hby
 have hO2 := hO2.below hby
 have hO3 := hO3.below hby
 have hO4 := hO4.below hby
 have hR := hR.below (hby.mono hB.size)
 have hB := hB.trans (hby.mono hB.size)
 have hS := And.intro (cells13 hKq) (cells13 hXq)
 refine hK.out _ _ hS (fun hHeld => ?_)
 clear hK K
 refine tkH 4 ?_ rfl (Or.inl ⟨by rfl, ?_⟩) ?_; rotate_left
 ·intro wq hSw; (try dsimp only at hSw); (try simp only [gT, gS, gZ]); go_simp; (try with_reducible rfl)
 simp only [Act.put, gT, gS, gZ, sT, sZ, sS]
 refine wpAnyH_done (by kernel_rfl) ?_ _
 have HK := Lib.hid hKq
 have HKx := Lib.hid hXq
 have HKg := Lib.hid hGq
 have HKw := Lib.hid hWq
 have HO2 := Lib.hid hO2
 have HO3 := Lib.hid hO3
 have HO4 := Lib.hid hO4
 have HR := Lib.hid hR
 have HB := Lib.hid hB
 clear hKq hXq hGq hWq hO2 hO3 hO4 hR hB hS hol hbx hby hap
 obtain ⟨c0, c1, c2, c3, c4, c5, c6, c7, c8, c9, c10, c11, c12⟩ := cells13 HK.out
 obtain ⟨cw0, cw1, cw2, cw3, cw4, cw5, cw6, cw7, cw8, cw9, cw10, cw11, cw12⟩ := cells13 HKw.out
 obtain ⟨cx0, cx1, cx2, cx3, cx4, cx5, cx6, cx7, cx8, cx9, cx10, cx11, cx12⟩ := cells13 HKx.out
 obtain ⟨cg0, cg1, cg2, cg3, cg4, cg5, cg6, cg7, cg8, cg9, cg10, cg11, cg12⟩ := cells13 HKg.out
 go_wp2_with fail
 clear c0 c1 c2 c3 c4 c5 c6 c7 c8 c9 c10 c11 c12
 clear cw0 cw1 cw2 cw3 cw4 cw5 cw6 cw7 cw8 cw9 cw10 cw11 cw12
 clear cx0 cx1 cx2 cx3 cx4 cx5 cx6 cx7 cx8 cx9 cx10 cx11 cx12
 clear cg0 cg1 cg2 cg3 cg4 cg5 cg6 cg7 cg8 cg9 cg10 cg11 cg12
 refine (markLineK_any la lb ld lm _ ms nx _ gs lT lto lH lho _ ts _ bs _ x3.heap.size HO3.out HA3.out (by have h1 := HSM.out.1.1; have h2 := HSM.out.2.1.1; have h3 := HSM.out.2.2.2.2.1.1; have h4 := HSM.out.2.2.2.2.2.1; omega)).mono ?_
 rintro e x9 ⟨rfl, hol, hfb, hsz, hkb, hkr⟩
 have hbb := hfb x3.heap.size (Nat.le_refl _) (Nat.le_trans HX3.out (Nat.le_of_lt HKx.out.lt))
 have hbw := hbb.mono HBW.out
 have HK := Lib.hid (hkb _ _ _ (by decide) HK.out)
 have HKw := Lib.hid (hkb _ _ _ (by decide) HKw.out)
 have HKx := Lib.hid (hkb _ _ _ (by decide) HKx.out)
 have HKg := Lib.hid (hkb _ _ _ (by decide) HKg.out)
 have HO2 := Lib.hid (HO2.out.lunder HW2.out hbb)
 have HO4 := Lib.hid (HO4.out.keepR hkr HW3.out)
 have HR := Lib.hid (HR.out.below hbw)
 have HB := Lib.hid (HB.out.trans hbw)
 clear hol hfb hsz hkb hkr hbb hbw HO3 HA3
 obtain ⟨c0, c1, c2, c3, c4, c5, c6, c7, c8, c9, c10, c11, c12⟩ := cells13 HK.out
 obtain ⟨cw0, cw1, cw2, cw3, cw4, cw5, cw6, cw7, cw8, cw9, cw10, cw11, cw12⟩ := cells13 HKw.out
 obtain ⟨cx0, cx1, cx2, cx3, cx4, cx5, cx6, cx7, cx8, cx9, cx10, cx11, cx12⟩ := cells13 HKx.out
 obtain ⟨cg0, cg1, cg2, cg3, cg4, cg5, cg6, cg7, cg8, cg9, cg10, cg11, cg12⟩ := cells13 HKg.out
 go_wp2_with fail
 clear c0 c1 c2 c3 c4 c5 c6 c7 c8 c9 c10 c11 c12
 clear cw0 cw1 cw2 cw3 cw4 cw5 cw6 cw7 cw8 cw9 cw10 cw11 cw12
 clear cx0 cx1 cx2 cx3 cx4 cx5 cx6 cx7 cx8 cx9 cx10 cx11 cx12
 clear cg0 cg1 cg2 cg3 cg4 cg5 cg6 cg7 cg8 cg9 cg10 cg11 cg12
 refine (eqLine_same ra rb rd rm _ pm rn _ pg rT rto rH rho _ pt _ pb _ _ _ _ _ _ _ HO4.out.reads HO2.out.reads (Nat.le_refl _) (Nat.le_refl _) (Nat.le_trans HL6.out.1 (by decide)) (Nat.le_trans HL6.out.2.1 (by decide)) (Nat.le_trans HL6.out.2.2.1 (by decide)) (Nat.le_trans HL6.out.2.2.2 (by decide))).mono ?_
 rintro e x10 ⟨rfl, hbx⟩
 have HK := Lib.hid (HK.out.from hbx)
 have HKw := Lib.hid (HKw.out.from hbx)
 have HKx := Lib.hid (HKx.out.from hbx)
 have HKg := Lib.hid (HKg.out.from hbx)
 have HO2 := Lib.hid (HO2.out.below hbx)
 have HO4 := Lib.hid (HO4.out.below hbx)
 have HR := Lib.hid (HR.out.below (hbx.mono HB.out.size))
 have HB := Lib.hid (HB.out.trans (hbx.mono HB.out.size))
 clear hbx
 obtain ⟨c0, c1, c2, c3, c4, c5, c6, c7, c8, c9, c10, c11, c12⟩ := cells13 HK.out
 obtain ⟨cw0, cw1, cw2, cw3, cw4, cw5, cw6, cw7, cw8, cw9, cw10, cw11, cw12⟩ := cells13 HKw.out
 obtain ⟨cx0, cx1, cx2, cx3, cx4, cx5, cx6, cx7, cx8, cx9, cx10, cx11, cx12⟩ := cells13 HKx.out
 obtain ⟨cg0, cg1, cg2, cg3, cg4, cg5, cg6, cg7, cg8, cg9, cg10, cg11, cg12⟩ := cells13 HKg.out
 go_wp2_with fail
 clear c0 c1 c2 c3 c4 c5 c6 c7 c8 c9 c10 c11 c12
 clear cw0 cw1 cw2 cw3 cw4 cw5 cw6 cw7 cw8 cw9 cw10 cw11 cw12
 clear cx0 cx1 cx2 cx3 cx4 cx5 cx6 cx7 cx8 cx9 cx10 cx11 cx12
 clear cg0 cg1 cg2 cg3 cg4 cg5 cg6 cg7 cg8 cg9 cg10 cg11 cg12
 refine (markLineK_any ra rb rd rm _ pm rn _ pg rT rto rH rho _ pt _ pb _ x4.heap.size HO4.out HA4.out (by have h1 := HL6.out; omega)).mono ?_
 rintro e x11 ⟨rfl, hol, hfb, hsz, hkb, hkr⟩
 have hbb := hfb x4.heap.size (Nat.le_refl _) (Nat.le_of_lt HKx.out.lt)
 have hbw := hbb.mono HBV.out
 have HK := Lib.hid (hkb _ _ _ (by decide) HK.out)
 have HKw := Lib.hid (hkb _ _ _ (by decide) HKw.out)
 have HKx := Lib.hid (hkb _ _ _ (by decide) HKx.out)
 have HKg := Lib.hid (hkb _ _ _ (by decide) HKg.out)
 have HO2 := Lib.hid (HO2.out.lunder (HW2.out.mono HX3.out) hbb)
 have HR := Lib.hid (HR.out.below hbw)
 have HB := Lib.hid (HB.out.trans hbw)
 have HO4 := Lib.hid hol
 clear hol hfb hsz hkb hkr hbb hbw HA4
 obtain ⟨c0, c1, c2, c3, c4, c5, c6, c7, c8, c9, c10, c11, c12⟩ := cells13 HK.out
 obtain ⟨cw0, cw1, cw2, cw3, cw4, cw5, cw6, cw7, cw8, cw9, cw10, cw11, cw12⟩ := cells13 HKw.out
 obtain ⟨cx0, cx1, cx2, cx3, cx4, cx5, cx6, cx7, cx8, cx9, cx10, cx11, cx12⟩ := cells13 HKx.out
 obtain ⟨cg0, cg1, cg2, cg3, cg4, cg5, cg6, cg7, cg8, cg9, cg10, cg11, cg12⟩ := cells13 HKg.out
 go_wp2_with fail
 clear c0 c1 c2 c3 c4 c5 c6 c7 c8 c9 c10 c11 c12
 clear cw0 cw1 cw2 cw3 cw4 cw5 cw6 cw7 cw8 cw9 cw10 cw11 cw12
 clear cx0 cx1 cx2 cx3 cx4 cx5 cx6 cx7 cx8 cx9 cx10 cx11 cx12
 clear cg0 cg1 cg2 cg3 cg4 cg5 cg6 cg7 cg8 cg9 cg10 cg11 cg12
 refine (heldLine_any ra rb rd rm _ rn _ rT rto rH rho _ _ pm.length pg.length pt.length pb.length _ _ HO4.out.reads (Nat.le_refl _) (by have h1 := HL6.out; omega)).mono ?_
 rintro e x12 ⟨rfl, hbx⟩
 have HK := Lib.hid (HK.out.from hbx)
 have HKw := Lib.hid (HKw.out.from hbx)
 have HKx := Lib.hid (HKx.out.from hbx)
 have HKg := Lib.hid (HKg.out.from hbx)
 have HO2 := Lib.hid (HO2.out.below hbx)
 have HO4 := Lib.hid (HO4.out.below hbx)
 have HR := Lib.hid (HR.out.below (hbx.mono HB.out.size))
 have HB := Lib.hid (HB.out.trans (hbx.mono HB.out.size))
 clear hbx
 obtain ⟨c0, c1, c2, c3, c4, c5, c6, c7, c8, c9, c10, c11, c12⟩ := cells13 HK.out
 obtain ⟨cw0, cw1, cw2, cw3, cw4, cw5, cw6, cw7, cw8, cw9, cw10, cw11, cw12⟩ := cells13 HKw.out
 obtain ⟨cx0, cx1, cx2, cx3, cx4, cx5, cx6, cx7, cx8, cx9, cx10, cx11, cx12⟩ := cells13 HKx.out
 obtain ⟨cg0, cg1, cg2, cg3, cg4, cg5, cg6, cg7, cg8, cg9, cg10, cg11, cg12⟩ := cells13 HKg.out
 go_wp2_with fail
 clear c0 c1 c2 c3 c4 c5 c6 c7 c8 c9 c10 c11 c12
 clear cw0 cw1 cw2 cw3 cw4 cw5 cw6 cw7 cw8 cw9 cw10 cw11 cw12
 clear cx0 cx1 cx2 cx3 cx4 cx5 cx6 cx7 cx8 cx9 cx10 cx11 cx12
 clear cg0 cg1 cg2 cg3 cg4 cg5 cg6 cg7 cg8 cg9 cg10 cg11 cg12
 refine (toLineA_any la lb ld lm _ ms nx _ gs lT lto lH lho _ ts _ bs _ w.heap.size HR.out HB.out.size HSM.out).mono ?_
 rintro e x13 ⟨um, ug, ut, ub, rfl, hol, hbx, hap⟩
 obtain ⟨Am5, Cm5, hsh⟩ := hol.1.reads.shape
 subst hsh
 obtain ⟨Ag5, Cg5, hsh⟩ := hol.2.1.reads.shape
 subst hsh
 obtain ⟨At5, Ct5, hsh⟩ := hol.2.2.1.reads.shape
 subst hsh
 obtain ⟨Ab5, Cb5, hsh⟩ := hol.2.2.2.reads.shape
 subst hsh
 have HK := Lib.hid (HK.out.from hbx)
 have HKw := Lib.hid (HKw.out.from hbx)
 have HKx := Lib.hid (HKx.out.from hbx)
 have HKg := Lib.hid (HKg.out.from hbx)
 have HO2 := Lib.hid (HO2.out.below hbx)
 have HO4 := Lib.hid (HO4.out.below hbx)
 have HR := Lib.hid (HR.out.below (hbx.mono HB.out.size))
 have HB := Lib.hid (HB.out.trans (hbx.mono HB.out.size))
 have HO5 := Lib.hid hol
 clear hol hbx hap
 obtain ⟨c0, c1, c2, c3, c4, c5, c6, c7, c8, c9, c10, c11, c12⟩ := cells13 HK.out
 obtain ⟨cw0, cw1, cw2, cw3, cw4, cw5, cw6, cw7, cw8, cw9, cw10, cw11, cw12⟩ := cells13 HKw.out
 obtain ⟨cx0, cx1, cx2, cx3, cx4, cx5, cx6, cx7, cx8, cx9, cx10, cx11, cx12⟩ := cells13 HKx.out
 obtain ⟨cg0, cg1, cg2, cg3, cg4, cg5, cg6, cg7, cg8, cg9, cg10, cg11, cg12⟩ := cells13 HKg.out
 go_wp2_with fail
 clear c0 c1 c2 c3 c4 c5 c6 c7 c8 c9 c10 c11 c12
 clear cw0 cw1 cw2 cw3 cw4 cw5 cw6 cw7 cw8 cw9 cw10 cw11 cw12
 clear cx0 cx1 cx2 cx3 cx4 cx5 cx6 cx7 cx8 cx9 cx10 cx11 cx12
 clear cg0 cg1 cg2 cg3 cg4 cg5 cg6 cg7 cg8 cg9 cg10 cg11 cg12
 refine (HIM.out _ _ _ _ _ HO5.out.reads).mono ?_
 rintro e x14 ⟨um, ug, ut, ub, rfl, hol, hbx, hap⟩
 obtain ⟨Am6, Cm6, hsh⟩ := hol.1.reads.shape
 subst hsh
 obtain ⟨Ag6, Cg6, hsh⟩ := hol.2.1.reads.shape
 subst hsh
 obtain ⟨At6, Ct6, hsh⟩ := hol.2.2.1.reads.shape
 subst hsh
 obtain ⟨Ab6, Cb6, hsh⟩ := hol.2.2.2.reads.shape
 subst hsh
 have HK := Lib.hid (HK.out.from hbx)
 have HKw := Lib.hid (HKw.out.from hbx)
 have HKx := Lib.hid (HKx.out.from hbx)
 have HKg := Lib.hid (HKg.out.from hbx)
 have HO2 := Lib.hid (HO2.out.below hbx)
 have HO4 := Lib.hid (HO4.out.below hbx)
 have HR := Lib.hid (HR.out.below (hbx.mono HB.out.size))
 have HB := Lib.hid (HB.out.trans (hbx.mono HB.out.size))
 have HO6 := Lib.hid hol
 clear hol hbx hap HO5
 have hba := (Below.refl _ x14).alloc (Nat.le_refl _) (.cells #[.int .i64 ra, .int .i64 rb, .int .i64 rd, .int .i64 rm, .slice Am6 pm.length Cm6, .int .i64 rn, .slice Ag6 pg.length Cg6, .string rT, .bool rto, .string rH, .bool rho, .slice At6 pt.length Ct6, .slice Ab6 pb.length Cb6] 32)
 have hnew := BK.new x14 #[.int .i64 ra, .int .i64 rb, .int .i64 rd, .int .i64 rm, .slice Am6 pm.length Cm6, .int .i64 rn, .slice Ag6 pg.length Cg6, .string rT, .bool rto, .string rH, .bool rho, .slice At6 pt.length Ct6, .slice Ab6 pb.length Cb6] 32
 have HK := Lib.hid (HK.out.from hba)
 have HKw := Lib.hid (HKw.out.from hba)
 have HKx := Lib.hid (HKx.out.from hba)
 have HKg := Lib.hid (HKg.out.from hba)
 have HO2 := Lib.hid (HO2.out.below hba)
 have HO4 := Lib.hid (HO4.out.below hba)
 have HO6 := Lib.hid (HO6.out.below hba)
 have HR := Lib.hid (HR.out.below (hba.mono HB.out.size))
 have HB := Lib.hid (HB.out.trans (hba.mono HB.out.size))
 have HKh := Lib.hid hnew
 clear hnew hba
 obtain ⟨c0, c1, c2, c3, c4, c5, c6, c7, c8, c9, c10, c11, c12⟩ := cells13 HK.out
 obtain ⟨cw0, cw1, cw2, cw3, cw4, cw5, cw6, cw7, cw8, cw9, cw10, cw11, cw12⟩ := cells13 HKw.out
 obtain ⟨cx0, cx1, cx2, cx3, cx4, cx5, cx6, cx7, cx8, cx9, cx10, cx11, cx12⟩ := cells13 HKx.out
 obtain ⟨cg0, cg1, cg2, cg3, cg4, cg5, cg6, cg7, cg8, cg9, cg10, cg11, cg12⟩ := cells13 HKg.out
 obtain ⟨ch0, ch1, ch2, ch3, ch4, ch5, ch6, ch7, ch8, ch9, ch10, ch11, ch12⟩ := cells13 HKh.out
 go_wp2_with fail
 clear c0 c1 c2 c3 c4 c5 c6 c7 c8 c9 c10 c11 c12
 clear cw0 cw1 cw2 cw3 cw4 cw5 cw6 cw7 cw8 cw9 cw10 cw11 cw12
 clear cx0 cx1 cx2 cx3 cx4 cx5 cx6 cx7 cx8 cx9 cx10 cx11 cx12
 clear cg0 cg1 cg2 cg3 cg4 cg5 cg6 cg7 cg8 cg9 cg10 cg11 cg12
 clear ch0 ch1 ch2 ch3 ch4 ch5 ch6 ch7 ch8 ch9 ch10 ch11 ch12
 refine (eqLine_same ra rb rd rm _ pm rn _ pg rT rto rH rho _ pt _ pb _ _ _ _ _ _ _ HO6.out.reads HO2.out.reads (Nat.le_refl _) (Nat.le_refl _) (Nat.le_trans HL6.out.1 (by decide)) (Nat.le_trans HL6.out.2.1 (by decide)) (Nat.le_trans HL6.out.2.2.1 (by decide)) (Nat.le_trans HL6.out.2.2.2 (by decide))).mono ?_
 rintro e x15 ⟨rfl, hbx⟩
 have HK := Lib.hid (HK.out.from hbx)
 have HKw := Lib.hid (HKw.out.from hbx)
 have HKx := Lib.hid (HKx.out.from hbx)
 have HKg := Lib.hid (HKg.out.from hbx)
 have HKh := Lib.hid (HKh.out.from hbx)
 have HO2 := Lib.hid (HO2.out.below hbx)
 have HO4 := Lib.hid (HO4.out.below hbx)
 have HO6 := Lib.hid (HO6.out.below hbx)
 have HR := Lib.hid (HR.out.below (hbx.mono HB.out.size))
 have HB := Lib.hid (HB.out.trans (hbx.mono HB.out.size))
 clear hbx
 obtain ⟨c0, c1, c2, c3, c4, c5, c6, c7, c8, c9, c10, c11, c12⟩ := cells13 HK.out
 obtain ⟨cw0, cw1, cw2, cw3, cw4, cw5, cw6, cw7, cw8, cw9, cw10, cw11, cw12⟩ := cells13 HKw.out
 obtain ⟨cx0, cx1, cx2, cx3, cx4, cx5, cx6, cx7, cx8, cx9, cx10, cx11, cx12⟩ := cells13 HKx.out
 obtain ⟨cg0, cg1, cg2, cg3, cg4, cg5, cg6, cg7, cg8, cg9, cg10, cg11, cg12⟩ := cells13 HKg.out
 obtain ⟨ch0, ch1, ch2, ch3, ch4, ch5, ch6, ch7, ch8, ch9, ch10, ch11, ch12⟩ := cells13 HKh.out
 go_wp2_with fail
 clear c0 c1 c2 c3 c4 c5 c6 c7 c8 c9 c10 c11 c12
 clear cw0 cw1 cw2 cw3 cw4 cw5 cw6 cw7 cw8 cw9 cw10 cw11 cw12
 clear cx0 cx1 cx2 cx3 cx4 cx5 cx6 cx7 cx8 cx9 cx10 cx11 cx12
 clear cg0 cg1 cg2 cg3 cg4 cg5 cg6 cg7 cg8 cg9 cg10 cg11 cg12
 clear ch0 ch1 ch2 ch3 ch4 ch5 ch6 ch7 ch8 ch9 ch10 ch11 ch12
 refine (heldLine_any ra rb rd rm _ rn _ rT rto rH rho _ _ pm.length pg.length pt.length pb.length _ _ HO4.out.reads (Nat.le_refl _) (by have h1 := HL6.out; omega)).mono ?_
 rintro e x16 ⟨rfl, hbx⟩
 have HK := Lib.hid (HK.out.from hbx)
 have HKw := Lib.hid (HKw.out.from hbx)
 have HKx := Lib.hid (HKx.out.from hbx)
 have HKg := Lib.hid (HKg.out.from hbx)
 have HKh := Lib.hid (HKh.out.from hbx)
 have HO2 := Lib.hid (HO2.out.below hbx)
 have HO4 := Lib.hid (HO4.out.below hbx)
 have HO6 := Lib.hid (HO6.out.below hbx)
 have HR := Lib.hid (HR.out.below (hbx.mono HB.out.size))
 have HB := Lib.hid (HB.out.trans (hbx.mono HB.out.size))
 clear hbx
 obtain ⟨c0, c1, c2, c3, c4, c5, c6, c7, c8, c9, c10, c11, c12⟩ := cells13 HK.out
 obtain ⟨cw0, cw1, cw2, cw3, cw4, cw5, cw6, cw7, cw8, cw9, cw10, cw11, cw12⟩ := cells13 HKw.out
 obtain ⟨cx0, cx1, cx2, cx3, cx4, cx5, cx6, cx7, cx8, cx9, cx10, cx11, cx12⟩ := cells13 HKx.out
 obtain ⟨cg0, cg1, cg2, cg3, cg4, cg5, cg6, cg7, cg8, cg9, cg10, cg11, cg12⟩ := cells13 HKg.out
 obtain ⟨ch0, ch1, ch2, ch3, ch4, ch5, ch6, ch7, ch8, ch9, ch10, ch11, ch12⟩ := cells13 HKh.out
 go_wp2
 go_ret
 exact ⟨rfl, HB.out⟩
theorem own : ownKnob Tryz.prog.godebug = none := by kernel_rfl
theorem laidOut : laidOutB Tryz.prog = true := by kernel_rfl
set_option maxRecDepth 100000 in
theorem lifted (os : Os) (started : os.Started) (H : Type) (enc : TypeId × Value → H) :
  ReturnsInHanded {} Tryz.checked os 8 .any (Rows.fnExactLineCalmSpec.pre6 enc Tryz.prog Tryz.f8 Rows.fnExactLineCalmRow.domain false) (Rows.fnExactLineCalmSpec.post enc Tryz.prog Tryz.f8 false true false false) := by
 refine returnsInHanded_of_change (C := Tryz.checked) own started (by kernel_rfl) Tryz.func8
  (ChangeSpec.witness6 (enc := enc) (C := Tryz.checked) false ⟨#[], #[.agg #[.int .i64 0, .int .i64 0, .int .i64 0, .int .i64 0, .slice none 0 0, .int .i64 0, .slice none 0 0, .string .empty, .bool false, .string .empty, .bool false, .slice none 0 0, .slice none 0 0], .int .i64 0], []⟩ 8 (by kernel_rfl) (by kernel_rfl) (by kernel_rfl) (by kernel_rfl)) ?_
 intro W base args ds gs before hval0 hW hcnd _
 have hval : ∀ (j : Nat) t v, Tryz.f8.params[j]? = some t → args[j]? = some v → Value.okWide Tryz.prog W .any base t v := hval0
 have hW' := hW
 obtain ⟨p, q, hA0, hV, rfl, hfz, hnd⟩ := hW
 have hA : DataW.TrodAll enc Tryz.prog W 0 (fun _ => true) true Tryz.f8.params.toList args.toList ds p := hA0
 rw [Tryz.params8] at hA hval
 obtain ⟨v0, vs0, d0, ds0, p0, q0, hargs, rfl, rfl, h0, r0⟩ := trodAll_cons hA
 obtain ⟨v1, vs1, d1, ds1, p1, q1, rfl, rfl, rfl, h1, r1⟩ := trodAll_cons r0
 obtain ⟨rfl, rfl, rfl⟩ := trodAll_nil r1
 obtain rfl : args = #[v0, v1] := by cases args; simp_all
 obtain ⟨rfl, rfl⟩ := trodVars_none hV
 have k0 := h0
 have lt0 : ∀ x ∈ p0, x.block < W.heap.size := by obtain ⟨m, hm⟩ := k0; exact DataW.trod_lt m _ _ _ hm
 obtain ⟨la, lb, ld, lm, am, len_m, cap_m, zm, nx, ag, len_g, cap_g, zg, lT, lto, lH, lho, at_, len_t, cap_t, zt, ab, len_b, cap_b, zb, hline0, wla, wm, wnx, wg, wT, wH, wt, wb⟩ := isLine_open (hval 0 55 v0 rfl rfl) h0
 subst hline0
 obtain ⟨a1, rfl, rfl, rfl, w1⟩ := open_int Tryz.underlying3 (hval 1 3 v1 rfl rfl) h1
 clear hA0 hval0
 refine (walk la lb ld lm am len_m cap_m zm nx ag len_g cap_g zg lT lto lH lho at_ len_t cap_t zt ab len_b cap_b zb a1 W wla wm wnx wg wT wH wt wb w1).mono fun e W' ⟨he, bel⟩ => ?_
 subst he
 exact ⟨_, rfl, _, _, _, [], _, [], hW', trodAll_mk1 (shut_bool Tryz.underlying4 _), (trodAll_cons_mk (Below.trod laidOut (by kernel_rfl) (of_decide_eq_true (by kernel_rfl)) k0 bel lt0) (trodAll_cons_mk (shut_int Tryz.underlying3 w1) trodAll_mk0)), rfl, bel.frame _, fun h => by cases h⟩
theorem over : Rows.fnExactLineCalmRow.holds Tryz.pinned (OpenSpec.ofChange Rows.fnExactLineCalmSpec) :=
 OpenClaim.holds_of_wide 8 Tryz.f8 rfl rfl rfl rfl rfl rfl rfl ⟨rfl, rfl, rfl, rfl, rfl⟩ rfl rfl rfl rfl rfl (by kernel_rfl) Tryz.func8 (by kernel_rfl)
  (of_decide_eq_true (by kernel_rfl)) (by unfold Func.isWrapper; first | (rw [if_pos (by decide +kernel)]; kernel_rfl) | (rw [if_neg (by decide +kernel)]; exact ⟨rfl, rfl⟩))
  (fun os started H enc _ => lifted os started H enc)
theorem proved : Rows.FnExactLineCalmSaid := over
end Go.Proofs.YtmggoiabcboaiaaGreat.fnExactLineCalm
