/- FnSumGet: What SumGet reads is written just so, and it reads just what runs to the residue. For every code (the law draws its data from it). No condition. -/
import Derived.Test.YthggbcpphoknfaaBase
import Derived.Test.YthggbcpphoknfaaSumN
import Derived.Test.YthggbcpphoknfaaDrawSumGet
namespace Go.Proofs.Ythggbcpphoknfaa.fnSumGet
open Go.ChangeShapes Go.WideShapes Go.ChangeAt Go.RowKit
open Go.ChangeMaps (open_string shut_string)
set_option linter.unusedVariables false
set_option maxRecDepth 100000 in
set_option maxHeartbeats 4000000 in
theorem walk (a0 : Option Addr) (len0 cap0 : Nat) (z0 : List Int) (w : World) (w0 : IsRow .u8 w a0 len0 cap0 z0) :
    Calls Try.prog 7 #[.slice a0 len0 cap0] w fun e w' => e = .returned (.bool true) ∧ Below w.heap.size w w' := by
  by_cases hbig : 1048576 < len0
  · go_enter Try.func7, Try.ntmps7
    go_wp2
    go_ret
    exact ⟨rfl, Below.refl _ _⟩
  have HH := Lib.hid w0
  clear w0
  go_enter Try.func7, Try.ntmps7
  go_wp2_with fail
  refine (drawSumGet_any a0 len0 cap0 z0 HH.out).mono ?_
  rintro e w1 ⟨kd, t, rfl, ht, hb1⟩
  have HB1 := Lib.hid hb1
  clear hb1
  have ht2 : t.size ≤ 140737488355000 := by omega
  have hmax : t.size ≤ maxLen := by unfold maxLen; omega
  have htl : t.data.toList.length = t.size := by simp
  have HTL := Lib.hid htl
  clear htl
  cases hk : kindB kd with
  | false =>
    have HK := Lib.hid hk
    have HG := Lib.hid (show getB kd t.data.toList = false by simp [getB, hk])
    clear hk
    go_wp2_with (first | (go_at_call 25; refine (implGet_miss _ _ _ ht2 HG.out).mono ?_; rintro e w2 ⟨rfl, hb2⟩) | (go_at_call 28; refine (specGet_miss _ _ _ ht2 HG.out).mono ?_; rintro e w3 ⟨rfl, hb3⟩) | (go_at_call 18; refine (implStart_no _ _ HK.out).mono ?_; rintro e w' ⟨rfl, rfl⟩) | (go_at_call 29; refine (specStart_no _ _ HK.out).mono ?_; rintro e w' ⟨rfl, rfl⟩))
    go_ret
    exact ⟨rfl, (HB1.out.trans (hb2.mono HB1.out.size)).trans (hb3.mono (Nat.le_trans HB1.out.size hb2.size))⟩
  | true =>
    have HK := Lib.hid hk
    have hkk : 2 ≤ kd ∧ kd ≤ 4 := by rcases kind_or hk with rfl | rfl <;> omega
    obtain ⟨hk2, hk4⟩ := hkk
    have h0 : 0 ≤ allOf kd := by obtain ⟨all, hall, _⟩ := allOf_nat kd; omega
    have HI := Lib.hid (getB_iff hk t.data.toList)
    clear hk
    cases hg : getB kd t.data.toList with
    | false =>
      have HG := Lib.hid hg
      clear hg
      go_wp2_with fail
      refine (implGet_miss _ _ _ ht2 HG.out).mono ?_
      rintro e w2 ⟨rfl, hb2⟩
      have HB2 := Lib.hid (HB1.out.trans (hb2.mono HB1.out.size))
      clear hb2
      go_wp2_with fail
      refine (specGet_miss _ _ _ ht2 HG.out).mono ?_
      rintro e w3 ⟨rfl, hb3⟩
      have HB3 := Lib.hid (HB2.out.trans (hb3.mono HB2.out.size))
      clear hb3
      by_cases hl : (t.size : Int) < kd
      · have hl2 : decide (kd ≤ (t.size : Int)) = false := by simp; omega
        go_wp2_with (first | (go_at_call 18; refine (implStart_yes _ _ HK.out).mono ?_; rintro e w' ⟨rfl, rfl⟩) | (go_at_call 29; refine (specStart_yes _ _ HK.out).mono ?_; rintro e w' ⟨rfl, rfl⟩))
        go_ret
        exact ⟨rfl, HB3.out⟩
      · have hne : ((crc (polyN kd) (allOf kd).toNat t.data.toList : Nat) == goodN kd) = false := by
          have := HI.out
          rw [HG.out, decide_eq_true (by rw [HTL.out]; omega), Bool.true_and] at this
          exact this.symm
        have hne2 : (((crc (polyN kd) (allOf kd).toNat t.data.toList : Nat) : Int) == ((goodN kd : Nat) : Int)) = false := by
          rw [beq_eq_false_iff_ne] at hne ⊢; omega
        have HNE := Lib.hid hne2
        clear hne hne2
        go_wp2_with (first | (go_at_call 18; refine (implStart_yes _ _ HK.out).mono ?_; rintro e w' ⟨rfl, rfl⟩) | (go_at_call 29; refine (specStart_yes _ _ HK.out).mono ?_; rintro e w' ⟨rfl, rfl⟩))
        refine (implRun_ok _ _ _ _ (runOk_all HK.out) hmax).mono ?_
        rintro e w4 ⟨rfl, hb4⟩
        have HB4 := Lib.hid (HB3.out.trans (hb4.mono HB3.out.size))
        clear hb4
        go_wp2_with fail
        refine (implGood_yes _ _ HK.out).mono ?_
        rintro e w5 ⟨rfl, hb5⟩
        have HB5 := Lib.hid (HB4.out.trans (hb5.mono HB4.out.size))
        have hne := HNE.out
        clear hb5
        go_wp2
        go_ret
        exact ⟨rfl, HB5.out⟩
    | true =>
      have HG := Lib.hid hg
      have HP := Lib.hid (show putL kd (cutL kd t.data.toList) = t.data.toList by
        have := hg
        simp only [getB, Bool.and_eq_true, beq_iff_eq] at this
        exact this.2)
      have HR := Lib.hid (show crc (polyN kd) (allOf kd).toNat t.data.toList = goodN kd ∧ kd.toNat ≤ t.size by
        have := HI.out
        rw [hg] at this
        have h2 := this.symm
        rw [Bool.and_eq_true, decide_eq_true_iff, beq_iff_eq] at h2
        rw [HTL.out] at h2
        exact ⟨h2.2, h2.1⟩)
      have hl : kd ≤ (t.size : Int) := by have := HR.out.2; omega
      clear hg
      go_wp2_with fail
      refine (implGet_hit _ _ _ ht2 HG.out).mono ?_
      rintro e w2 ⟨rfl, hb2⟩
      have HB2 := Lib.hid (HB1.out.trans (hb2.mono HB1.out.size))
      clear hb2
      go_wp2_with fail
      refine (specGet_hit _ _ _ ht2 HG.out).mono ?_
      rintro e w3 ⟨rfl, hb3⟩
      have HB3 := Lib.hid (HB2.out.trans (hb3.mono HB2.out.size))
      clear hb3
      obtain ⟨c, hc⟩ : ∃ c : ByteArray, c = ⟨(cutL kd t.data.toList).toArray⟩ := ⟨_, rfl⟩
      have HC := Lib.hid (show c.data.toList = cutL kd t.data.toList by rw [hc])
      have hcs : c.size ≤ 100 := by
        have : c.data.toList.length = c.size := by simp
        rw [← this, HC.out, cutL, List.length_take, HTL.out]; omega
      rw [← hc]
      clear hc
      go_wp2_with (first | (go_at_call 18; refine (implStart_yes _ _ HK.out).mono ?_; rintro e w' ⟨rfl, rfl⟩) | (go_at_call 29; refine (specStart_yes _ _ HK.out).mono ?_; rintro e w' ⟨rfl, rfl⟩))
      refine (implRun_ok _ _ _ _ (runOk_all HK.out) hmax).mono ?_
      rintro e w4 ⟨rfl, hb4⟩
      rw [HR.out.1]
      have HB4 := Lib.hid (HB3.out.trans (hb4.mono HB3.out.size))
      clear hb4
      go_wp2_with fail
      refine (implGood_yes _ _ HK.out).mono ?_
      rintro e w5 ⟨rfl, hb5⟩
      have HB5 := Lib.hid (HB4.out.trans (hb5.mono HB4.out.size))
      clear hb5
      go_wp2_with fail
      refine (implPut_yes _ _ _ HK.out (by omega)).mono ?_
      rintro e w6 ⟨rfl, hb6⟩
      have HB6 := Lib.hid (HB5.out.trans (hb6.mono HB5.out.size))
      clear hb6
      have hput : c.data.toList ++ leB (sumN kd c.data.toList) kd.toNat = t.data.toList := by rw [HC.out]; exact HP.out
      rw [hput, Lib.mk_data]
      clear hput
      go_wp2
      go_ret
      exact ⟨rfl, HB6.out⟩
theorem own : ownKnob Try.prog.godebug = none := by kernel_rfl
theorem laidOut : laidOutB Try.prog = true := by kernel_rfl
set_option maxRecDepth 100000 in
theorem lifted (os : Os) (started : os.Started) (H : Type) (enc : TypeId × Value → H) :
    ReturnsInHanded {} Try.checked os 7 .any (Rows.fnSumGetSpec.pre6 enc Try.prog Try.f7 Rows.fnSumGetRow.domain false) (Rows.fnSumGetSpec.post enc Try.prog Try.f7 false true false false) := by
  refine returnsInHanded_of_change (C := Try.checked) own started (by kernel_rfl) Try.func7
    (ChangeSpec.witness6 (enc := enc) (C := Try.checked) false ⟨#[], #[.slice none 0 0], []⟩ 8 (by kernel_rfl) (by kernel_rfl) (by kernel_rfl) (by kernel_rfl)) ?_
  intro W base args ds gs before hval0 hW hcnd _
  have hval : ∀ (j : Nat) t v, Try.f7.params[j]? = some t → args[j]? = some v → Value.okWide Try.prog W .any base t v := hval0
  have hW' := hW
  obtain ⟨p, q, hA0, hV, rfl, hfz, hnd⟩ := hW
  have hA : DataW.TrodAll enc Try.prog W 0 (fun _ => true) true Try.f7.params.toList args.toList ds p := hA0
  rw [Try.params7] at hA hval
  obtain ⟨v0, vs0, d0, ds0, p0, q0, hargs, rfl, rfl, h0, r0⟩ := trodAll_cons hA
  obtain ⟨rfl, rfl, rfl⟩ := trodAll_nil r0
  obtain rfl : args = #[v0] := by cases args; simp_all
  obtain ⟨rfl, rfl⟩ := trodVars_none hV
  obtain ⟨a0, len0, cap0, rfl⟩ := okWide_slice Try.underlying22 (hval 0 22 v0 rfl rfl)
  have k0 := h0
  have lt0 : ∀ x ∈ p0, x.block < W.heap.size := by obtain ⟨m, hm⟩ := k0; exact DataW.trod_lt m _ _ _ hm
  obtain ⟨z0, w0⟩ : ∃ zs, IsRow .u8 W a0 len0 cap0 zs := by
    obtain ⟨fuel, hf⟩ := h0
    rcases open_ints Try.underlying22 Try.underlying5 (by kernel_rfl) hf with ⟨hcs, _⟩ | ⟨x, l, c, zs, hcs, _, hl, hm, hz, _, hcell, hwz⟩
    · simp [Value.cells] at hcs
      obtain ⟨rfl, rfl, rfl⟩ := hcs
      exact ⟨[], .inl ⟨rfl, rfl, rfl, rfl⟩⟩
    · simp [Value.cells] at hcs
      obtain ⟨rfl, rfl, rfl⟩ := hcs
      exact ⟨zs, .inr ⟨_, rfl, hl, hm, by simpa using hz, hcell, hwz⟩⟩
  clear hA0 hval0
  refine (walk a0 len0 cap0 z0 W w0).mono fun e W' ⟨he, bel⟩ => ?_
  subst he
  exact ⟨_, rfl, _, _, _, [], _, [], hW', trodAll_mk1 (shut_bool Try.underlying4 _), (trodAll_cons_mk (Below.trod laidOut (by kernel_rfl) (of_decide_eq_true (by kernel_rfl)) k0 bel lt0) trodAll_mk0), rfl, bel.frame _, fun h => by cases h⟩
theorem over : Rows.fnSumGetRow.holds Try.pinned (OpenSpec.ofChange Rows.fnSumGetSpec) :=
  OpenClaim.holds_of_wide 7 Try.f7 rfl rfl rfl rfl rfl rfl rfl ⟨rfl, rfl, rfl, rfl, rfl⟩ rfl rfl rfl rfl rfl (by kernel_rfl) Try.func7 (by kernel_rfl)
    (of_decide_eq_true (by kernel_rfl)) (by unfold Func.isWrapper; first | (rw [if_pos (by decide +kernel)]; kernel_rfl) | (rw [if_neg (by decide +kernel)]; exact ⟨rfl, rfl⟩))
    (fun os started H enc _ => lifted os started H enc)
theorem proved : Rows.FnSumGetSaid := over
end Go.Proofs.Ythggbcpphoknfaa.fnSumGet
