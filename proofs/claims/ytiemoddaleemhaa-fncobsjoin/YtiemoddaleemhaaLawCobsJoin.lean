/- FnCobsJoin: Bytes with a nought between are written as both, one behind the other. For every two codes (the law draws the two texts from them). No condition. -/
import Derived.Test.YtiemoddaleemhaaKitA
import Derived.Test.YtiemoddaleemhaaCobP
import Derived.Test.YtiemoddaleemhaaDrawCob
namespace Go.Proofs.Ytiemoddaleemhaa.fnCobsJoin
open Go.ChangeShapes Go.WideShapes Go.ChangeAt Go.RowKit
open Go.ChangeMaps (open_string shut_string)
set_option linter.unusedVariables false
set_option maxRecDepth 100000 in
set_option maxHeartbeats 8000000 in
theorem walk (a0 : Option Addr) (len0 cap0 : Nat) (z0 : List Int) (a1 : Option Addr) (len1 cap1 : Nat) (z1 : List Int) (w : World) (w0 : IsRow .u8 w a0 len0 cap0 z0) (w1 : IsRow .u8 w a1 len1 cap1 z1) :
    Calls Try.prog 5 #[.slice a0 len0 cap0, .slice a1 len1 cap1] w fun e w' => e = .returned (.bool true) ∧ Below w.heap.size w w' := by
  by_cases hbig : 1048576 < len0
  · go_enter Try.func5, Try.ntmps5
    go_wp2
    go_ret
    exact ⟨rfl, Below.refl _ _⟩
  by_cases hbig1 : 1048576 < len1
  · go_enter Try.func5, Try.ntmps5
    go_wp2
    go_ret
    exact ⟨rfl, Below.refl _ _⟩
  have HH := Lib.hid w0
  have HH1 := Lib.hid w1
  clear w0 w1
  go_enter Try.func5, Try.ntmps5
  go_wp2_with fail
  refine (drawCobsPut_any a0 len0 cap0 z0 HH.out).mono ?_
  rintro e w1 ⟨a, rfl, hsa, hb1⟩
  have HB1 := Lib.hid hb1
  clear hb1
  go_wp2_with fail
  refine (drawCobsPut_any a1 len1 cap1 z1 (HH1.out.keep HB1.out)).mono ?_
  rintro e w2 ⟨b, rfl, hsb, hb2⟩
  have HB2 := Lib.hid (HB1.out.trans (hb2.mono HB1.out.size))
  clear hb2
  go_wp2_with fail
  refine (implCobs_any a _).mono ?_
  rintro e w3 ⟨rfl, hb3⟩
  have HB3 := Lib.hid (HB2.out.trans (hb3.mono HB2.out.size))
  clear hb3
  obtain ⟨X, hX⟩ : ∃ X : ByteArray, X = ⟨(cobA a.data.toList).toArray⟩ := ⟨_, rfl⟩
  have HX := Lib.hid hX
  rw [← hX]
  clear hX
  go_wp2_with fail
  refine (specCobs_any a _).mono ?_
  rintro e w4 ⟨rfl, hb4⟩
  have HB4 := Lib.hid (HB3.out.trans (hb4.mono HB3.out.size))
  clear hb4
  rw [← HX.out]
  have fin : ∀ W, Below w.heap.size w W → Calls Try.prog 14 #[.string a] W fun e w' => e = .returned (.string X) ∧ Below w.heap.size w w' := fun W hW => (specCobs_any a W).mono fun e w' ⟨h1, h2⟩ => ⟨by rw [h1, HX.out], hW.trans (h2.mono hW.size)⟩
  have FIN := Lib.hid fin
  clear fin
  by_cases h1 : 600 ≤ a.size + b.size
  · have h1i : (600 : Int) ≤ (a.size : Int) + (b.size : Int) := by omega
    go_wp2_with fail
    refine (FIN.out _ HB4.out).mono ?_
    rintro e w5 ⟨rfl, hb5⟩
    have HB5 := Lib.hid hb5
    clear hb5
    go_wp2
    go_ret
    exact ⟨by simp, HB5.out⟩
  by_cases h2 : 200 < a.size
  · have h1i : ¬ (600 : Int) ≤ (a.size : Int) + (b.size : Int) := by omega
    go_wp2_with fail
    refine (FIN.out _ HB4.out).mono ?_
    rintro e w5 ⟨rfl, hb5⟩
    have HB5 := Lib.hid hb5
    clear hb5
    go_wp2
    go_ret
    exact ⟨by simp, HB5.out⟩
  have h1i : ¬ (600 : Int) ≤ (a.size : Int) + (b.size : Int) := by omega
  obtain ⟨J, hJ⟩ : ∃ J : ByteArray, J = a ++ ⟨#[0]⟩ ++ b := ⟨_, rfl⟩
  have h0s : (⟨#[0]⟩ : ByteArray).size = 1 := rfl
  have hJs : J.size = a.size + 1 + b.size := by rw [hJ, ByteArray.size_append, ByteArray.size_append, h0s]
  have HJL := Lib.hid (show J.data.toList = a.data.toList ++ 0 :: b.data.toList by rw [hJ]; simp)
  have hadd1 : ∀ u : World, (Op.stringOp .add a ⟨#[0]⟩).run Try.prog u = .ok (.string (a ++ ⟨#[0]⟩)) u := fun u => run_string_add_sum u _ _ (by rw [h0s]; omega)
  have hadd2 : ∀ u : World, (Op.stringOp .add (a ++ ⟨#[0]⟩) b).run Try.prog u = .ok (.string J) u := fun u => by rw [run_string_add_sum u _ _ (by rw [ByteArray.size_append, h0s]; omega), hJ]
  obtain ⟨Y, hY⟩ : ∃ Y : ByteArray, Y = ⟨(cobA b.data.toList).toArray⟩ := ⟨_, rfl⟩
  have HY := Lib.hid hY
  have HEq := Lib.hid (show (⟨(cobA J.data.toList).toArray⟩ : ByteArray) = X ++ Y by
    have e1 : cobA J.data.toList = cob a.data.toList ++ cob b.data.toList := by
      rw [cobA, if_pos (by rw [size_list]; omega), HJL.out, cob_join _ (by rw [size_list]; omega)]
    have e2 : cobA a.data.toList = cob a.data.toList := by rw [cobA, if_pos (by rw [size_list]; omega)]
    have e3 : cobA b.data.toList = cob b.data.toList := by rw [cobA, if_pos (by rw [size_list]; omega)]
    rw [HX.out, hY, e1, e2, e3, ← Lib.mk_data (_ ++ _)]
    congr 2)
  have hXY : X.size + Y.size ≤ 9223372036854775807 := by
    have h3 : (X ++ Y).size ≤ 2 * 600 + 1 := by
      rw [← HEq.out]
      show (cobA J.data.toList).toArray.size ≤ _
      rw [cobA]
      split
      · have := cob_len J.data.toList
        rw [size_list] at this
        simp only [List.size_toArray]; omega
      · simp
    rw [ByteArray.size_append] at h3
    omega
  have hadd3 : ∀ u : World, (Op.stringOp .add X Y).run Try.prog u = .ok (.string (X ++ Y)) u := fun u => run_string_add_sum u X Y hXY
  clear hJ hY hJs
  go_wp2_with fail
  refine (implCobs_any J _).mono ?_
  rintro e w5 ⟨rfl, hb5⟩
  have HB5 := Lib.hid (HB4.out.trans (hb5.mono HB4.out.size))
  clear hb5
  rw [HEq.out]
  go_wp2_with fail
  refine (implCobs_any b _).mono ?_
  rintro e w6 ⟨rfl, hb6⟩
  have HB6 := Lib.hid (HB5.out.trans (hb6.mono HB5.out.size))
  clear hb6
  rw [← HY.out]
  go_wp2
  go_ret
  exact ⟨by simp, HB6.out⟩
theorem own : ownKnob Try.prog.godebug = none := by kernel_rfl
theorem laidOut : laidOutB Try.prog = true := by kernel_rfl
set_option maxRecDepth 100000 in
theorem lifted (os : Os) (started : os.Started) (H : Type) (enc : TypeId × Value → H) :
    ReturnsInHanded {} Try.checked os 5 .any (Rows.fnCobsJoinSpec.pre6 enc Try.prog Try.f5 Rows.fnCobsJoinRow.domain false) (Rows.fnCobsJoinSpec.post enc Try.prog Try.f5 false true false false) := by
  refine returnsInHanded_of_change (C := Try.checked) own started (by kernel_rfl) Try.func5
    (ChangeSpec.witness6 (enc := enc) (C := Try.checked) false ⟨#[], #[.slice none 0 0, .slice none 0 0], []⟩ 8 (by kernel_rfl) (by kernel_rfl) (by kernel_rfl) (by kernel_rfl)) ?_
  intro W base args ds gs before hval0 hW hcnd _
  have hval : ∀ (j : Nat) t v, Try.f5.params[j]? = some t → args[j]? = some v → Value.okWide Try.prog W .any base t v := hval0
  have hW' := hW
  obtain ⟨p, q, hA0, hV, rfl, hfz, hnd⟩ := hW
  have hA : DataW.TrodAll enc Try.prog W 0 (fun _ => true) true Try.f5.params.toList args.toList ds p := hA0
  rw [Try.params5] at hA hval
  obtain ⟨v0, vs0, d0, ds0, p0, q0, hargs, rfl, rfl, h0, r0⟩ := trodAll_cons hA
  obtain ⟨v1, vs1, d1, ds1, p1, q1, rfl, rfl, rfl, h1, r1⟩ := trodAll_cons r0
  obtain ⟨rfl, rfl, rfl⟩ := trodAll_nil r1
  obtain rfl : args = #[v0, v1] := by cases args; simp_all
  obtain ⟨rfl, rfl⟩ := trodVars_none hV
  obtain ⟨a0, len0, cap0, rfl⟩ := okWide_slice Try.underlying22 (hval 0 22 v0 rfl rfl)
  have k0 := h0
  have lt0 : ∀ x ∈ p0, x.block < W.heap.size := by obtain ⟨m, hm⟩ := k0; exact DataW.trod_lt m _ _ _ hm
  obtain ⟨z0, w0⟩ : ∃ zs, IsRow .u8 W a0 len0 cap0 zs := by
    obtain ⟨fuel, hf⟩ := h0
    rcases open_ints Try.underlying22 Try.underlying5 (by kernel_rfl) hf with ⟨hcs, _⟩ | ⟨x, l, c, zs, hcs, _, hl, hm, hz, _, hcell, hwz⟩
    · simp [Value.cells] at hcs
      obtain ⟨rfl, rfl, rfl⟩ := hcs
      exact ⟨[], .inl ⟨rfl, rfl, rfl, rfl⟩⟩
    · simp [Value.cells] at hcs
      obtain ⟨rfl, rfl, rfl⟩ := hcs
      exact ⟨zs, .inr ⟨_, rfl, hl, hm, by simpa using hz, hcell, hwz⟩⟩
  obtain ⟨a1, len1, cap1, rfl⟩ := okWide_slice Try.underlying22 (hval 1 22 v1 rfl rfl)
  have k1 := h1
  have lt1 : ∀ x ∈ p1, x.block < W.heap.size := by obtain ⟨m, hm⟩ := k1; exact DataW.trod_lt m _ _ _ hm
  obtain ⟨z1, w1⟩ : ∃ zs, IsRow .u8 W a1 len1 cap1 zs := by
    obtain ⟨fuel, hf⟩ := h1
    rcases open_ints Try.underlying22 Try.underlying5 (by kernel_rfl) hf with ⟨hcs, _⟩ | ⟨x, l, c, zs, hcs, _, hl, hm, hz, _, hcell, hwz⟩
    · simp [Value.cells] at hcs
      obtain ⟨rfl, rfl, rfl⟩ := hcs
      exact ⟨[], .inl ⟨rfl, rfl, rfl, rfl⟩⟩
    · simp [Value.cells] at hcs
      obtain ⟨rfl, rfl, rfl⟩ := hcs
      exact ⟨zs, .inr ⟨_, rfl, hl, hm, by simpa using hz, hcell, hwz⟩⟩
  clear hA0 hval0
  refine (walk a0 len0 cap0 z0 a1 len1 cap1 z1 W w0 w1).mono fun e W' ⟨he, bel⟩ => ?_
  subst he
  exact ⟨_, rfl, _, _, _, [], _, [], hW', trodAll_mk1 (shut_bool Try.underlying4 _), (trodAll_cons_mk (Below.trod laidOut (by kernel_rfl) (of_decide_eq_true (by kernel_rfl)) k0 bel lt0) (trodAll_cons_mk (Below.trod laidOut (by kernel_rfl) (of_decide_eq_true (by kernel_rfl)) k1 bel lt1) trodAll_mk0)), rfl, bel.frame _, fun h => by cases h⟩
theorem over : Rows.fnCobsJoinRow.holds Try.pinned (OpenSpec.ofChange Rows.fnCobsJoinSpec) :=
  OpenClaim.holds_of_wide 5 Try.f5 rfl rfl rfl rfl rfl rfl rfl ⟨rfl, rfl, rfl, rfl, rfl⟩ rfl rfl rfl rfl rfl (by kernel_rfl) Try.func5 (by kernel_rfl)
    (of_decide_eq_true (by kernel_rfl)) (by unfold Func.isWrapper; first | (rw [if_pos (by decide +kernel)]; kernel_rfl) | (rw [if_neg (by decide +kernel)]; exact ⟨rfl, rfl⟩))
    (fun os started H enc _ => lifted os started H enc)
theorem proved : Rows.FnCobsJoinSaid := over
end Go.Proofs.Ytiemoddaleemhaa.fnCobsJoin
