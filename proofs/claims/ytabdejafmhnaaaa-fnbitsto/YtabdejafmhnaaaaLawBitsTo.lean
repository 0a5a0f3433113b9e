/- FnBitsTo: Bits are read back from their bytes. For every code (the law draws the bits from it). No condition. -/
import Derived.Test.YtabdejafmhnaaaaBase
import Derived.Test.YtabdejafmhnaaaaOfR
import Derived.Test.YtabdejafmhnaaaaDrawOf
namespace Go.Proofs.Ytabdejafmhnaaaa.fnBitsTo
open Go.ChangeShapes Go.WideShapes Go.ChangeAt Go.RowKit
open Go.ChangeMaps (open_string shut_string)
set_option linter.unusedVariables false
set_option maxRecDepth 100000 in
set_option maxHeartbeats 4000000 in
theorem walk (a0 : Option Addr) (len0 cap0 : Nat) (z0 : List Int) (w : World) (w0 : IsRow .u8 w a0 len0 cap0 z0) :
    Calls Try.prog 4 #[.slice a0 len0 cap0] w fun e w' => e = .returned (.bool true) ∧ Below w.heap.size w w' := by
  by_cases hbig : 1048576 < len0
  · go_enter Try.func4, Try.ntmps4
    go_wp2
    go_ret
    exact ⟨rfl, Below.refl _ _⟩
  have HH := Lib.hid w0
  clear w0
  go_enter Try.func4, Try.ntmps4
  go_wp2_with fail
  refine (drawBitsTo_any a0 len0 cap0 z0 HH.out).mono ?_
  rintro e w1 ⟨s, rfl, hs, hb1⟩
  have HB1 := Lib.hid hb1
  clear hb1
  have hmax : s.size ≤ maxLen := by unfold maxLen; omega
  by_cases hk : okB s.data.toList = true ∧ s.size % 8 = 0
  · obtain ⟨h1, h2⟩ := hk
    have H1 := Lib.hid h1
    have H2 := Lib.hid h2
    have m1 : ((s.size : Int) % 8 == 0) = true := by rw [beq_iff_eq]; omega
    have m2 : (s.size : Int) % 8 = 0 := by omega
    have hsz := ok_size h1
    clear h2
    go_wp2_with fail
    refine (implTo_yes _ _ H1.out H2.out).mono ?_
    rintro e w2 ⟨rfl, hb2⟩
    have HB2 := Lib.hid (HB1.out.trans (hb2.mono HB1.out.size))
    clear hb2
    obtain ⟨X, hX⟩ : ∃ X : ByteArray, X = ⟨(toL s.data.toList).toArray⟩ := ⟨_, rfl⟩
    have HXL := Lib.hid (show X.data.toList = toL s.data.toList by rw [hX])
    have HX := Lib.hid hX
    rw [← hX]
    clear hX
    have hXs : X.size ≤ 150 := by rw [← size_list, HXL.out, toL_len, size_list]; omega
    have HOf := Lib.hid (show (⟨(ofA X.data.toList).toArray⟩ : ByteArray) = s by
      rw [ofA_of (by rw [size_list]; exact hXs), HXL.out, ofL_toL (ok_bits0 H1.out) (by rw [size_list]; exact H2.out), Lib.mk_data])
    go_wp2_with fail
    refine (specTo_yes _ _ H1.out H2.out).mono ?_
    rintro e w3 ⟨rfl, hb3⟩
    have HB3 := Lib.hid (HB2.out.trans (hb3.mono HB2.out.size))
    clear hb3
    rw [← HX.out]
    go_wp2_with (first | (go_at_call 22; refine (implOk_any _ _ hmax).mono ?_; rintro e w' ⟨rfl, rfl⟩) | (go_at_call 25; refine (specOk_any _ _ hmax).mono ?_; rintro e w' ⟨rfl, rfl⟩) | (go_at_call 19; refine (implOf_any _ _ (by omega)).mono ?_; rintro e w4 ⟨rfl, hb4⟩; rw [HOf.out]))
    go_ret
    exact ⟨rfl, HB3.out.trans (hb4.mono HB3.out.size)⟩
  · have hk2 : (okB s.data.toList && decide (s.size % 8 = 0)) = false := by
      cases h : okB s.data.toList with
      | false => rfl
      | true => simp only [Bool.true_and, decide_eq_false_iff_not]; exact fun h8 => hk ⟨h, h8⟩
    have HK := Lib.hid hk2
    go_wp2_with fail
    refine (implTo_no _ _ hmax HK.out).mono ?_
    rintro e w' ⟨rfl, rfl⟩
    go_wp2_with fail
    refine (specTo_no _ _ hmax HK.out).mono ?_
    rintro e w' ⟨rfl, rfl⟩
    clear hk2
    cases h : okB s.data.toList with
    | false =>
      clear hk
      go_wp2_with (first | (go_at_call 22; refine (implOk_any _ _ hmax).mono ?_; rintro e w' ⟨rfl, rfl⟩) | (go_at_call 25; refine (specOk_any _ _ hmax).mono ?_; rintro e w' ⟨rfl, rfl⟩))
      go_ret
      exact ⟨rfl, HB1.out⟩
    | true =>
      have h8 : ¬ s.size % 8 = 0 := fun h8 => hk ⟨h, h8⟩
      have m1 : ((s.size : Int) % 8 == 0) = false := by rw [beq_eq_false_iff_ne]; omega
      clear hk
      go_wp2_with (first | (go_at_call 22; refine (implOk_any _ _ hmax).mono ?_; rintro e w' ⟨rfl, rfl⟩) | (go_at_call 25; refine (specOk_any _ _ hmax).mono ?_; rintro e w' ⟨rfl, rfl⟩))
      go_ret
      exact ⟨rfl, HB1.out⟩
theorem own : ownKnob Try.prog.godebug = none := by kernel_rfl
theorem laidOut : laidOutB Try.prog = true := by kernel_rfl
set_option maxRecDepth 100000 in
theorem lifted (os : Os) (started : os.Started) (H : Type) (enc : TypeId × Value → H) :
    ReturnsInHanded {} Try.checked os 4 .any (Rows.fnBitsToSpec.pre6 enc Try.prog Try.f4 Rows.fnBitsToRow.domain false) (Rows.fnBitsToSpec.post enc Try.prog Try.f4 false true false false) := by
  refine returnsInHanded_of_change (C := Try.checked) own started (by kernel_rfl) Try.func4
    (ChangeSpec.witness6 (enc := enc) (C := Try.checked) false ⟨#[], #[.slice none 0 0], []⟩ 8 (by kernel_rfl) (by kernel_rfl) (by kernel_rfl) (by kernel_rfl)) ?_
  intro W base args ds gs before hval0 hW hcnd _
  have hval : ∀ (j : Nat) t v, Try.f4.params[j]? = some t → args[j]? = some v → Value.okWide Try.prog W .any base t v := hval0
  have hW' := hW
  obtain ⟨p, q, hA0, hV, rfl, hfz, hnd⟩ := hW
  have hA : DataW.TrodAll enc Try.prog W 0 (fun _ => true) true Try.f4.params.toList args.toList ds p := hA0
  rw [Try.params4] at hA hval
  obtain ⟨v0, vs0, d0, ds0, p0, q0, hargs, rfl, rfl, h0, r0⟩ := trodAll_cons hA
  obtain ⟨rfl, rfl, rfl⟩ := trodAll_nil r0
  obtain rfl : args = #[v0] := by cases args; simp_all
  obtain ⟨rfl, rfl⟩ := trodVars_none hV
  obtain ⟨a0, len0, cap0, rfl⟩ := okWide_slice Try.underlying22 (hval 0 22 v0 rfl rfl)
  have k0 := h0
  have lt0 : ∀ x ∈ p0, x.block < W.heap.size := by obtain ⟨m, hm⟩ := k0; exact DataW.trod_lt m _ _ _ hm
  obtain ⟨z0, w0⟩ : ∃ zs, IsRow .u8 W a0 len0 cap0 zs := by
    obtain ⟨fuel, hf⟩ := h0
    rcases open_ints Try.underlying22 Try.underlying5 (by kernel_rfl) hf with ⟨hcs, _⟩ | ⟨x, l, c, zs, hcs, _, hl, hm, hz, _, hcell, hwz⟩
    · simp [Value.cells] at hcs
      obtain ⟨rfl, rfl, rfl⟩ := hcs
      exact ⟨[], .inl ⟨rfl, rfl, rfl, rfl⟩⟩
    · simp [Value.cells] at hcs
      obtain ⟨rfl, rfl, rfl⟩ := hcs
      exact ⟨zs, .inr ⟨_, rfl, hl, hm, by simpa using hz, hcell, hwz⟩⟩
  clear hA0 hval0
  refine (walk a0 len0 cap0 z0 W w0).mono fun e W' ⟨he, bel⟩ => ?_
  subst he
  exact ⟨_, rfl, _, _, _, [], _, [], hW', trodAll_mk1 (shut_bool Try.underlying4 _), (trodAll_cons_mk (Below.trod laidOut (by kernel_rfl) (of_decide_eq_true (by kernel_rfl)) k0 bel lt0) trodAll_mk0), rfl, bel.frame _, fun h => by cases h⟩
theorem over : Rows.fnBitsToRow.holds Try.pinned (OpenSpec.ofChange Rows.fnBitsToSpec) :=
  OpenClaim.holds_of_wide 4 Try.f4 rfl rfl rfl rfl rfl rfl rfl ⟨rfl, rfl, rfl, rfl, rfl⟩ rfl rfl rfl rfl rfl (by kernel_rfl) Try.func4 (by kernel_rfl)
    (of_decide_eq_true (by kernel_rfl)) (by unfold Func.isWrapper; first | (rw [if_pos (by decide +kernel)]; kernel_rfl) | (rw [if_neg (by decide +kernel)]; exact ⟨rfl, rfl⟩))
    (fun os started H enc _ => lifted os started H enc)
theorem proved : Rows.FnBitsToSaid := over
end Go.Proofs.Ytabdejafmhnaaaa.fnBitsTo
