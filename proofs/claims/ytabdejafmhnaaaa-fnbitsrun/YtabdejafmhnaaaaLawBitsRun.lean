/- FnBitsRun: BitsRun of two pieces together: at least that of each, at most their sum. For every two codes (the law draws the bits from the first, where it cuts from the second). No condition. -/
import Derived.Test.YtabdejafmhnaaaaBase
import Derived.Test.YtabdejafmhnaaaaBitsR
import Derived.Test.YtabdejafmhnaaaaDrawBitsB
namespace Go.Proofs.Ytabdejafmhnaaaa.fnBitsRun
open Go.ChangeShapes Go.WideShapes Go.ChangeAt Go.RowKit
open Go.ChangeMaps (open_string shut_string)
set_option linter.unusedVariables false
set_option maxRecDepth 100000 in
set_option maxHeartbeats 4000000 in
theorem walk (a0 : Option Addr) (len0 cap0 : Nat) (z0 : List Int) (a1 : Option Addr) (len1 cap1 : Nat) (z1 : List Int) (w : World) (w0 : IsRow .u8 w a0 len0 cap0 z0) (w1 : IsRow .u8 w a1 len1 cap1 z1) :
    Calls Try.prog 5 #[.slice a0 len0 cap0, .slice a1 len1 cap1] w fun e w' => e = .returned (.bool true) ∧ Below w.heap.size w w' := by
  by_cases hbig : 1048576 < len0
  · go_enter Try.func5, Try.ntmps5
    go_wp2
    go_ret
    exact ⟨rfl, Below.refl _ _⟩
  by_cases hbig1 : 1048576 < len1
  · go_enter Try.func5, Try.ntmps5
    go_wp2
    go_ret
    exact ⟨rfl, Below.refl _ _⟩
  have HH := Lib.hid w0
  clear w0 w1
  go_enter Try.func5, Try.ntmps5
  go_wp2_with fail
  refine (drawBitsRun_any a0 len0 cap0 z0 HH.out).mono ?_
  rintro e w1 ⟨s, rfl, hs, hb1⟩
  have HB1 := Lib.hid hb1
  clear hb1
  have hmax : s.size ≤ maxLen := by unfold maxLen; omega
  cases hk : okB s.data.toList with
  | false =>
    have HK := Lib.hid hk
    clear hk
    go_wp2_with (first | (go_at_call 27; refine (implBitsRun_no _ _ hmax HK.out).mono ?_; rintro e w' ⟨rfl, rfl⟩) | (go_at_call 28; refine (specBitsRun_no _ _ hmax HK.out).mono ?_; rintro e w' ⟨rfl, rfl⟩))
    go_ret
    exact ⟨rfl, HB1.out⟩
  | true =>
    have HK := Lib.hid hk
    clear hk
    have hn0 : decide (((runN s.data.toList : Nat) : Int) < 0) = false := by simp
    go_wp2_with fail
    refine (implBitsRun_yes _ _ HK.out).mono ?_
    rintro e w' ⟨rfl, rfl⟩
    go_wp2_with fail
    refine (specBitsRun_yes _ _ HK.out).mono ?_
    rintro e w' ⟨rfl, rfl⟩
    have hk0 : 0 ≤ (len1 : Int) % ((s.size : Int) + 1) := Int.emod_nonneg _ (by omega)
    have hk1 : (len1 : Int) % ((s.size : Int) + 1) ≤ (s.size : Int) := by have := Int.emod_lt_of_pos (len1 : Int) (show (0 : Int) < (s.size : Int) + 1 by omega); omega
    obtain ⟨k, hkk⟩ := Int.eq_ofNat_of_zero_le hk0
    have hkk1 := hkk ▸ hk1
    go_wp2_with fail
    have hE : (len1 : Int) % ((s.size : Int) + 1) = (k : Int) := hkk
    simp only [hE]
    clear hkk hE hk0 hk1
    refine (implBitsRun_yes _ _ (by rw [ext_take]; exact ok_take HK.out k)).mono ?_
    rintro e w' ⟨rfl, rfl⟩
    rw [ext_take]
    go_wp2_with fail
    refine (implBitsRun_yes _ _ (by rw [ext_drop]; exact ok_drop HK.out k)).mono ?_
    rintro e w' ⟨rfl, rfl⟩
    rw [ext_drop]
    have hra := run_append (s.data.toList.take k) (s.data.toList.drop k)
    rw [List.take_append_drop] at hra
    obtain ⟨g1, g2, g3⟩ := hra
    have g4 : runN s.data.toList ≤ s.size := by have := (runS_le s.data.toList).1; rw [size_list] at this; exact this
    generalize runN s.data.toList = R at *
    generalize runN (s.data.toList.take k) = X at *
    generalize runN (s.data.toList.drop k) = Y at *
    have d1 : decide ((X : Int) ≤ (R : Int)) = true := by simp; omega
    have d2 : decide ((Y : Int) ≤ (R : Int)) = true := by simp; omega
    have d3 : decide ((R : Int) ≤ (X : Int) + (Y : Int)) = true := by simp; omega
    have d4 : decide ((R : Int) ≤ (s.size : Int)) = true := by simp; omega
    go_wp2
    go_ret
    exact ⟨by simp, HB1.out⟩
theorem own : ownKnob Try.prog.godebug = none := by kernel_rfl
theorem laidOut : laidOutB Try.prog = true := by kernel_rfl
set_option maxRecDepth 100000 in
theorem lifted (os : Os) (started : os.Started) (H : Type) (enc : TypeId × Value → H) :
    ReturnsInHanded {} Try.checked os 5 .any (Rows.fnBitsRunSpec.pre6 enc Try.prog Try.f5 Rows.fnBitsRunRow.domain false) (Rows.fnBitsRunSpec.post enc Try.prog Try.f5 false true false false) := by
  refine returnsInHanded_of_change (C := Try.checked) own started (by kernel_rfl) Try.func5
    (ChangeSpec.witness6 (enc := enc) (C := Try.checked) false ⟨#[], #[.slice none 0 0, .slice none 0 0], []⟩ 8 (by kernel_rfl) (by kernel_rfl) (by kernel_rfl) (by kernel_rfl)) ?_
  intro W base args ds gs before hval0 hW hcnd _
  have hval : ∀ (j : Nat) t v, Try.f5.params[j]? = some t → args[j]? = some v → Value.okWide Try.prog W .any base t v := hval0
  have hW' := hW
  obtain ⟨p, q, hA0, hV, rfl, hfz, hnd⟩ := hW
  have hA : DataW.TrodAll enc Try.prog W 0 (fun _ => true) true Try.f5.params.toList args.toList ds p := hA0
  rw [Try.params5] at hA hval
  obtain ⟨v0, vs0, d0, ds0, p0, q0, hargs, rfl, rfl, h0, r0⟩ := trodAll_cons hA
  obtain ⟨v1, vs1, d1, ds1, p1, q1, rfl, rfl, rfl, h1, r1⟩ := trodAll_cons r0
  obtain ⟨rfl, rfl, rfl⟩ := trodAll_nil r1
  obtain rfl : args = #[v0, v1] := by cases args; simp_all
  obtain ⟨rfl, rfl⟩ := trodVars_none hV
  obtain ⟨a0, len0, cap0, rfl⟩ := okWide_slice Try.underlying22 (hval 0 22 v0 rfl rfl)
  have k0 := h0
  have lt0 : ∀ x ∈ p0, x.block < W.heap.size := by obtain ⟨m, hm⟩ := k0; exact DataW.trod_lt m _ _ _ hm
  obtain ⟨z0, w0⟩ : ∃ zs, IsRow .u8 W a0 len0 cap0 zs := by
    obtain ⟨fuel, hf⟩ := h0
    rcases open_ints Try.underlying22 Try.underlying5 (by kernel_rfl) hf with ⟨hcs, _⟩ | ⟨x, l, c, zs, hcs, _, hl, hm, hz, _, hcell, hwz⟩
    · simp [Value.cells] at hcs
      obtain ⟨rfl, rfl, rfl⟩ := hcs
      exact ⟨[], .inl ⟨rfl, rfl, rfl, rfl⟩⟩
    · simp [Value.cells] at hcs
      obtain ⟨rfl, rfl, rfl⟩ := hcs
      exact ⟨zs, .inr ⟨_, rfl, hl, hm, by simpa using hz, hcell, hwz⟩⟩
  obtain ⟨a1, len1, cap1, rfl⟩ := okWide_slice Try.underlying22 (hval 1 22 v1 rfl rfl)
  have k1 := h1
  have lt1 : ∀ x ∈ p1, x.block < W.heap.size := by obtain ⟨m, hm⟩ := k1; exact DataW.trod_lt m _ _ _ hm
  obtain ⟨z1, w1⟩ : ∃ zs, IsRow .u8 W a1 len1 cap1 zs := by
    obtain ⟨fuel, hf⟩ := h1
    rcases open_ints Try.underlying22 Try.underlying5 (by kernel_rfl) hf with ⟨hcs, _⟩ | ⟨x, l, c, zs, hcs, _, hl, hm, hz, _, hcell, hwz⟩
    · simp [Value.cells] at hcs
      obtain ⟨rfl, rfl, rfl⟩ := hcs
      exact ⟨[], .inl ⟨rfl, rfl, rfl, rfl⟩⟩
    · simp [Value.cells] at hcs
      obtain ⟨rfl, rfl, rfl⟩ := hcs
      exact ⟨zs, .inr ⟨_, rfl, hl, hm, by simpa using hz, hcell, hwz⟩⟩
  clear hA0 hval0
  refine (walk a0 len0 cap0 z0 a1 len1 cap1 z1 W w0 w1).mono fun e W' ⟨he, bel⟩ => ?_
  subst he
  exact ⟨_, rfl, _, _, _, [], _, [], hW', trodAll_mk1 (shut_bool Try.underlying4 _), (trodAll_cons_mk (Below.trod laidOut (by kernel_rfl) (of_decide_eq_true (by kernel_rfl)) k0 bel lt0) (trodAll_cons_mk (Below.trod laidOut (by kernel_rfl) (of_decide_eq_true (by kernel_rfl)) k1 bel lt1) trodAll_mk0)), rfl, bel.frame _, fun h => by cases h⟩
theorem over : Rows.fnBitsRunRow.holds Try.pinned (OpenSpec.ofChange Rows.fnBitsRunSpec) :=
  OpenClaim.holds_of_wide 5 Try.f5 rfl rfl rfl rfl rfl rfl rfl ⟨rfl, rfl, rfl, rfl, rfl⟩ rfl rfl rfl rfl rfl (by kernel_rfl) Try.func5 (by kernel_rfl)
    (of_decide_eq_true (by kernel_rfl)) (by unfold Func.isWrapper; first | (rw [if_pos (by decide +kernel)]; kernel_rfl) | (rw [if_neg (by decide +kernel)]; exact ⟨rfl, rfl⟩))
    (fun os started H enc _ => lifted os started H enc)
theorem proved : Rows.FnBitsRunSaid := over
end Go.Proofs.Ytabdejafmhnaaaa.fnBitsRun
