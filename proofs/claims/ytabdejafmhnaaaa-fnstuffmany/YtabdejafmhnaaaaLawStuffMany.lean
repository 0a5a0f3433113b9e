/- FnStuffMany: StuffMany is at most a fifth of the bits, and none just where no five ones stand together. For every code (the law draws the bits from it). No condition. -/
import Derived.Test.YtabdejafmhnaaaaBase
import Derived.Test.YtabdejafmhnaaaaStuffE
namespace Go.Proofs.Ytabdejafmhnaaaa.fnStuffMany
open Go.ChangeShapes Go.WideShapes Go.ChangeAt Go.RowKit
open Go.ChangeMaps (open_string shut_string)
set_option linter.unusedVariables false
set_option maxRecDepth 100000 in
set_option maxHeartbeats 4000000 in
theorem walk (a0 : Option Addr) (len0 cap0 : Nat) (z0 : List Int) (w : World) (w0 : IsRow .u8 w a0 len0 cap0 z0) :
    Calls Try.prog 9 #[.slice a0 len0 cap0] w fun e w' => e = .returned (.bool true) ∧ Below w.heap.size w w' := by
  by_cases hbig : 1048576 < len0
  · go_enter Try.func9, Try.ntmps9
    go_wp2
    go_ret
    exact ⟨rfl, Below.refl _ _⟩
  have HH := Lib.hid w0
  clear w0
  go_enter Try.func9, Try.ntmps9
  go_wp2_with fail
  refine (drawStuffMany_any a0 len0 cap0 z0 HH.out).mono ?_
  rintro e w1 ⟨s, rfl, hs, hb1⟩
  have HB1 := Lib.hid hb1
  clear hb1
  go_wp2_with fail
  refine (implMany_any _ _ (by omega)).mono ?_
  rintro e w2 ⟨rfl, hb2⟩
  have HB2 := Lib.hid (HB1.out.trans (hb2.mono HB1.out.size))
  clear hb2
  go_wp2_with fail
  refine (specMany_any _ _ (by omega)).mono ?_
  rintro e w3 ⟨rfl, hb3⟩
  have HB3 := Lib.hid (HB2.out.trans (hb3.mono HB2.out.size))
  clear hb3
  cases hk : okB s.data.toList with
  | false =>
    have hm : manyA s.data.toList = -1 := by rw [manyA, hk]; rfl
    have HM := Lib.hid hm
    rw [hm]
    clear hk hm
    go_wp2_with fail
    refine (specMany_any _ _ (by omega)).mono ?_
    rintro e w4 ⟨rfl, hb4⟩
    rw [HM.out]
    have HB4 := Lib.hid (HB3.out.trans (hb4.mono HB3.out.size))
    clear hb4
    go_wp2
    go_ret
    exact ⟨rfl, HB4.out⟩
  | true =>
    have HK := Lib.hid hk
    have hl1 := put_len s.data.toList 0 (by omega)
    have hl2 := put_none s.data.toList (ok_bits hk) 0 0 (by omega) (by omega)
    have hl3 : manyA s.data.toList = ((putR s.data.toList).length : Int) - (s.data.toList.length : Int) := if_pos hk
    have hl4 : (s.data.toList.foldl runStep (0, 0)).1 = runN s.data.toList := rfl
    rw [hl4] at hl2
    rw [hl3, size_list]
    rw [size_list] at hl1 hl2
    clear hl3 hl4 hk
    obtain ⟨m, hm⟩ : ∃ m : Nat, ((putR s.data.toList).length : Int) - (s.size : Int) = (m : Int) := ⟨(putR s.data.toList).length - s.size, by
      have := hl1.1
      change s.size ≤ (putR s.data.toList).length at this
      omega⟩
    rw [hm]
    have hm5 : m ≤ s.size / 5 := by
      have h1 := hl1.2
      change 5 * (putR s.data.toList).length ≤ 6 * s.size + 0 at h1
      omega
    have hm0 : m = 0 ↔ runN s.data.toList < 5 := by
      rw [← hl2]
      change m = 0 ↔ (putR s.data.toList).length = s.size
      omega
    clear hl1 hl2 hm
    have hn0 : ¬ ((m : Int) < 0) := by omega
    obtain ⟨q, hq⟩ : ∃ q : Nat, s.size / 5 = q := ⟨_, rfl⟩
    have hq2 : (s.size : Int) / 5 = (q : Int) := by omega
    have hq3 : (s.size : Int).tdiv 5 = (q : Int) := by rw [Int.tdiv_eq_ediv_of_nonneg (by omega)]; exact hq2
    rw [hq] at hm5
    have HM0 := Lib.hid hm0
    clear hm0 hq
    go_wp2_with fail
    refine (implBitsRun_yes _ _ HK.out).mono ?_
    rintro e w' ⟨rfl, rfl⟩
    generalize runN s.data.toList = R at *
    by_cases h0 : m = 0
    · have hR : ((R : Int) < 5) := by have := HM0.out.1 h0; omega
      subst h0
      clear hq2 hq3
      go_wp2
      go_ret
      exact ⟨rfl, HB3.out⟩
    · have hR : ¬ ((R : Int) < 5) := by intro h; exact h0 (HM0.out.2 (by omega))
      have h00 : ((m : Int) == 0) = false := beq_eq_false_iff_ne.2 (by omega)
      have hRd : decide ((R : Int) < 5) = false := decide_eq_false hR
      clear hq2 hq3
      go_wp2
      go_ret
      exact ⟨rfl, HB3.out⟩
theorem own : ownKnob Try.prog.godebug = none := by kernel_rfl
theorem laidOut : laidOutB Try.prog = true := by kernel_rfl
set_option maxRecDepth 100000 in
theorem lifted (os : Os) (started : os.Started) (H : Type) (enc : TypeId × Value → H) :
    ReturnsInHanded {} Try.checked os 9 .any (Rows.fnStuffManySpec.pre6 enc Try.prog Try.f9 Rows.fnStuffManyRow.domain false) (Rows.fnStuffManySpec.post enc Try.prog Try.f9 false true false false) := by
  refine returnsInHanded_of_change (C := Try.checked) own started (by kernel_rfl) Try.func9
    (ChangeSpec.witness6 (enc := enc) (C := Try.checked) false ⟨#[], #[.slice none 0 0], []⟩ 8 (by kernel_rfl) (by kernel_rfl) (by kernel_rfl) (by kernel_rfl)) ?_
  intro W base args ds gs before hval0 hW hcnd _
  have hval : ∀ (j : Nat) t v, Try.f9.params[j]? = some t → args[j]? = some v → Value.okWide Try.prog W .any base t v := hval0
  have hW' := hW
  obtain ⟨p, q, hA0, hV, rfl, hfz, hnd⟩ := hW
  have hA : DataW.TrodAll enc Try.prog W 0 (fun _ => true) true Try.f9.params.toList args.toList ds p := hA0
  rw [Try.params9] at hA hval
  obtain ⟨v0, vs0, d0, ds0, p0, q0, hargs, rfl, rfl, h0, r0⟩ := trodAll_cons hA
  obtain ⟨rfl, rfl, rfl⟩ := trodAll_nil r0
  obtain rfl : args = #[v0] := by cases args; simp_all
  obtain ⟨rfl, rfl⟩ := trodVars_none hV
  obtain ⟨a0, len0, cap0, rfl⟩ := okWide_slice Try.underlying22 (hval 0 22 v0 rfl rfl)
  have k0 := h0
  have lt0 : ∀ x ∈ p0, x.block < W.heap.size := by obtain ⟨m, hm⟩ := k0; exact DataW.trod_lt m _ _ _ hm
  obtain ⟨z0, w0⟩ : ∃ zs, IsRow .u8 W a0 len0 cap0 zs := by
    obtain ⟨fuel, hf⟩ := h0
    rcases open_ints Try.underlying22 Try.underlying5 (by kernel_rfl) hf with ⟨hcs, _⟩ | ⟨x, l, c, zs, hcs, _, hl, hm, hz, _, hcell, hwz⟩
    · simp [Value.cells] at hcs
      obtain ⟨rfl, rfl, rfl⟩ := hcs
      exact ⟨[], .inl ⟨rfl, rfl, rfl, rfl⟩⟩
    · simp [Value.cells] at hcs
      obtain ⟨rfl, rfl, rfl⟩ := hcs
      exact ⟨zs, .inr ⟨_, rfl, hl, hm, by simpa using hz, hcell, hwz⟩⟩
  clear hA0 hval0
  refine (walk a0 len0 cap0 z0 W w0).mono fun e W' ⟨he, bel⟩ => ?_
  subst he
  exact ⟨_, rfl, _, _, _, [], _, [], hW', trodAll_mk1 (shut_bool Try.underlying4 _), (trodAll_cons_mk (Below.trod laidOut (by kernel_rfl) (of_decide_eq_true (by kernel_rfl)) k0 bel lt0) trodAll_mk0), rfl, bel.frame _, fun h => by cases h⟩
theorem over : Rows.fnStuffManyRow.holds Try.pinned (OpenSpec.ofChange Rows.fnStuffManySpec) :=
  OpenClaim.holds_of_wide 9 Try.f9 rfl rfl rfl rfl rfl rfl rfl ⟨rfl, rfl, rfl, rfl, rfl⟩ rfl rfl rfl rfl rfl (by kernel_rfl) Try.func9 (by kernel_rfl)
    (of_decide_eq_true (by kernel_rfl)) (by unfold Func.isWrapper; first | (rw [if_pos (by decide +kernel)]; kernel_rfl) | (rw [if_neg (by decide +kernel)]; exact ⟨rfl, rfl⟩))
    (fun os started H enc _ => lifted os started H enc)
theorem proved : Rows.FnStuffManySaid := over
end Go.Proofs.Ytabdejafmhnaaaa.fnStuffMany
