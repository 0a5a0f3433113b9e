/- FnManPut: Bits are read back from their halves; no three ones stand together in that, and it turns at each bit. For every code (the law draws the bits from it). No condition. -/
import Derived.Test.YtkeeigaohfillaaKitA
import Derived.Test.YtkeeigaohfillaaWavB
import Derived.Test.YtkeeigaohfillaaWavD
import Derived.Test.YtkeeigaohfillaaDrawWav
namespace Go.Proofs.Ytkeeigaohfillaa.fnManPut
open Go.ChangeShapes Go.WideShapes Go.ChangeAt Go.RowKit
open Go.ChangeMaps (open_string shut_string)
set_option linter.unusedVariables false
set_option maxRecDepth 100000 in
set_option maxHeartbeats 8000000 in
theorem walk (a0 : Option Addr) (len0 cap0 : Nat) (z0 : List Int) (w : World) (w0 : IsRow .u8 w a0 len0 cap0 z0) :
    Calls Try.prog 3 #[.slice a0 len0 cap0] w fun e w' => e = .returned (.bool true) ∧ Below w.heap.size w w' := by
  by_cases hbig : 1048576 < len0
  · go_enter Try.func3, Try.ntmps3
    go_wp2
    go_ret
    exact ⟨rfl, Below.refl _ _⟩
  have HH := Lib.hid w0
  clear w0
  go_enter Try.func3, Try.ntmps3
  go_wp2_with fail
  refine (drawManPut_any a0 len0 cap0 z0 HH.out).mono ?_
  rintro e w1 ⟨s, rfl, hs, hb1⟩
  have HB1 := Lib.hid hb1
  clear hb1
  have hmax : s.size ≤ maxLen := by unfold maxLen; omega
  go_wp2_with fail
  refine (implMan_any _ _ hmax).mono ?_
  rintro e w2 ⟨rfl, hb2⟩
  have HB2 := Lib.hid (HB1.out.trans (hb2.mono HB1.out.size))
  clear hb2
  obtain ⟨X, hX⟩ : ∃ X : ByteArray, X = ⟨(putM s.data.toList).toArray⟩ := ⟨_, rfl⟩
  have hXL : X.data.toList = putM s.data.toList := by rw [hX]
  have HX := Lib.hid hX
  rw [← hX]
  clear hX
  go_wp2_with fail
  refine (specMan_any _ _ hmax).mono ?_
  rintro e w3 ⟨rfl, hb3⟩
  have HB3 := Lib.hid (HB2.out.trans (hb3.mono HB2.out.size))
  clear hb3
  rw [← HX.out]
  by_cases hk : manOkB s.data.toList = true ∧ s.size ≠ 0
  · obtain ⟨hk1, hk2⟩ := hk
    obtain ⟨hok, hsz⟩ := manOk_parts hk1
    have hP := putM_yes hk1
    rw [hP] at hXL
    have HXL := Lib.hid hXL
    have hXs : X.size = 2 * s.size := by rw [← size_list, hXL, manL_len, size_list]
    have hbits := (okB_iff.1 hok).1
    have hXok : okB X.data.toList = true := by rw [okB_iff, hXL]; exact ⟨manL_bits hbits, by rw [manL_len, size_list]; omega⟩
    have HG := Lib.hid (getM_putM hk1)
    have HR := Lib.hid (show runN X.data.toList ≤ 2 by rw [hXL]; exact run_man _ hbits)
    have HW := Lib.hid (show s.size ≤ waveN X.data.toList by rw [hXL, ← size_list]; exact wave_man _)
    have HXS := Lib.hid hXs
    have HXO := Lib.hid hXok
    have h1 : X.toList ≠ [] := by
      rw [Lib.toList_data]; intro h
      have := size_list X
      rw [h] at this
      simp at this; omega
    have h2 : X.toList.isEmpty = false := by cases hh : X.toList with | nil => exact absurd hh h1 | cons x l => rfl
    have hXb : X.size ≤ 2000000 := by omega
    clear hk1 hk2 hok hP hXL hXs hXok hbits
    go_wp2_with fail
    refine (implManGet_any _ _ hXb).mono ?_
    rintro e w4 ⟨rfl, hb4⟩
    have HB4 := Lib.hid (HB3.out.trans (hb4.mono HB3.out.size))
    clear hb4
    rw [HXL.out, HG.out.1, HG.out.2, Lib.mk_data]
    go_wp2_with fail
    refine (implBitsRun_yes _ _ HXO.out).mono ?_
    rintro e w' ⟨rfl, rfl⟩
    have hR := HR.out
    generalize runN X.data.toList = R at *
    have hR2 : (R : Int) ≤ 2 := by omega
    clear hR
    go_wp2_with fail
    refine (implWave_yes _ _ HXO.out).mono ?_
    rintro e w5 ⟨rfl, hb5⟩
    have HB5 := Lib.hid (HB4.out.trans (hb5.mono HB4.out.size))
    clear hb5
    have hW := HW.out
    generalize waveN X.data.toList = W at *
    have hW2 : (s.size : Int) ≤ (W : Int) := by omega
    have hW3 : decide ((W : Int) ≥ (s.size : Int)) = true := decide_eq_true hW2
    have hsz2 : ((X.size : Int) == 2 * (s.size : Int)) = true := by rw [beq_iff_eq]; have := HXS.out; omega
    clear hW
    go_wp2
    go_ret
    exact ⟨rfl, HB5.out⟩
  · have h0 : X = ⟨#[]⟩ := by
      have : X.data.toList = [] := by
        rw [hXL]
        cases hm : manOkB s.data.toList with
        | false => exact putM_no hm
        | true =>
          have hz : s.size = 0 := by
            rcases Nat.eq_zero_or_pos s.size with h | h
            · exact h
            · exact absurd ⟨hm, by omega⟩ hk
          rw [putM_yes hm, List.eq_nil_of_length_eq_zero ((size_list s).trans hz)]; rfl
      rw [← Lib.mk_data X, this]
    subst h0
    clear hXL hk
    go_wp2_with fail
    refine (specMan_any _ _ hmax).mono ?_
    rintro e w4 ⟨rfl, hb4⟩
    have HB4 := Lib.hid (HB3.out.trans (hb4.mono HB3.out.size))
    clear hb4
    rw [← HX.out]
    go_wp2
    go_ret
    exact ⟨rfl, HB4.out⟩
theorem own : ownKnob Try.prog.godebug = none := by kernel_rfl
theorem laidOut : laidOutB Try.prog = true := by kernel_rfl
set_option maxRecDepth 100000 in
theorem lifted (os : Os) (started : os.Started) (H : Type) (enc : TypeId × Value → H) :
    ReturnsInHanded {} Try.checked os 3 .any (Rows.fnManPutSpec.pre6 enc Try.prog Try.f3 Rows.fnManPutRow.domain false) (Rows.fnManPutSpec.post enc Try.prog Try.f3 false true false false) := by
  refine returnsInHanded_of_change (C := Try.checked) own started (by kernel_rfl) Try.func3
    (ChangeSpec.witness6 (enc := enc) (C := Try.checked) false ⟨#[], #[.slice none 0 0], []⟩ 8 (by kernel_rfl) (by kernel_rfl) (by kernel_rfl) (by kernel_rfl)) ?_
  intro W base args ds gs before hval0 hW hcnd _
  have hval : ∀ (j : Nat) t v, Try.f3.params[j]? = some t → args[j]? = some v → Value.okWide Try.prog W .any base t v := hval0
  have hW' := hW
  obtain ⟨p, q, hA0, hV, rfl, hfz, hnd⟩ := hW
  have hA : DataW.TrodAll enc Try.prog W 0 (fun _ => true) true Try.f3.params.toList args.toList ds p := hA0
  rw [Try.params3] at hA hval
  obtain ⟨v0, vs0, d0, ds0, p0, q0, hargs, rfl, rfl, h0, r0⟩ := trodAll_cons hA
  obtain ⟨rfl, rfl, rfl⟩ := trodAll_nil r0
  obtain rfl : args = #[v0] := by cases args; simp_all
  obtain ⟨rfl, rfl⟩ := trodVars_none hV
  obtain ⟨a0, len0, cap0, rfl⟩ := okWide_slice Try.underlying22 (hval 0 22 v0 rfl rfl)
  have k0 := h0
  have lt0 : ∀ x ∈ p0, x.block < W.heap.size := by obtain ⟨m, hm⟩ := k0; exact DataW.trod_lt m _ _ _ hm
  obtain ⟨z0, w0⟩ : ∃ zs, IsRow .u8 W a0 len0 cap0 zs := by
    obtain ⟨fuel, hf⟩ := h0
    rcases open_ints Try.underlying22 Try.underlying5 (by kernel_rfl) hf with ⟨hcs, _⟩ | ⟨x, l, c, zs, hcs, _, hl, hm, hz, _, hcell, hwz⟩
    · simp [Value.cells] at hcs
      obtain ⟨rfl, rfl, rfl⟩ := hcs
      exact ⟨[], .inl ⟨rfl, rfl, rfl, rfl⟩⟩
    · simp [Value.cells] at hcs
      obtain ⟨rfl, rfl, rfl⟩ := hcs
      exact ⟨zs, .inr ⟨_, rfl, hl, hm, by simpa using hz, hcell, hwz⟩⟩
  clear hA0 hval0
  refine (walk a0 len0 cap0 z0 W w0).mono fun e W' ⟨he, bel⟩ => ?_
  subst he
  exact ⟨_, rfl, _, _, _, [], _, [], hW', trodAll_mk1 (shut_bool Try.underlying4 _), (trodAll_cons_mk (Below.trod laidOut (by kernel_rfl) (of_decide_eq_true (by kernel_rfl)) k0 bel lt0) trodAll_mk0), rfl, bel.frame _, fun h => by cases h⟩
theorem over : Rows.fnManPutRow.holds Try.pinned (OpenSpec.ofChange Rows.fnManPutSpec) :=
  OpenClaim.holds_of_wide 3 Try.f3 rfl rfl rfl rfl rfl rfl rfl ⟨rfl, rfl, rfl, rfl, rfl⟩ rfl rfl rfl rfl rfl (by kernel_rfl) Try.func3 (by kernel_rfl)
    (of_decide_eq_true (by kernel_rfl)) (by unfold Func.isWrapper; first | (rw [if_pos (by decide +kernel)]; kernel_rfl) | (rw [if_neg (by decide +kernel)]; exact ⟨rfl, rfl⟩))
    (fun os started H enc _ => lifted os started H enc)
theorem proved : Rows.FnManPutSaid := over
end Go.Proofs.Ytkeeigaohfillaa.fnManPut
