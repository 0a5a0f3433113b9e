/- FnStuffPut: Bits are read back from how they are stuffed, no six ones stand together in that, and StuffMany is how much longer it is. For every code (the law draws the bits from it). No condition. -/
import Derived.Test.YtabdejafmhnaaaaBase
import Derived.Test.YtabdejafmhnaaaaStuffE
namespace Go.Proofs.Ytabdejafmhnaaaa.fnStuffPut
open Go.ChangeShapes Go.WideShapes Go.ChangeAt Go.RowKit
open Go.ChangeMaps (open_string shut_string)
set_option linter.unusedVariables false
set_option maxRecDepth 100000 in
set_option maxHeartbeats 4000000 in
theorem walk (a0 : Option Addr) (len0 cap0 : Nat) (z0 : List Int) (w : World) (w0 : IsRow .u8 w a0 len0 cap0 z0) :
    Calls Try.prog 7 #[.slice a0 len0 cap0] w fun e w' => e = .returned (.bool true) ∧ Below w.heap.size w w' := by
  by_cases hbig : 1048576 < len0
  · go_enter Try.func7, Try.ntmps7
    go_wp2
    go_ret
    exact ⟨rfl, Below.refl _ _⟩
  have HH := Lib.hid w0
  clear w0
  go_enter Try.func7, Try.ntmps7
  go_wp2_with fail
  refine (drawStuffPut_any a0 len0 cap0 z0 HH.out).mono ?_
  rintro e w1 ⟨s, rfl, hs, hb1⟩
  have HB1 := Lib.hid hb1
  clear hb1
  have hmax : s.size ≤ maxLen := by unfold maxLen; omega
  go_wp2_with fail
  refine (implPut_any _ _ (by omega)).mono ?_
  rintro e w2 ⟨rfl, hb2⟩
  have HB2 := Lib.hid (HB1.out.trans (hb2.mono HB1.out.size))
  clear hb2
  obtain ⟨X, hX⟩ : ∃ X : ByteArray, X = ⟨(putA s.data.toList).toArray⟩ := ⟨_, rfl⟩
  have HXL := Lib.hid (show X.data.toList = putA s.data.toList by rw [hX])
  have HX := Lib.hid hX
  have hXs : X.size ≤ 1446 := by
    have h := putA_len s.data.toList
    rw [← HXL.out, size_list, size_list] at h
    omega
  rw [← hX]
  clear hX
  go_wp2_with fail
  refine (specPut_any _ _ (by omega)).mono ?_
  rintro e w3 ⟨rfl, hb3⟩
  have HB3 := Lib.hid (HB2.out.trans (hb3.mono HB2.out.size))
  clear hb3
  rw [← HX.out]
  go_wp2_with fail
  refine (implOk_any _ _ hmax).mono ?_
  rintro e w' ⟨rfl, rfl⟩
  cases hk : okB s.data.toList with
  | false =>
    clear hk
    go_wp2_with fail
    refine (specPut_any _ _ (by omega)).mono ?_
    rintro e w4 ⟨rfl, hb4⟩
    have HB4 := Lib.hid (HB3.out.trans (hb4.mono HB3.out.size))
    clear hb4
    rw [← HX.out]
    go_wp2
    go_ret
    exact ⟨rfl, HB4.out⟩
  | true =>
    have HK := Lib.hid hk
    have HP := Lib.hid (show X.data.toList = putR s.data.toList by rw [HXL.out, putA_yes hk])
    have HGA := Lib.hid (show getA X.data.toList = s.data.toList by rw [HP.out, getA, if_pos (getOk_put hk).1, (getOk_put hk).2])
    have HGO := Lib.hid (show getOk X.data.toList = true by rw [HP.out, getOk, decide_eq_true (getOk_put hk).1])
    have hmn : manyA s.data.toList = (X.size : Int) - (s.size : Int) := by rw [manyA, if_pos hk, ← HP.out, size_list, size_list]
    have hrn : runN X.data.toList ≤ 5 := by
      rw [HP.out]
      exact put_run s.data.toList (ok_bits hk) 0 0 (by omega) (by omega)
    have HMN := Lib.hid hmn
    have HRN := Lib.hid hrn
    have hXb : X.data.toList.all bitB = true := by rw [HP.out]; exact put_bits _ _
    have HXB := Lib.hid hXb
    have hsX : s.size ≤ X.size := by
      have h := (put_len s.data.toList 0 (by omega)).1
      rw [show recS putStep 0 s.data.toList = X.data.toList from HP.out.symm, size_list, size_list] at h
      exact h
    clear hk hmn hrn hXb
    go_wp2_with fail
    refine (implGet_any _ _ (by omega)).mono ?_
    rintro e w4 ⟨rfl, hb4⟩
    have HB4 := Lib.hid (HB3.out.trans (hb4.mono HB3.out.size))
    clear hb4
    rw [HGA.out, HGO.out, Lib.mk_data]
    by_cases hbig : 1200 < X.size
    · go_wp2_with fail
      refine (implMany_any _ _ (by omega)).mono ?_
      rintro e w5 ⟨rfl, hb5⟩
      have HB5 := Lib.hid (HB4.out.trans (hb5.mono HB4.out.size))
      clear hb5
      rw [HMN.out]
      go_wp2
      go_ret
      exact ⟨rfl, HB5.out⟩
    · go_wp2_with fail
      refine (implBitsRun_yes _ _ (ok_of HXB.out (by rw [size_list]; omega))).mono ?_
      rintro e w' ⟨rfl, rfl⟩
      have hR := HRN.out
      generalize runN X.data.toList = R at *
      have hR5 : (R : Int) ≤ 5 := by omega
      go_wp2_with fail
      refine (implMany_any _ _ (by omega)).mono ?_
      rintro e w5 ⟨rfl, hb5⟩
      have HB5 := Lib.hid (HB4.out.trans (hb5.mono HB4.out.size))
      clear hb5
      rw [HMN.out]
      go_wp2
      go_ret
      exact ⟨rfl, HB5.out⟩
theorem own : ownKnob Try.prog.godebug = none := by kernel_rfl
theorem laidOut : laidOutB Try.prog = true := by kernel_rfl
set_option maxRecDepth 100000 in
theorem lifted (os : Os) (started : os.Started) (H : Type) (enc : TypeId × Value → H) :
    ReturnsInHanded {} Try.checked os 7 .any (Rows.fnStuffPutSpec.pre6 enc Try.prog Try.f7 Rows.fnStuffPutRow.domain false) (Rows.fnStuffPutSpec.post enc Try.prog Try.f7 false true false false) := by
  refine returnsInHanded_of_change (C := Try.checked) own started (by kernel_rfl) Try.func7
    (ChangeSpec.witness6 (enc := enc) (C := Try.checked) false ⟨#[], #[.slice none 0 0], []⟩ 8 (by kernel_rfl) (by kernel_rfl) (by kernel_rfl) (by kernel_rfl)) ?_
  intro W base args ds gs before hval0 hW hcnd _
  have hval : ∀ (j : Nat) t v, Try.f7.params[j]? = some t → args[j]? = some v → Value.okWide Try.prog W .any base t v := hval0
  have hW' := hW
  obtain ⟨p, q, hA0, hV, rfl, hfz, hnd⟩ := hW
  have hA : DataW.TrodAll enc Try.prog W 0 (fun _ => true) true Try.f7.params.toList args.toList ds p := hA0
  rw [Try.params7] at hA hval
  obtain ⟨v0, vs0, d0, ds0, p0, q0, hargs, rfl, rfl, h0, r0⟩ := trodAll_cons hA
  obtain ⟨rfl, rfl, rfl⟩ := trodAll_nil r0
  obtain rfl : args = #[v0] := by cases args; simp_all
  obtain ⟨rfl, rfl⟩ := trodVars_none hV
  obtain ⟨a0, len0, cap0, rfl⟩ := okWide_slice Try.underlying22 (hval 0 22 v0 rfl rfl)
  have k0 := h0
  have lt0 : ∀ x ∈ p0, x.block < W.heap.size := by obtain ⟨m, hm⟩ := k0; exact DataW.trod_lt m _ _ _ hm
  obtain ⟨z0, w0⟩ : ∃ zs, IsRow .u8 W a0 len0 cap0 zs := by
    obtain ⟨fuel, hf⟩ := h0
    rcases open_ints Try.underlying22 Try.underlying5 (by kernel_rfl) hf with ⟨hcs, _⟩ | ⟨x, l, c, zs, hcs, _, hl, hm, hz, _, hcell, hwz⟩
    · simp [Value.cells] at hcs
      obtain ⟨rfl, rfl, rfl⟩ := hcs
      exact ⟨[], .inl ⟨rfl, rfl, rfl, rfl⟩⟩
    · simp [Value.cells] at hcs
      obtain ⟨rfl, rfl, rfl⟩ := hcs
      exact ⟨zs, .inr ⟨_, rfl, hl, hm, by simpa using hz, hcell, hwz⟩⟩
  clear hA0 hval0
  refine (walk a0 len0 cap0 z0 W w0).mono fun e W' ⟨he, bel⟩ => ?_
  subst he
  exact ⟨_, rfl, _, _, _, [], _, [], hW', trodAll_mk1 (shut_bool Try.underlying4 _), (trodAll_cons_mk (Below.trod laidOut (by kernel_rfl) (of_decide_eq_true (by kernel_rfl)) k0 bel lt0) trodAll_mk0), rfl, bel.frame _, fun h => by cases h⟩
theorem over : Rows.fnStuffPutRow.holds Try.pinned (OpenSpec.ofChange Rows.fnStuffPutSpec) :=
  OpenClaim.holds_of_wide 7 Try.f7 rfl rfl rfl rfl rfl rfl rfl ⟨rfl, rfl, rfl, rfl, rfl⟩ rfl rfl rfl rfl rfl (by kernel_rfl) Try.func7 (by kernel_rfl)
    (of_decide_eq_true (by kernel_rfl)) (by unfold Func.isWrapper; first | (rw [if_pos (by decide +kernel)]; kernel_rfl) | (rw [if_neg (by decide +kernel)]; exact ⟨rfl, rfl⟩))
    (fun os started H enc _ => lifted os started H enc)
theorem proved : Rows.FnStuffPutSaid := over
end Go.Proofs.Ytabdejafmhnaaaa.fnStuffPut
