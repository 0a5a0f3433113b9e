/- FnSlipPut: Bytes are read back from how they are written as a slip, and the end is in that once, as its last byte. For every code (the law draws the bytes from it). No condition. -/
import Derived.Test.YthbijeicdjpbeaaKitA
import Derived.Test.YthbijeicdjpbeaaSlpD
import Derived.Test.YthbijeicdjpbeaaDrawSlp
namespace Go.Proofs.Ythbijeicdjpbeaa.fnSlipPut
open Go.ChangeShapes Go.WideShapes Go.ChangeAt Go.RowKit
open Go.ChangeMaps (open_string shut_string)
set_option linter.unusedVariables false
set_option maxRecDepth 100000 in
set_option maxHeartbeats 8000000 in
theorem walk (a0 : Option Addr) (len0 cap0 : Nat) (z0 : List Int) (w : World) (w0 : IsRow .u8 w a0 len0 cap0 z0) :
    Calls Try.prog 3 #[.slice a0 len0 cap0] w fun e w' => e = .returned (.bool true) ∧ Below w.heap.size w w' := by
  by_cases hbig : 1048576 < len0
  · go_enter Try.func3, Try.ntmps3
    go_wp2
    go_ret
    exact ⟨rfl, Below.refl _ _⟩
  have HH := Lib.hid w0
  clear w0
  go_enter Try.func3, Try.ntmps3
  go_wp2_with fail
  refine (drawSlipPut_any a0 len0 cap0 z0 HH.out).mono ?_
  rintro e w1 ⟨s, rfl, hs, hb⟩
  have HB1 := Lib.hid hb
  clear hb
  go_wp2_with fail
  refine (implSlipPut_any s _).mono ?_
  rintro e w2 ⟨rfl, hb⟩
  have HB2 := Lib.hid (HB1.out.trans (hb.mono HB1.out.size))
  clear hb
  obtain ⟨X, hX⟩ : ∃ X : ByteArray, X = ⟨(putS s.data.toList).toArray⟩ := ⟨_, rfl⟩
  have HXL := Lib.hid (show X.data.toList = putS s.data.toList by rw [hX])
  have HX := Lib.hid hX
  have HSL := Lib.hid (size_list s)
  have hXs : X.size ≤ 1201 := by rw [← size_list, HXL.out]; exact putS_len _
  rw [← hX]
  clear hX
  go_wp2_with fail
  refine (specSlipPut_any s _).mono ?_
  rintro e w3 ⟨rfl, hb⟩
  have HB3 := Lib.hid (HB2.out.trans (hb.mono HB2.out.size))
  clear hb
  rw [← HX.out]
  by_cases hbg : 600 < s.size
  · have hXe : X.toList.isEmpty = true := by rw [bz_list]; exact decide_eq_true (by rw [← size_list X, HXL.out, putS_nil.2 (by rw [HSL.out]; exact hbg)]; rfl)
    go_wp2_with fail
    refine (specSlipPut_any s _).mono ?_
    rintro e w4 ⟨rfl, hb⟩
    have HB4 := Lib.hid (HB3.out.trans (hb.mono HB3.out.size))
    clear hb
    rw [← HX.out]
    go_wp2
    go_ret
    exact ⟨by simp; omega, HB4.out⟩
  · have HXP := Lib.hid (show X.data.toList = slipL s.data.toList ++ [192] by rw [HXL.out, putS, if_neg (by rw [HSL.out]; exact hbg)])
    have HX2 := Lib.hid (size_list X)
    have hXp : 0 < X.size := by rw [← HX2.out, HXP.out]; simp
    have hXe : X.toList.isEmpty = false := by rw [bz_list]; exact decide_eq_false (by omega)
    have HG := Lib.hid (getS_putS (s := s.data.toList) (by rw [HSL.out]; omega))
    have HEN := Lib.hid (ends_putS (l := s.data.toList) (by rw [HSL.out]; omega))
    go_wp2
    go_loopw [5, 6] (fun c i wr => ∃ k : Nat, k ≤ X.size ∧ i = .int .i64 k ∧ c = .int .i64 ((ends (X.data.toList.take k) : Nat) : Int) ∧ Below w.heap.size w wr) (fun _ i _ => X.size - (intOf i).toNat)
    case atStart => exact ⟨0, Nat.zero_le _, rfl, rfl, HB3.out⟩
    case round =>
      obtain ⟨k, hk, rfl, rfl, hb⟩ := hrel
      have HB := Lib.hid hb
      clear hb
      have hel : ends (X.data.toList.take k) ≤ k := Nat.le_trans List.count_le_length (List.length_take_le _ _)
      by_cases hlt : k < X.size
      · have HS := Lib.hid (show ends (X.data.toList.take (k + 1)) = ends (X.data.toList.take k) + ends [X[k]] by rw [snoc_take X k hlt]; unfold ends; rw [List.count_append])
        have hb8 := UInt8.toNat_lt X[k]
        by_cases h192 : X[k].toNat = 192
        · have HV := Lib.hid (show ends [X[k]] = 1 by rw [show X[k] = 192 from UInt8.toNat_inj.1 h192]; rfl)
          generalize ends (X.data.toList.take k) = c at *
          go_wp2
          go_roundw
          case rel => exact ⟨k + 1, by omega, by go_num, by rw [HS.out, HV.out]; go_num, HB.out⟩
          case measure => simp [intOf]; omega
        · have HV := Lib.hid (show ends [X[k]] = 0 by unfold ends; rw [List.count_eq_zero]; simp only [List.mem_singleton]; intro e; exact h192 (by rw [← e]; rfl))
          have hn : ((X[k].toNat : Int) == 192) = false := beq_eq_false_iff_ne.2 (by omega)
          generalize ends (X.data.toList.take k) = c at *
          clear h192
          go_wp2
          go_roundw
          case rel => exact ⟨k + 1, by omega, by go_num, by rw [HS.out, HV.out]; rfl, HB.out⟩
          case measure => simp [intOf]; omega
      · have HE := Lib.hid (take_all X k (by omega))
        rw [HE.out, HXL.out, HEN.out]
        have hlast : (X[X.size - 1]'(by omega)).toNat = 192 := by
          have h1 : X.data.toList[X.size - 1]? = some 192 := by
            rw [HXP.out, List.getElem?_append_right (by rw [← HX2.out, HXP.out]; simp)]
            rw [show X.size - 1 - (slipL s.data.toList).length = 0 by rw [← HX2.out, HXP.out]; simp]
            rfl
          have h2 : X.data.toList[X.size - 1]? = some (X[X.size - 1]'(by omega)) := List.getElem?_eq_getElem (by rw [HX2.out]; omega)
          rw [h2] at h1
          have := Option.some.inj h1
          rw [this]; rfl
        clear hel
        go_wp2_with fail
        refine (implSlipGet_any X _).mono ?_
        rintro e w4 ⟨rfl, hb⟩
        have HB4 := Lib.hid (HB.out.trans (hb.mono HB.out.size))
        clear hb
        rw [HXL.out, HG.out.1, HG.out.2, Lib.mk_data]
        obtain ⟨m, hm⟩ : ∃ m, X.size = m + 1 := ⟨X.size - 1, by omega⟩
        have hms : (X.size : Int) - 1 = (m : Int) := by omega
        have hml : m < X.size := by omega
        have hlm : X[m].toNat = 192 := by
          have : X.size - 1 = m := by omega
          simp only [this] at hlast
          exact hlast
        clear hlast hm
        go_wp2
        go_ret
        exact ⟨by simp, HB4.out⟩
theorem own : ownKnob Try.prog.godebug = none := by kernel_rfl
theorem laidOut : laidOutB Try.prog = true := by kernel_rfl
set_option maxRecDepth 100000 in
theorem lifted (os : Os) (started : os.Started) (H : Type) (enc : TypeId × Value → H) :
    ReturnsInHanded {} Try.checked os 3 .any (Rows.fnSlipPutSpec.pre6 enc Try.prog Try.f3 Rows.fnSlipPutRow.domain false) (Rows.fnSlipPutSpec.post enc Try.prog Try.f3 false true false false) := by
  refine returnsInHanded_of_change (C := Try.checked) own started (by kernel_rfl) Try.func3
    (ChangeSpec.witness6 (enc := enc) (C := Try.checked) false ⟨#[], #[.slice none 0 0], []⟩ 8 (by kernel_rfl) (by kernel_rfl) (by kernel_rfl) (by kernel_rfl)) ?_
  intro W base args ds gs before hval0 hW hcnd _
  have hval : ∀ (j : Nat) t v, Try.f3.params[j]? = some t → args[j]? = some v → Value.okWide Try.prog W .any base t v := hval0
  have hW' := hW
  obtain ⟨p, q, hA0, hV, rfl, hfz, hnd⟩ := hW
  have hA : DataW.TrodAll enc Try.prog W 0 (fun _ => true) true Try.f3.params.toList args.toList ds p := hA0
  rw [Try.params3] at hA hval
  obtain ⟨v0, vs0, d0, ds0, p0, q0, hargs, rfl, rfl, h0, r0⟩ := trodAll_cons hA
  obtain ⟨rfl, rfl, rfl⟩ := trodAll_nil r0
  obtain rfl : args = #[v0] := by cases args; simp_all
  obtain ⟨rfl, rfl⟩ := trodVars_none hV
  obtain ⟨a0, len0, cap0, rfl⟩ := okWide_slice Try.underlying22 (hval 0 22 v0 rfl rfl)
  have k0 := h0
  have lt0 : ∀ x ∈ p0, x.block < W.heap.size := by obtain ⟨m, hm⟩ := k0; exact DataW.trod_lt m _ _ _ hm
  obtain ⟨z0, w0⟩ : ∃ zs, IsRow .u8 W a0 len0 cap0 zs := by
    obtain ⟨fuel, hf⟩ := h0
    rcases open_ints Try.underlying22 Try.underlying5 (by kernel_rfl) hf with ⟨hcs, _⟩ | ⟨x, l, c, zs, hcs, _, hl, hm, hz, _, hcell, hwz⟩
    · simp [Value.cells] at hcs
      obtain ⟨rfl, rfl, rfl⟩ := hcs
      exact ⟨[], .inl ⟨rfl, rfl, rfl, rfl⟩⟩
    · simp [Value.cells] at hcs
      obtain ⟨rfl, rfl, rfl⟩ := hcs
      exact ⟨zs, .inr ⟨_, rfl, hl, hm, by simpa using hz, hcell, hwz⟩⟩
  clear hA0 hval0
  refine (walk a0 len0 cap0 z0 W w0).mono fun e W' ⟨he, bel⟩ => ?_
  subst he
  exact ⟨_, rfl, _, _, _, [], _, [], hW', trodAll_mk1 (shut_bool Try.underlying4 _), (trodAll_cons_mk (Below.trod laidOut (by kernel_rfl) (of_decide_eq_true (by kernel_rfl)) k0 bel lt0) trodAll_mk0), rfl, bel.frame _, fun h => by cases h⟩
theorem over : Rows.fnSlipPutRow.holds Try.pinned (OpenSpec.ofChange Rows.fnSlipPutSpec) :=
  OpenClaim.holds_of_wide 3 Try.f3 rfl rfl rfl rfl rfl rfl rfl ⟨rfl, rfl, rfl, rfl, rfl⟩ rfl rfl rfl rfl rfl (by kernel_rfl) Try.func3 (by kernel_rfl)
    (of_decide_eq_true (by kernel_rfl)) (by unfold Func.isWrapper; first | (rw [if_pos (by decide +kernel)]; kernel_rfl) | (rw [if_neg (by decide +kernel)]; exact ⟨rfl, rfl⟩))
    (fun os started H enc _ => lifted os started H enc)
theorem proved : Rows.FnSlipPutSaid := over
end Go.Proofs.Ythbijeicdjpbeaa.fnSlipPut
