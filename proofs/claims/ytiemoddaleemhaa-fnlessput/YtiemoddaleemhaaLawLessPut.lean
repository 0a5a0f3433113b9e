/- FnLessPut: Bytes are read back from how they are written, no nought is in that, and it is as long as with blocks alone, or a byte less. For every code (the law draws the bytes from it). No condition. -/
import Derived.Test.YtiemoddaleemhaaKitA
import Derived.Test.YtiemoddaleemhaaCobV
import Derived.Test.YtiemoddaleemhaaDrawCob
namespace Go.Proofs.Ytiemoddaleemhaa.fnLessPut
open Go.ChangeShapes Go.WideShapes Go.ChangeAt Go.RowKit
open Go.ChangeMaps (open_string shut_string)
set_option linter.unusedVariables false
set_option maxRecDepth 100000 in
set_option maxHeartbeats 8000000 in
theorem walk (a0 : Option Addr) (len0 cap0 : Nat) (z0 : List Int) (w : World) (w0 : IsRow .u8 w a0 len0 cap0 z0) :
    Calls Try.prog 6 #[.slice a0 len0 cap0] w fun e w' => e = .returned (.bool true) ∧ Below w.heap.size w w' := by
  by_cases hbig : 1048576 < len0
  · go_enter Try.func6, Try.ntmps6
    go_wp2
    go_ret
    exact ⟨rfl, Below.refl _ _⟩
  have HH := Lib.hid w0
  clear w0
  go_enter Try.func6, Try.ntmps6
  go_wp2_with fail
  refine (drawLessPut_any a0 len0 cap0 z0 HH.out).mono ?_
  rintro e w1 ⟨s, rfl, hs, hb⟩
  have HB1 := Lib.hid hb
  clear hb
  go_wp2_with fail
  refine (implLess_any s _).mono ?_
  rintro e w2 ⟨rfl, hb⟩
  have HB2 := Lib.hid (HB1.out.trans (hb.mono HB1.out.size))
  clear hb
  obtain ⟨X, hX⟩ : ∃ X : ByteArray, X = ⟨(lessA s.data.toList).toArray⟩ := ⟨_, rfl⟩
  have HXL := Lib.hid (show X.data.toList = lessA s.data.toList by rw [hX])
  have HX := Lib.hid hX
  rw [← hX]
  clear hX
  go_wp2_with fail
  refine (specLess_any s _).mono ?_
  rintro e w3 ⟨rfl, hb⟩
  have HB3 := Lib.hid (HB2.out.trans (hb.mono HB2.out.size))
  clear hb
  rw [← HX.out]
  have HSL := Lib.hid (size_list s)
  by_cases hbg : 600 < s.size
  · have hXe : X.toList.isEmpty = true := by rw [emp_iff]; exact decide_eq_true (by rw [← size_list X, HXL.out, lessA, if_neg (by rw [HSL.out]; omega)]; rfl)
    go_wp2_with fail
    refine (specLess_any s _).mono ?_
    rintro e w4 ⟨rfl, hb⟩
    have HB4 := Lib.hid (HB3.out.trans (hb.mono HB3.out.size))
    clear hb
    rw [← HX.out]
    go_wp2
    go_ret
    exact ⟨by simp; omega, HB4.out⟩
  · have hc : X.data.toList = less s.data.toList := by rw [HXL.out, lessA, if_pos (by rw [HSL.out]; omega)]
    have hz := less_size s.data.toList
    have hz2 := cob_size s.data.toList
    obtain ⟨r1, r2, r3⟩ := less_read s.data.toList
    rw [← hc] at hz r1 r3
    rw [size_list X] at hz
    have HNZ := Lib.hid r1
    have HG := Lib.hid (show lgetA X.data.toList = (s.data.toList, true) by rw [hc]; exact lgetA_less (by rw [HSL.out]; omega))
    have hXe : X.toList.isEmpty = false := by rw [emp_iff]; exact decide_eq_false (by omega)
    obtain ⟨Y, hY⟩ : ∃ Y : ByteArray, Y = ⟨(cobA s.data.toList).toArray⟩ := ⟨_, rfl⟩
    have hYL : Y.data.toList = cob s.data.toList := by rw [hY, cobA, if_pos (by rw [HSL.out]; omega)]
    have HY := Lib.hid hY
    rw [← hYL] at r3 hz hz2
    rw [HSL.out] at hz2
    rw [size_list Y] at hz hz2
    have r4 : Y.size = X.size + 1 ∨ X = Y := by
      rcases r3 with h | h
      · left; rw [size_list, size_list] at h; exact h
      · right; rw [← Lib.mk_data X, h, Lib.mk_data]
    have hY1 : Y.size ≤ 10000 := by omega
    have hX1 : X.size ≤ 10000 := by omega
    have R4 := Lib.hid r4
    clear hc hY hYL r1 r2 r3 hz hz2 r4
    go_wp2
    go_loopw [5] (fun i wr => ∃ j : Nat, j ≤ X.size ∧ i = .int .i64 j ∧ Below w.heap.size w wr) (fun i _ => X.size - (intOf i).toNat)
    case atStart => exact ⟨0, Nat.zero_le _, rfl, HB3.out⟩
    case round =>
      obtain ⟨j, hj, rfl, hbr⟩ := hrel
      have HBr := Lib.hid hbr
      clear hbr
      by_cases hlt : j < X.size
      · have hnz := HNZ.out _ (mem_byte X j hlt)
        have hb0 : ((X[j].toNat : Int) == 0) = false := by
          have : X[j].toNat ≠ 0 := fun e => hnz (by apply UInt8.toNat_inj.1; exact e)
          exact beq_eq_false_iff_ne.2 (by omega)
        clear hnz
        go_wp2
        go_roundw
        case rel => exact ⟨j + 1, by omega, by go_num, HBr.out⟩
        case measure => simp [intOf]; omega
      · go_wp2_with fail
        refine (implLessGet_any X _).mono ?_
        rintro e w4 ⟨rfl, hb⟩
        have HB4 := Lib.hid (HBr.out.trans (hb.mono HBr.out.size))
        clear hb
        rw [HG.out, Lib.mk_data]
        go_wp2_with fail
        refine (implCobs_any s _).mono ?_
        rintro e w5 ⟨rfl, hb⟩
        have HB5 := Lib.hid (HB4.out.trans (hb.mono HB4.out.size))
        clear hb
        rw [← HY.out]
        rcases R4.out with h | h
        · have hd : (Y.size : Int) - (X.size : Int) = 1 := by omega
          clear h
          go_wp2
          go_ret
          refine ⟨?_, HB5.out⟩
          simp
        · have hd : (Y.size : Int) - (X.size : Int) = 0 := by rw [h]; omega
          have HE := Lib.hid h
          clear h
          go_wp2_with fail
          refine (implCobs_any s _).mono ?_
          rintro e w6 ⟨rfl, hb⟩
          have HB6 := Lib.hid (HB5.out.trans (hb.mono HB5.out.size))
          clear hb
          rw [← HY.out, ← HE.out]
          go_wp2
          go_ret
          refine ⟨?_, HB6.out⟩
          simp
theorem own : ownKnob Try.prog.godebug = none := by kernel_rfl
theorem laidOut : laidOutB Try.prog = true := by kernel_rfl
set_option maxRecDepth 100000 in
theorem lifted (os : Os) (started : os.Started) (H : Type) (enc : TypeId × Value → H) :
    ReturnsInHanded {} Try.checked os 6 .any (Rows.fnLessPutSpec.pre6 enc Try.prog Try.f6 Rows.fnLessPutRow.domain false) (Rows.fnLessPutSpec.post enc Try.prog Try.f6 false true false false) := by
  refine returnsInHanded_of_change (C := Try.checked) own started (by kernel_rfl) Try.func6
    (ChangeSpec.witness6 (enc := enc) (C := Try.checked) false ⟨#[], #[.slice none 0 0], []⟩ 8 (by kernel_rfl) (by kernel_rfl) (by kernel_rfl) (by kernel_rfl)) ?_
  intro W base args ds gs before hval0 hW hcnd _
  have hval : ∀ (j : Nat) t v, Try.f6.params[j]? = some t → args[j]? = some v → Value.okWide Try.prog W .any base t v := hval0
  have hW' := hW
  obtain ⟨p, q, hA0, hV, rfl, hfz, hnd⟩ := hW
  have hA : DataW.TrodAll enc Try.prog W 0 (fun _ => true) true Try.f6.params.toList args.toList ds p := hA0
  rw [Try.params6] at hA hval
  obtain ⟨v0, vs0, d0, ds0, p0, q0, hargs, rfl, rfl, h0, r0⟩ := trodAll_cons hA
  obtain ⟨rfl, rfl, rfl⟩ := trodAll_nil r0
  obtain rfl : args = #[v0] := by cases args; simp_all
  obtain ⟨rfl, rfl⟩ := trodVars_none hV
  obtain ⟨a0, len0, cap0, rfl⟩ := okWide_slice Try.underlying22 (hval 0 22 v0 rfl rfl)
  have k0 := h0
  have lt0 : ∀ x ∈ p0, x.block < W.heap.size := by obtain ⟨m, hm⟩ := k0; exact DataW.trod_lt m _ _ _ hm
  obtain ⟨z0, w0⟩ : ∃ zs, IsRow .u8 W a0 len0 cap0 zs := by
    obtain ⟨fuel, hf⟩ := h0
    rcases open_ints Try.underlying22 Try.underlying5 (by kernel_rfl) hf with ⟨hcs, _⟩ | ⟨x, l, c, zs, hcs, _, hl, hm, hz, _, hcell, hwz⟩
    · simp [Value.cells] at hcs
      obtain ⟨rfl, rfl, rfl⟩ := hcs
      exact ⟨[], .inl ⟨rfl, rfl, rfl, rfl⟩⟩
    · simp [Value.cells] at hcs
      obtain ⟨rfl, rfl, rfl⟩ := hcs
      exact ⟨zs, .inr ⟨_, rfl, hl, hm, by simpa using hz, hcell, hwz⟩⟩
  clear hA0 hval0
  refine (walk a0 len0 cap0 z0 W w0).mono fun e W' ⟨he, bel⟩ => ?_
  subst he
  exact ⟨_, rfl, _, _, _, [], _, [], hW', trodAll_mk1 (shut_bool Try.underlying4 _), (trodAll_cons_mk (Below.trod laidOut (by kernel_rfl) (of_decide_eq_true (by kernel_rfl)) k0 bel lt0) trodAll_mk0), rfl, bel.frame _, fun h => by cases h⟩
theorem over : Rows.fnLessPutRow.holds Try.pinned (OpenSpec.ofChange Rows.fnLessPutSpec) :=
  OpenClaim.holds_of_wide 6 Try.f6 rfl rfl rfl rfl rfl rfl rfl ⟨rfl, rfl, rfl, rfl, rfl⟩ rfl rfl rfl rfl rfl (by kernel_rfl) Try.func6 (by kernel_rfl)
    (of_decide_eq_true (by kernel_rfl)) (by unfold Func.isWrapper; first | (rw [if_pos (by decide +kernel)]; kernel_rfl) | (rw [if_neg (by decide +kernel)]; exact ⟨rfl, rfl⟩))
    (fun os started H enc _ => lifted os started H enc)
theorem proved : Rows.FnLessPutSaid := over
end Go.Proofs.Ytiemoddaleemhaa.fnLessPut
