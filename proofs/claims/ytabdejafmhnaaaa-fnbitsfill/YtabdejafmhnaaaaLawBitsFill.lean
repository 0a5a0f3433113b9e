/- FnBitsFill: BitsFill has whole bytes, appends fewer than eight ones, and is idempotent. For every code (the law draws the bits from it). No condition. -/
import Derived.Test.YtabdejafmhnaaaaBase
import Derived.Test.YtabdejafmhnaaaaBitsR
import Derived.Test.YtabdejafmhnaaaaDrawBitsB
namespace Go.Proofs.Ytabdejafmhnaaaa.fnBitsFill
open Go.ChangeShapes Go.WideShapes Go.ChangeAt Go.RowKit
open Go.ChangeMaps (open_string shut_string)
set_option linter.unusedVariables false
set_option maxRecDepth 100000 in
set_option maxHeartbeats 4000000 in
theorem walk (a0 : Option Addr) (len0 cap0 : Nat) (z0 : List Int) (w : World) (w0 : IsRow .u8 w a0 len0 cap0 z0) :
    Calls Try.prog 6 #[.slice a0 len0 cap0] w fun e w' => e = .returned (.bool true) ∧ Below w.heap.size w w' := by
  by_cases hbig : 1048576 < len0
  · go_enter Try.func6, Try.ntmps6
    go_wp2
    go_ret
    exact ⟨rfl, Below.refl _ _⟩
  have HH := Lib.hid w0
  clear w0
  go_enter Try.func6, Try.ntmps6
  go_wp2_with fail
  refine (drawBitsFill_any a0 len0 cap0 z0 HH.out).mono ?_
  rintro e w1 ⟨s, rfl, hs, hb1⟩
  have HB1 := Lib.hid hb1
  clear hb1
  have hmax : s.size ≤ maxLen := by unfold maxLen; omega
  cases hk : okB s.data.toList with
  | false =>
    have HK := Lib.hid hk
    have hk' := hk
    clear hk
    go_wp2_with (first | (go_at_call 30; refine (implFill_no _ _ hmax HK.out).mono ?_; rintro e w' ⟨rfl, rfl⟩) | (go_at_call 31; refine (specFill_no _ _ hmax HK.out).mono ?_; rintro e w' ⟨rfl, rfl⟩) | (go_at_call 22; refine (implOk_any _ _ hmax).mono ?_; rintro e w' ⟨rfl, rfl⟩))
    go_ret
    exact ⟨rfl, HB1.out⟩
  | true =>
    have HK := Lib.hid hk
    have hk' := hk
    clear hk
    go_wp2_with fail
    refine (implFill_yes _ _ HK.out).mono ?_
    rintro e w2 ⟨rfl, hb2⟩
    have HB2 := Lib.hid (HB1.out.trans (hb2.mono HB1.out.size))
    clear hb2
    go_wp2_with fail
    refine (specFill_yes _ _ HK.out).mono ?_
    rintro e w' ⟨rfl, rfl⟩
    obtain ⟨X, hX⟩ : ∃ X : ByteArray, X = ⟨(fillL s.data.toList).toArray⟩ := ⟨_, rfl⟩
    rw [← hX]
    have hXl : X.data.toList = fillL s.data.toList := by rw [hX]
    have HX := Lib.hid hX
    clear hX
    have hfl := fill_len s.data.toList
    rw [← hXl, size_list, size_list] at hfl
    obtain ⟨f1, f2, f3⟩ := hfl
    have HXL := Lib.hid hXl
    clear hXl
    have e1 : X.extract 0 s.size = s := by
      have h : (X.extract 0 s.size).data.toList = s.data.toList := by
        rw [ext_take, HXL.out]
        have h := fill_take s.data.toList
        rwa [size_list] at h
      rw [← Lib.mk_data (X.extract 0 s.size), h, Lib.mk_data]
    have E1 := Lib.hid e1
    have HD := Lib.hid (show (X.extract s.size X.size).data.toList = List.replicate (X.size - s.size) 49 by
      rw [ext_drop, HXL.out]
      have h := fill_drop s.data.toList
      rw [size_list] at h
      rw [h, ← HXL.out, size_list])
    have HOD := Lib.hid (show okB (X.extract s.size X.size).data.toList = true by rw [ext_drop, HXL.out]; exact ok_drop (fill_ok HK.out) _)
    have HOX := Lib.hid (show okB X.data.toList = true by rw [HXL.out]; exact fill_ok HK.out)
    have HID := Lib.hid (show (⟨(fillL X.data.toList).toArray⟩ : ByteArray) = X by rw [HXL.out, fill_idem]; exact HX.out.symm)
    have m1 : ((X.size : Int) % 8 == 0) = true := by rw [beq_iff_eq]; omega
    have m2 : (0 : Int) ≤ (X.size : Int) - (s.size : Int) := by omega
    have m3 : (X.size : Int) - (s.size : Int) < 8 := by omega
    have m4 : (s.size : Int) ≤ (X.size : Int) := by omega
    have m5 : ((((X.size - s.size : Nat)) : Int) == (X.size : Int) - (s.size : Int)) = true := by rw [beq_iff_eq]; omega
    have M5 := Lib.hid m5
    clear e1 m5
    go_wp2_with fail
    refine (implOk_any _ _ hmax).mono ?_
    rintro e w' ⟨rfl, rfl⟩
    have e1 := E1.out
    go_wp2_with fail
    refine (implBitsRun_yes _ _ HOD.out).mono ?_
    rintro e w' ⟨rfl, rfl⟩
    rw [HD.out, runN_ones]
    obtain ⟨d, hd⟩ : ∃ d : Int, (((X.size - s.size : Nat)) : Int) = d := ⟨_, rfl⟩
    have m5 := M5.out
    rw [hd] at m5 ⊢
    clear hd
    go_wp2_with fail
    refine (implFill_yes _ _ HOX.out).mono ?_
    rintro e w3 ⟨rfl, hb3⟩
    rw [HID.out]
    have HB3 := Lib.hid (HB2.out.trans (hb3.mono HB2.out.size))
    clear hb3
    go_wp2
    go_ret
    exact ⟨rfl, HB3.out⟩
theorem own : ownKnob Try.prog.godebug = none := by kernel_rfl
theorem laidOut : laidOutB Try.prog = true := by kernel_rfl
set_option maxRecDepth 100000 in
theorem lifted (os : Os) (started : os.Started) (H : Type) (enc : TypeId × Value → H) :
    ReturnsInHanded {} Try.checked os 6 .any (Rows.fnBitsFillSpec.pre6 enc Try.prog Try.f6 Rows.fnBitsFillRow.domain false) (Rows.fnBitsFillSpec.post enc Try.prog Try.f6 false true false false) := by
  refine returnsInHanded_of_change (C := Try.checked) own started (by kernel_rfl) Try.func6
    (ChangeSpec.witness6 (enc := enc) (C := Try.checked) false ⟨#[], #[.slice none 0 0], []⟩ 8 (by kernel_rfl) (by kernel_rfl) (by kernel_rfl) (by kernel_rfl)) ?_
  intro W base args ds gs before hval0 hW hcnd _
  have hval : ∀ (j : Nat) t v, Try.f6.params[j]? = some t → args[j]? = some v → Value.okWide Try.prog W .any base t v := hval0
  have hW' := hW
  obtain ⟨p, q, hA0, hV, rfl, hfz, hnd⟩ := hW
  have hA : DataW.TrodAll enc Try.prog W 0 (fun _ => true) true Try.f6.params.toList args.toList ds p := hA0
  rw [Try.params6] at hA hval
  obtain ⟨v0, vs0, d0, ds0, p0, q0, hargs, rfl, rfl, h0, r0⟩ := trodAll_cons hA
  obtain ⟨rfl, rfl, rfl⟩ := trodAll_nil r0
  obtain rfl : args = #[v0] := by cases args; simp_all
  obtain ⟨rfl, rfl⟩ := trodVars_none hV
  obtain ⟨a0, len0, cap0, rfl⟩ := okWide_slice Try.underlying22 (hval 0 22 v0 rfl rfl)
  have k0 := h0
  have lt0 : ∀ x ∈ p0, x.block < W.heap.size := by obtain ⟨m, hm⟩ := k0; exact DataW.trod_lt m _ _ _ hm
  obtain ⟨z0, w0⟩ : ∃ zs, IsRow .u8 W a0 len0 cap0 zs := by
    obtain ⟨fuel, hf⟩ := h0
    rcases open_ints Try.underlying22 Try.underlying5 (by kernel_rfl) hf with ⟨hcs, _⟩ | ⟨x, l, c, zs, hcs, _, hl, hm, hz, _, hcell, hwz⟩
    · simp [Value.cells] at hcs
      obtain ⟨rfl, rfl, rfl⟩ := hcs
      exact ⟨[], .inl ⟨rfl, rfl, rfl, rfl⟩⟩
    · simp [Value.cells] at hcs
      obtain ⟨rfl, rfl, rfl⟩ := hcs
      exact ⟨zs, .inr ⟨_, rfl, hl, hm, by simpa using hz, hcell, hwz⟩⟩
  clear hA0 hval0
  refine (walk a0 len0 cap0 z0 W w0).mono fun e W' ⟨he, bel⟩ => ?_
  subst he
  exact ⟨_, rfl, _, _, _, [], _, [], hW', trodAll_mk1 (shut_bool Try.underlying4 _), (trodAll_cons_mk (Below.trod laidOut (by kernel_rfl) (of_decide_eq_true (by kernel_rfl)) k0 bel lt0) trodAll_mk0), rfl, bel.frame _, fun h => by cases h⟩
theorem over : Rows.fnBitsFillRow.holds Try.pinned (OpenSpec.ofChange Rows.fnBitsFillSpec) :=
  OpenClaim.holds_of_wide 6 Try.f6 rfl rfl rfl rfl rfl rfl rfl ⟨rfl, rfl, rfl, rfl, rfl⟩ rfl rfl rfl rfl rfl (by kernel_rfl) Try.func6 (by kernel_rfl)
    (of_decide_eq_true (by kernel_rfl)) (by unfold Func.isWrapper; first | (rw [if_pos (by decide +kernel)]; kernel_rfl) | (rw [if_neg (by decide +kernel)]; exact ⟨rfl, rfl⟩))
    (fun os started H enc _ => lifted os started H enc)
theorem proved : Rows.FnBitsFillSaid := over
end Go.Proofs.Ytabdejafmhnaaaa.fnBitsFill
