/- Contracts of SumGood in the program and in the model. -/
import Derived.Test.YthggbcpphoknfaaSumF
namespace Go.Proofs.Ythggbcpphoknfaa
open Go.ChangeShapes Go.WideShapes Go.ChangeAt Go.RowKit
def goodN (kd : Int) : Nat := crc (polyN kd) (allOf kd).toNat (putL kd [])
theorem put_nil_size (kd : Int) : (⟨(putL kd []).toArray⟩ : ByteArray).size = kd.toNat := by
  show (putL kd []).toArray.size = _
  simp [putL, leB_length]
theorem implGood_yes (kd : Int) (w : World) (hk : kindB kd = true) :
    Calls Try.prog 26 #[.int .i64 kd] w fun e w' => e = .returned (.int .i64 (goodN kd)) ∧ Below w.heap.size w w' := by
  have HK := Lib.hid hk
  have hsz : (⟨([] ++ leB (sumN kd []) kd.toNat).toArray⟩ : ByteArray).size ≤ maxLen := by
    have := put_nil_size kd
    simp only [putL] at this
    rw [this]; unfold maxLen
    rcases kind_or hk with rfl | rfl <;> decide
  clear hk
  go_enter Try.func26, Try.ntmps26
  go_wp2_with (first | (go_at_call 18; refine (implStart_yes _ _ HK.out).mono ?_; rintro e w' ⟨rfl, rfl⟩) | (go_at_call 23; refine (implPut_yes _ _ _ HK.out (by decide)).mono ?_; rintro e w1 ⟨rfl, hb1⟩) | (go_at_call 19; refine (implRun_ok _ _ _ _ (runOk_all HK.out) hsz).mono ?_; rintro e w2 ⟨rfl, hb2⟩))
  go_ret
  exact ⟨ret_int (by simp [goodN, putL]), hb1.trans (hb2.mono hb1.size)⟩
theorem implGood_no (kd : Int) (w : World) (hk : kindB kd = false) :
    Calls Try.prog 26 #[.int .i64 kd] w fun e w' => e = .returned (.int .i64 (-1)) ∧ w = w' := by
  have HK := Lib.hid hk
  have HR := Lib.hid (show runOkB kd (-1) = false by simp [runOkB])
  clear hk
  go_enter Try.func26, Try.ntmps26
  go_wp2_with (first | (go_at_call 18; refine (implStart_no _ _ HK.out).mono ?_; rintro e w' ⟨rfl, rfl⟩) | (go_at_call 23; refine (implPut_no _ _ _ HK.out).mono ?_; rintro e w1 ⟨rfl, rfl⟩) | (go_at_call 19; refine (implRun_no _ _ _ _ HR.out).mono ?_; rintro e w2 ⟨rfl, rfl⟩))
  go_ret
  exact ⟨rfl, rfl⟩
theorem specGood_yes (kd : Int) (w : World) (hk : kindB kd = true) :
    Calls Try.prog 31 #[.int .i64 kd] w fun e w' => e = .returned (.int .i64 (goodN kd)) ∧ Below w.heap.size w w' := by
  have HK := Lib.hid hk
  have hsz : (⟨([] ++ leB (sumN kd []) kd.toNat).toArray⟩ : ByteArray).size ≤ maxLen := by
    have := put_nil_size kd
    simp only [putL] at this
    rw [this]; unfold maxLen
    rcases kind_or hk with rfl | rfl <;> decide
  go_enter Try.func31, Try.ntmps31
  go_wp2_with (first | (go_at_call 35; refine (l1Kind_any _ _).mono ?_; rintro e w' ⟨rfl, rfl⟩) | (go_at_call 43; refine (l1All_any _ _).mono ?_; rintro e w' ⟨rfl, rfl⟩) | (go_at_call 45; refine (l1Put_any _ _ _ HK.out (by decide)).mono ?_; rintro e w1 ⟨rfl, hb1⟩) | (go_at_call 44; refine (l1Run_all _ _ _ hsz).mono ?_; rintro e w2 ⟨rfl, rfl⟩))
  go_ret
  exact ⟨ret_int (by simp [goodN, putL]), hb1⟩
theorem specGood_no (kd : Int) (w : World) (hk : kindB kd = false) :
    Calls Try.prog 31 #[.int .i64 kd] w fun e w' => e = .returned (.int .i64 (-1)) ∧ w = w' := by
  go_enter Try.func31, Try.ntmps31
  go_wp2_with (go_at_call 35; refine (l1Kind_any _ _).mono ?_; rintro e w' ⟨rfl, rfl⟩)
  go_ret
  exact ⟨rfl, rfl⟩
end Go.Proofs.Ythggbcpphoknfaa
