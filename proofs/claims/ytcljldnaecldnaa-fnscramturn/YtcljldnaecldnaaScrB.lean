/- A scrambler's steps in the program. -/
import Derived.Test.YtcljldnaecldnaaScrA
namespace Go.Proofs.Ytcljldnaecldnaa
open Go.ChangeShapes Go.WideShapes Go.ChangeAt Go.RowKit
theorem out_all : ((List.range 128).all fun st => bits .and .u8 (bits .xor .i64 ((st : Int) / 8) ((st : Int) / 64) % 256) 1 == xi (tapB st)) = true := by decide +kernel
theorem out_one {st : Nat} (h : st < 128) : bits .and .u8 (bits .xor .i64 ((st : Int) / 8) ((st : Int) / 64) % 256) 1 = xi (tapB st) := by
  have := List.all_eq_true.1 out_all st (List.mem_range.2 h)
  simpa using this
theorem xi_xor8 (a b : Bool) : bits .xor .u8 (xi a) (xi b) = xi (a != b) := by cases a <;> cases b <;> rfl
theorem out_any (st : Nat) (w : World) (hs : st < 128) :
    Calls Try.prog 39 #[.int .i64 st] w fun e w' => e = .returned (.int .u8 (xi (tapB st))) ∧ w = w' := by
  have HO := Lib.hid (out_one hs)
  go_enter Try.func39, Try.ntmps39
  go_wp2
  go_ret
  refine ⟨?_, rfl⟩
  rw [← HO.out]
  rfl
theorem took_any (st : Nat) (b : Bool) (w : World) (hs : st < 128) :
    Calls Try.prog 40 #[.int .i64 st, .int .u8 (xi b)] w fun e w' => e = .returned (.int .i64 (nextS st b : Nat)) ∧ w = w' := by
  have HN := Lib.hid (show (2 * (st : Int) + xi b) % 128 = (nextS st b : Nat) by unfold nextS xi; cases b <;> simp <;> omega)
  have hb := xi_le b
  generalize xi b = x at *
  go_enter Try.func40, Try.ntmps40
  go_wp2
  go_ret
  refine ⟨?_, rfl⟩
  rw [← HN.out]
  rfl
theorem put_any (st : Nat) (b : Bool) (w : World) (hs : st < 128) :
    Calls Try.prog 25 #[.int .i64 st, .int .u8 (xi b)] w fun e w' => e = .returned (.tuple #[.int .u8 (xi (b != tapB st)), .int .i64 (nextS st (b != tapB st) : Nat)]) ∧ w = w' := by
  have hx := xi_xor8 b (tapB st)
  go_enter Try.func25, Try.ntmps25
  go_wp2_with (first | (go_at_call 39; refine (out_any st _ hs).mono ?_; rintro e w' ⟨rfl, rfl⟩) | (go_at_call 40; refine (took_any st (b != tapB st) _ hs).mono ?_; rintro e w' ⟨rfl, rfl⟩))
  go_ret2
  exact ⟨rfl, rfl⟩
theorem get_any (st : Nat) (b : Bool) (w : World) (hs : st < 128) :
    Calls Try.prog 30 #[.int .i64 st, .int .u8 (xi b)] w fun e w' => e = .returned (.tuple #[.int .u8 (xi (b != tapB st)), .int .i64 (nextS st b : Nat)]) ∧ w = w' := by
  have hx := xi_xor8 b (tapB st)
  go_enter Try.func30, Try.ntmps30
  go_wp2_with (first | (go_at_call 39; refine (out_any st _ hs).mono ?_; rintro e w' ⟨rfl, rfl⟩) | (go_at_call 40; refine (took_any st b _ hs).mono ?_; rintro e w' ⟨rfl, rfl⟩))
  go_ret2
  exact ⟨rfl, rfl⟩
end Go.Proofs.Ytcljldnaecldnaa
