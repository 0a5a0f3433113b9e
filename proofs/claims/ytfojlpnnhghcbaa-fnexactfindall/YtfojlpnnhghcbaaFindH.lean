/- Finders in the laws: their size, copies, whether two are the same. -/
import Derived.Test.YtfojlpnnhghcbaaFindG
namespace Go.Proofs.Ytfojlpnnhghcbaa
open Go.ChangeShapes Go.WideShapes Go.ChangeAt Go.RowKit
abbrev fdV (s : ByteArray) (o : Bool) : Value := .agg #[.string s, .bool o]
theorem szFind_big (s : ByteArray) (o : Bool) (w : World) (hs : s.size ≤ maxLen) (h : 1048576 < s.size) :
    Calls Try.prog 32 #[fdV s o, .int .i64 1048576] w fun e w' => e = .returned (.int .i64 (-1)) ∧ Below w.heap.size w w' := by
  unfold maxLen at hs
  go_enter Try.func32, Try.ntmps32
  go_wp2
  go_ret
  exact ⟨rfl, (Below.refl _ _).alloc (Nat.le_refl _) _⟩
theorem szFind_small (s : ByteArray) (o : Bool) (w : World) (h : s.size ≤ 1048576) :
    Calls Try.prog 32 #[fdV s o, .int .i64 1048576] w fun e w' => e = .returned (.int .i64 (1048576 - (s.size : Int))) ∧ Below w.heap.size w w' := by
  go_enter Try.func32, Try.ntmps32
  go_wp2
  go_ret
  exact ⟨rfl, (Below.refl _ _).alloc (Nat.le_refl _) _⟩
theorem toFind_any (s : ByteArray) (o : Bool) (w : World) :
    Calls Try.prog 33 #[fdV s o] w fun e w' => e = .returned (fdV s o) ∧ Below w.heap.size w w' := by
  have hz : ∀ w : World, (zeroValue 30).run Try.prog w = .ok (.agg #[.string ⟨#[]⟩, .bool false]) w := fun w => by kernel_rfl
  go_enter Try.func33, Try.ntmps33
  go_wp2
  exact bodyPost_ret (v := fdV s o) (by simp [results, Try.results33, go_sem]) rfl ⟨rfl, by first | exact (below2 _ _ _).alloc (by simp; omega) _ | exact below2 _ _ _⟩
theorem eqFind_same (s : ByteArray) (o : Bool) (w : World) :
    Calls Try.prog 34 #[fdV s o, fdV s o] w fun e w' => e = .returned (.bool true) ∧ Below w.heap.size w w' := by
  go_enter Try.func34, Try.ntmps34
  go_wp2
  go_ret
  exact ⟨rfl, below2 _ _ _⟩
end Go.Proofs.Ytfojlpnnhghcbaa
