/- Small functions of the laws: a mirrored finder, its size, whether two are the same. -/
import Derived.Test.YtekhakapmpdnaaaHdlcC
import Derived.SliceStrings
import Derived.Lib.SmallJoins
namespace Go.Proofs.Ytekhakapmpdnaaa
open Go.ChangeShapes Go.WideShapes Go.ChangeAt Go.RowKit
/-- a slice of strings that came in: nil, or a row of 'cap' cells that hold 'ss' -/
def IsStrs (w : World) (a : Option Addr) (len cap : Nat) (ss : List ByteArray) : Prop :=
  (a = none ∧ len = 0 ∧ cap = 0 ∧ ss = []) ∨
  ∃ x, a = some x ∧ len ≤ cap ∧ cap ≤ maxLen ∧ ss.length = cap ∧ (∀ i, i < ss.length → w.cell? (x.add i) = some (.string (ss.getD i ByteArray.empty))) ∧ ∀ s ∈ ss, s.size ≤ maxLen
theorem szHdlc_no (i : Bool) (n : Int) (b : ByteArray) (w : World) (h : 1048576 < b.size) (hb : b.size ≤ maxLen) :
    Calls Try.prog 25 #[.agg #[.bool i, .int .i64 n, .string b], .int .i64 1048576] w fun e w' => e = .returned (.int .i64 (-1)) ∧ Below w.heap.size w w' := by
  unfold maxLen at hb
  go_enter Try.func25, Try.ntmps25
  go_wp2
  go_ret
  exact ⟨rfl, (Below.refl _ _).alloc (Nat.le_refl _) _⟩
theorem szHdlc_yes (i : Bool) (n : Int) (b : ByteArray) (w : World) (h : b.size ≤ 1048576) :
    Calls Try.prog 25 #[.agg #[.bool i, .int .i64 n, .string b], .int .i64 1048576] w fun e w' => e = .returned (.int .i64 (1048576 - b.size)) ∧ Below w.heap.size w w' := by
  go_enter Try.func25, Try.ntmps25
  go_wp2
  go_ret
  exact ⟨rfl, (Below.refl _ _).alloc (Nat.le_refl _) _⟩
theorem toHdlc_any (i : Bool) (n : Int) (b : ByteArray) (w : World) :
    Calls Try.prog 26 #[.agg #[.bool i, .int .i64 n, .string b]] w fun e w' => e = .returned (.agg #[.bool i, .int .i64 n, .string b]) ∧ Below w.heap.size w w' := by
  have hz := zero_hdlc
  go_enter Try.func26, Try.ntmps26
  go_wp2
  exact bodyPost_ret (v := .agg #[.bool i, .int .i64 n, .string b]) (by simp [results, Try.results26, go_sem]) rfl ⟨rfl, (below2 _ _ _).alloc (by simp; omega) _⟩
theorem eqHdlc_same (i : Bool) (n : Int) (b : ByteArray) (w : World) :
    Calls Try.prog 27 #[.agg #[.bool i, .int .i64 n, .string b], .agg #[.bool i, .int .i64 n, .string b]] w fun e w' => e = .returned (.bool true) ∧ Below w.heap.size w w' := by
  go_enter Try.func27, Try.ntmps27
  go_wp2
  go_ret
  exact ⟨rfl, below2 _ _ _⟩
/-- the box of three cells that the call laid first is as it was; nothing elder has turned -/
def One (w W : World) (t : TypeId) (a b c : Value) : Prop := W.heap[w.heap.size]? = some (.cells #[a, b, c] t (0, 0)) ∧ w.heap.size + 1 ≤ W.heap.size ∧ Below w.heap.size w W
section
variable {w W W' : World} {t : TypeId} {a b c : Value}
theorem One.start (w : World) (t : TypeId) (a b c : Value) : One w (w.alloc (.cells #[a, b, c] t)) t a b c :=
  ⟨heap_alloc_new w _, by simp, (Below.refl _ _).alloc (Nat.le_refl _) _⟩
theorem One.below (h : One w W t a b c) (hb : Below (w.heap.size + 1) W W') : One w W' t a b c :=
  ⟨(hb.block _ (by omega)).trans h.1, Nat.le_trans h.2.1 hb.size, h.2.2.trans (hb.mono (by omega))⟩
theorem One.from (h : One w W t a b c) (hb : Below W.heap.size W W') : One w W' t a b c := h.below (hb.mono h.2.1)
theorem One.cells (h : One w W t a b c) : W.cell? ⟨w.heap.size, 0, none⟩ = some a ∧ W.cell? ⟨w.heap.size, 1, none⟩ = some b ∧ W.cell? ⟨w.heap.size, 2, none⟩ = some c := by
  refine ⟨?_, ?_, ?_⟩
  · rw [cell_of_row W _ 0 _ _ _ h.1]; rfl
  · rw [cell_of_row W _ 1 _ _ _ h.1]; rfl
  · rw [cell_of_row W _ 2 _ _ _ h.1]; rfl
end
end Go.Proofs.Ytekhakapmpdnaaa
