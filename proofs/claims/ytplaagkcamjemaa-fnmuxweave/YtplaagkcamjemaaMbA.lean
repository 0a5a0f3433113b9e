/- A strings.Builder inside an array of three: its methods at any of the three places. -/
import Derived.Test.YtplaagkcamjemaaKitA
import Derived.Test.YtplaagkcamjemaaBk
import Derived.RegionTactic
namespace Go.Proofs.Ytplaagkcamjemaa
open Go.ChangeShapes Go.WideShapes Go.ChangeAt Go.RowKit
/-- what a call has turned: the blocks of X alone -/
def TW (w w' : World) (X : Nat → Prop) : Prop := w'.os = w.os ∧ w'.tape = w.tape ∧ w'.output = w.output ∧ w.heap.size ≤ w'.heap.size ∧ ∀ i, i < w.heap.size → ¬ X i → w'.heap[i]? = w.heap[i]?
/-- a place of the three -/
def Pl (o : Nat) : Prop := o = 0 ∨ o = 2 ∨ o = 4
theorem builders_lie {o : Nat} (h : Pl o) : liesAt Try.prog Try.prog.depth 71 (6 / Try.prog.cellsOf 71) o 69 1 = true := by
  rcases h with rfl | rfl | rfl <;> kernel_rfl
/-- the two cells of a builder -/
structure Two (w : World) (g o : Nat) (p v : Value) : Prop where
  pl : Pl o
  sh : w.shape? g = some (71, 6)
  c0 : w.cell? ⟨g, o, none⟩ = some p
  c1 : w.cell? ⟨g, o + 1, none⟩ = some v
  fr : ∀ i, w.frozen? ⟨g, i, none⟩ = false
theorem cc_used (g o : Nat) (v : Value) (w : World) (h : Two w g o (.pointer (some ⟨g, o, none⟩)) v) :
    Calls Try.prog 67 #[.pointer (some ⟨g, o, none⟩)] w fun e w' => e = .returned (.tuple #[]) ∧ w = w' := by
  have c0 := h.c0
  obtain ⟨j, hj, hj0⟩ := builder_size
  have hne : ∀ u : World, (binOp .neq 67 (.pointer (some ⟨g, o, none⟩)) (.pointer (some ⟨g, o, none⟩))).run Try.prog u = .ok (.bool false) u := fun u => Lib.run_neq_ptr_same u ⟨g, o, none⟩ Try.underlying67 hj
  clear h hj hj0
  go_enter Try.func67, Try.ntmps67
  go_wp2
  go_end0
  exact ⟨rfl, rfl⟩
theorem cc_fresh (g o : Nat) (v : Value) (w : World) (h : Two w g o (.pointer none) v) :
    Calls Try.prog 67 #[.pointer (some ⟨g, o, none⟩)] w fun e w' => e = .returned (.tuple #[]) ∧ w' = w.setCell ⟨g, o, none⟩ (.pointer (some ⟨g, o, none⟩)) := by
  have c0 := h.c0
  have f0 := h.fr o
  have hsh := h.sh
  have hl := builders_lie h.pl
  have ho6 : o < 6 := by rcases h.pl with e | e | e <;> omega
  obtain ⟨j, hj, hj0⟩ := builder_size
  have hne : ∀ u : World, (binOp .neq 67 (.pointer (some ⟨g, o, none⟩)) (.pointer (some ⟨g, o, none⟩))).run Try.prog u = .ok (.bool false) u := fun u => Lib.run_neq_ptr_same u ⟨g, o, none⟩ Try.underlying67 hj
  have h1 := Lib.run_to_unsafe (P := Try.prog) w ⟨g, o, none⟩ Try.underlying67 Try.underlying94 hj hj0 hsh ho6
  have h2 := Lib.run_from_unsafe (P := Try.prog) w ⟨g, o, none⟩ Try.underlying94 Try.underlying67 hj hsh hl
  have h3 := noEscape_run
  clear h hj hj0 hsh hl ho6
  go_enter Try.func67, Try.ntmps67
  go_wp2
  go_end0
  exact ⟨rfl, rfl⟩
theorem bLen_any (g o : Nat) (p : Value) (a : Option Addr) (n cap : Nat) (w : World) (h : Two w g o p (.slice a n cap)) :
    Calls Try.prog 61 #[.pointer (some ⟨g, o, none⟩)] w fun e w' => e = .returned (.int .i64 n) ∧ w = w' := by
  have c1 := h.c1
  clear h
  go_enter Try.func61, Try.ntmps61
  go_wp2
  go_ret
  exact ⟨rfl, rfl⟩
theorem bReset_any (g o : Nat) (p v : Value) (w : World) (h : Two w g o p v) :
    Calls Try.prog 62 #[.pointer (some ⟨g, o, none⟩)] w fun e w' => e = .returned (.tuple #[]) ∧ w' = (w.setCell ⟨g, o, none⟩ (.pointer none)).setCell ⟨g, o + 1, none⟩ (.slice none 0 0) := by
  have c0 := h.c0
  have c1 := h.c1
  have f0 := h.fr o
  have f1 := h.fr (o + 1)
  clear h
  go_enter Try.func62, Try.ntmps62
  go_wp2
  go_end0
  exact ⟨rfl, rfl⟩
end Go.Proofs.Ytplaagkcamjemaa
