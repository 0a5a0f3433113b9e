/- Small draws: one of a list, a byte, bytes, a kind. -/
import Derived.Test.YtabdejafmhnaaaaDrawA
namespace Go.Proofs.Ytabdejafmhnaaaa
open Go.ChangeShapes Go.WideShapes Go.ChangeAt Go.RowKit

theorem Rd.grow {w w' : World} {B g N : Nat} {row : Option Nat} (h : Rd w B g N) (hg : w.grownBy w' row) (h1 : row ≠ some g) (h2 : ∀ k, row = some k → B ≤ k) : Rd w' B g N := by
  have hlt := h.lt
  have hB : B ≤ g := by obtain ⟨_, _, _, _, _, _, _, _, _, h5, _⟩ := h; exact h5
  refine h.keep fun i hi => hg.block i (by omega) ?_
  intro e
  rcases hi with hi | hi
  · have := h2 i e.symm; omega
  · subst hi; exact h1 e.symm
theorem Rd.alloc {w : World} {B g N : Nat} (h : Rd w B g N) (o : Obj) : Rd (w.alloc o) B g N := h.grow (World.grownBy_alloc w o none) (by simp) (by simp)
theorem Rd.drew {w : World} {B g N : Nat} (h : Rd w B g N) : Rd w.drew B g N := h
theorem OB.keptg {e : TypeId} {w w' : World} {base g : Nat} {v : Value} {l : List UInt8} (h : OB e w base v l) (hg : w.grownBy w' (some g)) (hb : g < base) : OB e w' base v l := by
  refine h.kept hg (.inr fun e => ?_)
  have := (h.lt g e).1
  omega
theorem grown_alloc {w w' : World} {row : Option Nat} (h : w.grownBy w' row) (o : Obj) : w.grownBy (w'.alloc o) row :=
  ⟨h.os, h.tape, h.output, Nat.le_trans h.size (by simp), fun i hi hne => (Below.heap_alloc w' o i (Nat.lt_of_lt_of_le hi h.size)).trans (h.block i hi hne)⟩
theorem grown_trans {a b c : World} {row : Option Nat} (h : a.grownBy b row) (k : b.grownBy c row) : a.grownBy c row :=
  ⟨k.os.trans h.os, k.tape.trans h.tape, k.output.trans h.output, Nat.le_trans h.size k.size, fun i hi hne => (k.block i (Nat.lt_of_lt_of_le hi h.size) hne).trans (h.block i hi hne)⟩
/-- what an append onto a row of the call's own turns -/
theorem grown_own {a b c : World} {row : Option Nat} {g : Nat} (h : a.grownBy b (some g)) (k : b.grownBy c row) (hr : ∀ j, row = some j → a.heap.size ≤ j) : a.grownBy c (some g) :=
  ⟨k.os.trans h.os, k.tape.trans h.tape, k.output.trans h.output, Nat.le_trans h.size k.size, fun i hi hne => (k.block i (Nat.lt_of_lt_of_le hi h.size) (fun e => by have := hr i e.symm; omega)).trans (h.block i hi hne)⟩
theorem grown_below {a b : World} {g B : Nat} (h : a.grownBy b (some g)) (hB : B ≤ a.heap.size) (hg : B ≤ g) : Below B a b :=
  ⟨h.os, h.tape, h.output, h.size, fun i hi => h.block i (by omega) (by intro e; injection e with e; omega)⟩
theorem below_grown {a b : World} (h : Below a.heap.size a b) (row : Option Nat) : a.grownBy b row := ⟨h.os, h.tape, h.output, h.size, fun i hi _ => h.block i hi⟩

def intV (x : Int) : Value := .int .i64 x
theorem one_any {w : World} {B g N m : Nat} (xs : List Int) (t : TypeId) (h : Rd w B g N) (hN : N ≤ 1000000000) (hx : 1 ≤ xs.length) (hx2 : xs.length ≤ 1000) (hm : ¬ m = g)
    (hl : w.heap[m]? = some (.cells (xs.map intV).toArray t (0, 0))) :
    Calls Try.prog 61 #[.pointer (some ⟨g, 0, none⟩), .slice (some ⟨m, 0, none⟩) xs.length xs.length] w fun e w' => ∃ x : Int, x ∈ xs ∧ e = .returned (.int .i64 x) ∧ Rd w' B g (N + 1) ∧ w.grownBy w' (some g) := by
  have HL := Lib.hid hl
  have HR := Lib.hid h
  have hml : m < w.heap.size := (Array.getElem?_eq_some_iff.1 hl).1
  clear hl h
  go_enter Try.func61, Try.ntmps61
  go_wp2_with fail
  refine (pick_any _ HR.out hN).mono ?_
  rintro e w1 ⟨⟨x, rfl, hx1, _⟩, hr1, hg1⟩
  obtain ⟨h0, h1⟩ := hx1 (by omega)
  obtain ⟨k, rfl⟩ := Int.eq_ofNat_of_zero_le h0
  have hk : k < xs.length := by omega
  have hc : w1.cell? ⟨m, k, none⟩ = some (.int .i64 xs[k]) := by
    rw [World.cell?_of_block (w := w) (a := ⟨m, k, none⟩) (hg1.block m hml (by intro e; injection e with e; exact hm e)), cell_of_row w m k _ _ _ HL.out]
    simp [hk, intV]
  have HR1 := Lib.hid hr1
  have HG1 := Lib.hid hg1
  clear hr1 hg1 hx1
  go_wp2
  go_ret
  exact ⟨xs[k], List.getElem_mem _, rfl, HR1.out, HG1.out⟩
end Go.Proofs.Ytabdejafmhnaaaa
