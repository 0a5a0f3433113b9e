/- A block of cells that is known whole. -/
import Derived.Test.YtcegpcggdcgjbaaGreatDoorKitA
namespace Go.Proofs.YtcegpcggdcgjbaaGreatDoor
open Go.ChangeShapes Go.WideShapes Go.ChangeAt Go.RowKit
def BK (W : World) (g : Nat) (cs : Array Value) (t : TypeId) : Prop := W.heap[g]? = some (.cells cs t (0, 0))
section
variable {W W' : World} {g : Nat} {cs : Array Value} {t : TypeId}
theorem BK.lt (h : BK W g cs t) : g < W.heap.size := (Array.getElem?_eq_some_iff.1 h).1
theorem BK.cell (h : BK W g cs t) {i : Nat} {v : Value} (hv : cs[i]? = some v) : W.cell? ⟨g, i, none⟩ = some v := by rw [cell_of_row W g i cs t _ h]; exact hv
theorem BK.free (h : BK W g cs t) (i : Nat) : W.frozen? ⟨g, i, none⟩ = false := by
  unfold BK at h
  simp [World.frozen?, h]
theorem BK.grown {row : Option Nat} (h : BK W g cs t) (hg : W.grownBy W' row) (hr : row ≠ some g) : BK W' g cs t := (hg.block g h.lt (fun e => hr e.symm)).trans h
theorem BK.below {B : Nat} (h : BK W g cs t) (hb : Below B W W') (hB : g < B) : BK W' g cs t := (hb.block g hB).trans h
theorem BK.from (h : BK W g cs t) (hb : Below W.heap.size W W') : BK W' g cs t := h.below hb h.lt
theorem BK.alloc (h : BK W g cs t) (o : Obj) : BK (W.alloc o) g cs t := (Below.heap_alloc W o g h.lt).trans h
theorem BK.drew (h : BK W g cs t) : BK W.drew g cs t := h
theorem BK.new (W : World) (cs : Array Value) (t : TypeId) : BK (W.alloc (.cells cs t)) W.heap.size cs t := heap_alloc_new W _
theorem BK.set (h : BK W g cs t) (i : Nat) (v : Value) : BK (W.setCell ⟨g, i, none⟩ v) g (cs.setIfInBounds i v) t := by
  unfold BK at h ⊢
  rw [setCell_eq_setRow W g i cs t (0, 0) _ h]
  exact setRow_heap W g cs _ t (0, 0) h
theorem BK.far (h : BK W g cs t) {j o : Nat} (hj : j ≠ g) (x : Value) : BK (W.setCell ⟨j, o, none⟩ x) g cs t := by
  unfold BK at h ⊢
  rw [Below.heap_setCell _ _ _ _ (fun e => hj e.symm)]
  exact h
end
end Go.Proofs.YtcegpcggdcgjbaaGreatDoor
