/- A reader at work: what a draw holds. -/
import Derived.Test.YtplaagkcamjemaaKitDraw
import Derived.Test.YtplaagkcamjemaaBk
namespace Go.Proofs.Ytplaagkcamjemaa
open Go.ChangeShapes Go.WideShapes Go.ChangeAt Go.RowKit
/-- the reader, and nothing elder but it has turned -/
def RW (w W : World) (B g N : Nat) : Prop := Rd W B g N ∧ w.grownBy W (some g) ∧ g < w.heap.size
section
variable {w W W' : World} {B g N N' : Nat}
theorem RW.start (h : Rd w B g N) : RW w w B g N := ⟨h, ⟨rfl, rfl, rfl, Nat.le_refl _, fun _ _ _ => rfl⟩, h.lt⟩
theorem RW.alloc (h : RW w W B g N) (o : Obj) : RW w (W.alloc o) B g N := ⟨h.1.alloc _, grown_alloc h.2.1 _, h.2.2⟩
theorem RW.next (h : RW w W B g N) (hr : Rd W' B g N') (hw : W.grownBy W' (some g)) : RW w W' B g N' := ⟨hr, grown_trans h.2.1 hw, h.2.2⟩
theorem RW.from (h : RW w W B g N) (hb : Below W.heap.size W W') : RW w W' B g N := ⟨h.1.grow (below_grown hb none) (by simp) (by simp), grown_trans h.2.1 (below_grown hb _), h.2.2⟩
theorem RW.drew (h : RW w W B g N) : RW w W.drew B g N := ⟨h.1, ⟨h.2.1.os, h.2.1.tape, h.2.1.output, h.2.1.size, h.2.1.block⟩, h.2.2⟩
theorem RW.mono (h : RW w W B g N) (hN : N ≤ N') : RW w W B g N' := ⟨h.1.mono hN, h.2⟩
theorem RW.own {row : Option Nat} (h : RW w W B g N) (hg : W.grownBy W' row) (hr : ∀ k, row = some k → w.heap.size ≤ k) : RW w W' B g N := by
  have hB : B ≤ g := by obtain ⟨_, _, _, _, _, _, _, _, _, h5, _⟩ := h.1; exact h5
  have hgw := h.2.2
  exact ⟨h.1.grow hg (fun e => by have := hr _ e; omega) (fun k hk => by have := hr _ hk; omega), grown_own h.2.1 hg hr, h.2.2⟩
theorem RW.set (h : RW w W B g N) {j o : Nat} (hj : w.heap.size ≤ j) (x : Value) : RW w (W.setCell ⟨j, o, none⟩ x) B g N := by
  have hB : B ≤ g := by obtain ⟨_, _, _, _, _, _, _, _, _, h5, _⟩ := h.1; exact h5
  have hgl := h.2.2
  refine ⟨h.1.keep fun i hi => Below.heap_setCell _ _ _ _ (by simp only; omega), ?_, hgl⟩
  have hg := h.2.1
  refine ⟨hg.os, hg.tape, hg.output, by simpa using hg.size, fun k hk hne => ?_⟩
  rw [Below.heap_setCell _ _ _ _ (by simp only; omega)]
  exact hg.block k hk hne
theorem RW.size (h : RW w W B g N) : w.heap.size ≤ W.heap.size := h.2.1.size
theorem BK.next {j : Nat} {cs : Array Value} {t : TypeId} (h : BK W j cs t) (hw : W.grownBy W' (some g)) (hj : g < j) : BK W' j cs t := h.grown hw (by simp; omega)
theorem RW.back (h : RW w W B g N) (hB : B ≤ w.heap.size) : Below B w W := grown_below h.2.1 hB (by obtain ⟨_, _, _, _, _, _, _, _, _, h5, _⟩ := h.1; exact h5)
end
end Go.Proofs.Ytplaagkcamjemaa
