/- What is one's own in the laws of channels: apart from each other, and from boxes. -/
import Derived.Test.YtplaagkcamjemaaMxM
import Derived.Test.YtplaagkcamjemaaTEvK
import Derived.Test.YtplaagkcamjemaaTEvT
namespace Go.Proofs.Ytplaagkcamjemaa
open Go.ChangeShapes Go.WideShapes Go.ChangeAt Go.RowKit
theorem apart_of {u v : Value} (h : ∀ k, u.ownBlock = some k → ¬ v.ownBlock = some k) : u.ownBlock = none ∨ u.ownBlock ≠ v.ownBlock := by
  cases hu : u.ownBlock with
  | none => exact .inl rfl
  | some k => exact .inr (fun e => h k hu e.symm)
theorem own_not_box {w : World} {base n : Nat} {e t : TypeId} {size : Nat} {v : Value} {xs : List Value} {g : Nat} {cc : Array Value} (h : w.ownsRow base e size v n xs) (hb : BK w g cc t) (hne : ¬ t = e) : ¬ v.ownBlock = some g := by
  intro hv
  rcases h.2 with ⟨rfl, _⟩ | ⟨g', cap, cur, rfl, _, hg, _⟩
  · simp [Value.ownBlock] at hv
  · simp [Value.ownBlock] at hv
    subst hv
    unfold BK at hb
    rw [hb] at hg
    injection hg with hg
    injection hg with _ h2 _
    exact hne h2
theorem OS.not_box {w : World} {base : Nat} {t : TypeId} {v : Value} {ss : List ByteArray} {g : Nat} {cc : Array Value} (h : OS w base v ss) (hb : BK w g cc t) (hne : ¬ t = 9) : ¬ v.ownBlock = some g := own_not_box h hb hne
theorem OE.not_box {w : World} {base : Nat} {t : TypeId} {v : Value} {l : List Ev} {g : Nat} {cc : Array Value} (h : OE w base v l) (hb : BK w g cc t) (hne : ¬ t = 32) : ¬ v.ownBlock = some g := own_not_box h hb hne
theorem OE.low {w : World} {base : Nat} {v : Value} {l : List Ev} (h : OE w base v l) : ∀ k, v.ownBlock = some k → base ≤ k ∧ k < w.heap.size := World.ownsRow.lt h
theorem OE.kept {w w' : World} {base : Nat} {v : Value} {l : List Ev} {row : Option Nat} (h : OE w base v l) (hg : w.grownBy w' row) (hne : v.ownBlock = none ∨ v.ownBlock ≠ row) : OE w' base v l := World.ownsRow.kept h hg hne
theorem OE.mono {w : World} {base base' : Nat} {v : Value} {l : List Ev} (h : OE w base v l) (hb : base' ≤ base) : OE w base' v l := by
  refine ⟨h.1, ?_⟩
  rcases h.2 with hn | ⟨g, cap, cur, h1, h2, h3⟩
  · exact .inl hn
  · exact .inr ⟨g, cap, cur, h1, Nat.le_trans hb h2, h3⟩
theorem RS.drew {w : World} {B : Nat} {v : Value} {ss : List ByteArray} (h : RS w B v ss) : RS w.drew B v ss := h
theorem OE.drew {w : World} {base : Nat} {v : Value} {l : List Ev} (h : OE w base v l) : OE w.drew base v l := h
end Go.Proofs.Ytplaagkcamjemaa
