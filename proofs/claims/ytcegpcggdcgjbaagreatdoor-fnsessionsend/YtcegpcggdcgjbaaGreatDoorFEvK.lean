/- Slices of events in the laws: whether two are the same, marked, still as marked. -/
import Derived.Test.YtcegpcggdcgjbaaGreatDoorKitFindA
import Derived.Test.YtcegpcggdcgjbaaGreatDoorMark
import Derived.Deep.RegionWith
import Derived.Deep.RegionHeld3
namespace Go.Proofs.YtcegpcggdcgjbaaGreatDoor
open Go.ChangeShapes Go.WideShapes Go.ChangeAt Go.RowKit
/-- element k of a slice of events that is read -/
theorem RE.at_ {w : World} {lo B : Nat} {l : List Ev} {a : Option Addr} {cap : Nat} (h : RE w lo B (.slice a l.length cap) l) {k : Nat} (hk : k < l.length) :
    ∃ g, a = some ⟨g, 0, none⟩ ∧ lo ≤ g ∧ g < B ∧ w.cell? ⟨g, k * 2, none⟩ = some (.int .i64 l[k].kind) ∧ w.cell? ⟨g, k * 2 + 1, none⟩ = some (.string ⟨l[k].text.toArray⟩) := by
  obtain ⟨a', cap', hv, h2⟩ := h
  injection hv with hv1 hv2 hv3
  subst hv1
  obtain ⟨x, hx, hl, hB, hc⟩ := h2 (by omega)
  obtain ⟨e1, e2⟩ := evCs_at l k hk
  rw [Nat.mul_comm] at e1 e2
  exact ⟨x, hx, hl, hB, hc _ _ e1, hc _ _ e2⟩
theorem RE.shape {w : World} {lo B : Nat} {v : Value} {l : List Ev} (h : RE w lo B v l) : ∃ a cap, v = .slice a l.length cap := by
  obtain ⟨a, cap, hv, _⟩ := h
  exact ⟨a, cap, hv⟩
/-- the mark of element i -/
def markE (i : Nat) : Ev := ⟨1 + 2 * i, markL (2 + 2 * i)⟩
def marks (n : Nat) : List Ev := (List.range n).map markE
theorem marks_len (n : Nat) : (marks n).length = n := by simp [marks]
theorem marks_at (n k : Nat) (h : k < n) : (marks n)[k]'(by rw [marks_len]; exact h) = markE k := by simp [marks]
/-- a cell of an own row stored -/
theorem own_stored {w : World} {base : Nat} {e : TypeId} {size n n' cap : Nat} {g : Nat} {xs : List Value} (h : w.ownsRow base e size (.slice (some ⟨g, 0, none⟩) n' cap) n xs) (j : Nat) (u : Value) :
    (w.setCell ⟨g, j, none⟩ u).ownsRow base e size (.slice (some ⟨g, 0, none⟩) n' cap) n (xs.set j u) := by
  refine ⟨by rw [List.length_set]; exact h.1, ?_⟩
  rcases h.2 with ⟨hv, _⟩ | ⟨g', cap', cur, hv, hb, hg, h1, h2, h3, h4⟩
  · simp at hv
  · have : g = g' := by injection hv with h; injection h with h; injection h
    subst this
    rw [setCell_eq_setRow w g j cur e (0, 0) _ hg]
    refine .inr ⟨g, cap', _, hv, hb, setRow_heap w g cur _ e (0, 0) hg, h1, h2, by simpa using h3, ?_⟩
    rw [Array.toList_setIfInBounds, List.take_set, h4]
theorem own_free {w : World} {base : Nat} {e : TypeId} {size n n' cap : Nat} {g : Nat} {xs : List Value} (h : w.ownsRow base e size (.slice (some ⟨g, 0, none⟩) n' cap) n xs) (j : Nat) : w.frozen? ⟨g, j, none⟩ = false := by
  rcases h.2 with ⟨hv, _⟩ | ⟨g', cap', cur, hv, hb, hg, _⟩
  · simp at hv
  · have : g = g' := by injection hv with h; injection h with h; injection h
    subst this
    simp [World.frozen?, hg]
theorem evCs_set (l : List Ev) (k : Nat) (e : Ev) (h : k < l.length) : ((evCs l).set (k * 2) (.int .i64 e.kind)).set (k * 2 + 1) (.string ⟨e.text.toArray⟩) = evCs (l.set k e) := by
  induction l generalizing k with
  | nil => simp at h
  | cons a l ih =>
    have e1 : evCs (a :: l) = .int .i64 a.kind :: .string ⟨a.text.toArray⟩ :: evCs l := rfl
    rw [e1]
    cases k with
    | zero => rfl
    | succ k =>
      have := ih k (by simpa using h)
      rw [List.set_cons_succ]
      have e2 : evCs (a :: l.set k e) = .int .i64 a.kind :: .string ⟨a.text.toArray⟩ :: evCs (l.set k e) := rfl
      rw [e2, ← this, show (k + 1) * 2 = k * 2 + 1 + 1 by omega]
      rfl
def partM (l : List Ev) (k : Nat) : List Ev := marks k ++ l.drop k
theorem partM_len (l : List Ev) (k : Nat) (h : k ≤ l.length) : (partM l k).length = l.length := by simp [partM, marks_len]; omega
theorem partM_set (l : List Ev) (k : Nat) (h : k < l.length) : (partM l k).set k (markE k) = partM l (k + 1) := by
  unfold partM
  rw [List.set_append_right _ _ (by rw [marks_len]; exact Nat.le_refl _), marks_len, Nat.sub_self, List.drop_eq_getElem_cons h, List.set_cons_zero]
  simp [marks, List.range_succ]
theorem grown_set {w w' : World} {row : Option Nat} (hg : w.grownBy w' row) {g : Nat} (hr : row = some g) (j : Nat) (u : Value) : w.grownBy (w'.setCell ⟨g, j, none⟩ u) row := by
  refine ⟨hg.os, hg.tape, hg.output, by simpa using hg.size, fun k hk hne => ?_⟩
  rw [Below.heap_setCell _ _ _ _ (by rintro rfl; exact hne hr.symm)]
  exact hg.block k hk hne
theorem kgrown_below {w w' w'' : World} {row : Option Nat} (hg : w.grownBy w' row) (hb : Below w'.heap.size w' w'') : w.grownBy w'' row :=
  ⟨hb.os.trans hg.os, hb.tape.trans hg.tape, hb.output.trans hg.output, Nat.le_trans hg.size hb.size, fun k hk hne => (hb.block k (Nat.lt_of_lt_of_le hk hg.size)).trans (hg.block k hk hne)⟩
def MarkPost (w : World) (base : Nat) (v : Value) (n : Nat) (e : Ending) (w' : World) : Prop := e = .returned (.int .i64 (1 + 2 * n)) ∧ OE w' base v (marks n) ∧ w.grownBy w' v.ownBlock
theorem own_below {w w' : World} {base : Nat} {e : TypeId} {size n : Nat} {v : Value} {xs : List Value} (h : w.ownsRow base e size v n xs) (hb : Below w.heap.size w w') : w'.ownsRow base e size v n xs :=
  h.kept (row := none) ⟨hb.os, hb.tape, hb.output, hb.size, fun g hg _ => hb.block g hg⟩ (by cases v.ownBlock <;> simp)
theorem own_cell {w : World} {base : Nat} {e : TypeId} {size n n' cap g : Nat} {xs : List Value} (h : w.ownsRow base e size (.slice (some ⟨g, 0, none⟩) n' cap) n xs) {j : Nat} {u : Value} (hu : xs[j]? = some u) : w.cell? ⟨g, j, none⟩ = some u := by
  have := h.cells (g := g) rfl j u hu
  rwa [lit_add] at this
theorem mark_row {w : World} {base g n cap k : Nat} {l : List Ev} (hlt : k < l.length) (hpl : (partM l k).length = l.length)
    (h : w.ownsRow base 110 2 (.slice (some ⟨g, 0, none⟩) n cap) (partM l k).length ((evCs (partM l k)).set (k * 2) (.int .i64 (1 + 2 * (k : Int))))) :
    OE (w.setCell ⟨g, k * 2 + 1, none⟩ (.string ⟨(markL (2 + 2 * k)).toArray⟩)) base (.slice (some ⟨g, 0, none⟩) n cap) (partM l (k + 1)) := by
  have h1 := own_stored h (k * 2 + 1) (.string ⟨(markL (2 + 2 * k)).toArray⟩)
  have e := evCs_set (partM l k) k (markE k) (by rw [hpl]; exact hlt)
  have e' : ((evCs (partM l k)).set (k * 2) (.int .i64 (1 + 2 * (k : Int)))).set (k * 2 + 1) (.string ⟨(markL (2 + 2 * k)).toArray⟩) = evCs (partM l (k + 1)) := by
    rw [← partM_set l k hlt]; exact e
  unfold OE
  rw [← e', ← partM_set l k hlt, List.length_set]
  exact h1
end Go.Proofs.YtcegpcggdcgjbaaGreatDoor
