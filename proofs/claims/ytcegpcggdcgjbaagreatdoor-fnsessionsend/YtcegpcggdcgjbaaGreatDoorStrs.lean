/- Slices of strings in the laws: their size, copies, whether two are the same. -/
import Derived.Test.YtcegpcggdcgjbaaGreatDoorKitA
import Derived.Laws.MakeOwn
import Derived.RegionTactic
import Derived.Lib.Strings
import Derived.SliceStrings
import Derived.Lib.SmallJoins
namespace Go.Proofs.YtcegpcggdcgjbaaGreatDoor
open Go.ChangeShapes Go.WideShapes Go.ChangeAt Go.RowKit
/-- a slice of strings that came in: nil, or a row of 'cap' cells that hold 'ss' -/
def IsStrs (w : World) (a : Option Addr) (len cap : Nat) (ss : List ByteArray) : Prop :=
  (a = none ∧ len = 0 ∧ cap = 0 ∧ ss = []) ∨
  ∃ x, a = some x ∧ len ≤ cap ∧ cap ≤ maxLen ∧ ss.length = cap ∧ (∀ i, i < ss.length → w.cell? (x.add i) = some (.string (ss.getD i ByteArray.empty))) ∧ ∀ s ∈ ss, s.size ≤ maxLen
/-- the slice value v reads as the strings ss, in a block below B -/
def RS (w : World) (B : Nat) (v : Value) (ss : List ByteArray) : Prop :=
  ∃ a cap, v = .slice a ss.length cap ∧ (0 < ss.length → ∃ x : Addr, a = some x ∧ x.block < B ∧ ∀ j (h : j < ss.length), w.cell? (x.add j) = some (.string ss[j]))
theorem add_block (x : Addr) (j : Nat) : (x.add j).block = x.block := by unfold Addr.add; split <;> rfl
section
variable {w w' : World} {B B' : Nat} {v : Value} {ss : List ByteArray}
theorem RS.keep (h : RS w B v ss) (hk : ∀ p : Addr, p.block < B → w'.cell? p = w.cell? p) : RS w' B v ss := by
  obtain ⟨a, cap, hv, h2⟩ := h
  refine ⟨a, cap, hv, fun h0 => ?_⟩
  obtain ⟨x, hx, hB, hc⟩ := h2 h0
  exact ⟨x, hx, hB, fun j hj => (hk _ (by rw [add_block]; exact hB)).trans (hc j hj)⟩
theorem RS.below (h : RS w B v ss) (hb : Below B w w') : RS w' B v ss := h.keep fun _ hp => hb.cell hp
theorem RS.mono (h : RS w B v ss) (hB : B ≤ B') : RS w B' v ss := by
  obtain ⟨a, cap, hv, h2⟩ := h
  refine ⟨a, cap, hv, fun h0 => ?_⟩
  obtain ⟨x, hx, hx2, hc⟩ := h2 h0
  exact ⟨x, hx, by omega, hc⟩
theorem RS.shape (h : RS w B v ss) : ∃ a cap, v = .slice a ss.length cap := by
  obtain ⟨a, cap, hv, _⟩ := h
  exact ⟨a, cap, hv⟩
theorem RS.at_ {a : Option Addr} {cap : Nat} (h : RS w B (.slice a ss.length cap) ss) {k : Nat} (hk : k < ss.length) : ∃ x : Addr, a = some x ∧ x.block < B ∧ w.cell? (x.add k) = some (.string ss[k]) := by
  obtain ⟨a', cap', hv, h2⟩ := h
  injection hv with hv1 hv2 hv3
  subst hv1
  obtain ⟨x, hx, hB, hc⟩ := h2 (by omega)
  exact ⟨x, hx, hB, hc k hk⟩
end
theorem RS.of_arg {w : World} {a : Option Addr} {len cap : Nat} {ss : List ByteArray} (h : IsStrs w a len cap ss) : RS w w.heap.size (.slice a len cap) (ss.take len) ∧ (ss.take len).length = len ∧ ∀ s ∈ ss.take len, s.size ≤ maxLen := by
  rcases h with ⟨rfl, rfl, rfl, rfl⟩ | ⟨x, rfl, hl, hm, hs, hc, hz⟩
  · exact ⟨⟨none, 0, rfl, fun h => by simp at h⟩, rfl, fun s hs => by simp at hs⟩
  · have hlen : (ss.take len).length = len := by rw [List.length_take]; omega
    refine ⟨⟨_, _, by rw [hlen], fun h0 => ⟨x, rfl, ?_, fun j hj => ?_⟩⟩, hlen, fun s hs => hz s (List.mem_of_mem_take hs)⟩
    · have h1 := World.block_lt_of_cell? w _ (hc 0 (by omega))
      rwa [add_block] at h1
    · rw [hlen] at hj
      have := hc j (by omega)
      rw [this, List.getElem_take, List.getD_eq_getElem?_getD, List.getElem?_eq_getElem (by omega)]
      rfl
/-- what is told of the size: not nought, or all is small -/
def SzPost (w : World) (ss : List ByteArray) (e : Ending) (w' : World) : Prop := ∃ x : Int, e = .returned (.int .i64 x) ∧ w = w' ∧ (x = -1 ∨ (0 ≤ x ∧ ss.length ≤ 1048576 ∧ ∀ s ∈ ss, s.size ≤ 1048576))
theorem info_str : (Tryz.prog.info? 9).map (fun i => (i.zero, i.size, i.bytes)) = some (some (.string ⟨#[]⟩), 1, 16) := by kernel_rfl
def strV (s : ByteArray) : Value := .string s
/-- the row behind k rounds of a copy -/
def partS (ss : List ByteArray) (k : Nat) : List Value := (ss.take k).map strV ++ List.replicate (ss.length - k) (.string ⟨#[]⟩)
theorem partS_set (ss : List ByteArray) (k : Nat) (h : k < ss.length) : (partS ss k).set k (.string ss[k]) = partS ss (k + 1) := by
  unfold partS
  have hl : ((ss.take k).map strV).length = k := by rw [List.length_map, List.length_take]; omega
  rw [List.set_append_right _ _ (by omega), hl, Nat.sub_self, List.take_succ_eq_append_getElem h, List.map_append, List.append_assoc]
  congr 1
  rw [show ss.length - k = (ss.length - (k + 1)) + 1 by omega, List.replicate_succ, List.set_cons_zero]
  rfl
theorem partS_len (ss : List ByteArray) (k : Nat) (h : k ≤ ss.length) : (partS ss k).length = ss.length := by
  unfold partS; rw [List.length_append, List.length_map, List.length_take, List.length_replicate]; omega
theorem sown_stored {w : World} {base : Nat} {e : TypeId} {size n n' cap : Nat} {g : Nat} {xs : List Value} (h : w.ownsRow base e size (.slice (some ⟨g, 0, none⟩) n' cap) n xs) (j : Nat) (u : Value) :
    (w.setCell ⟨g, j, none⟩ u).ownsRow base e size (.slice (some ⟨g, 0, none⟩) n' cap) n (xs.set j u) := by
  refine ⟨by rw [List.length_set]; exact h.1, ?_⟩
  rcases h.2 with ⟨hv, _⟩ | ⟨g', cap', cur, hv, hb, hg, h1, h2, h3, h4⟩
  · simp at hv
  · have : g = g' := by injection hv with h; injection h with h; injection h
    subst this
    rw [setCell_eq_setRow w g j cur e (0, 0) _ hg]
    refine .inr ⟨g, cap', _, hv, hb, setRow_heap w g cur _ e (0, 0) hg, h1, h2, by simpa using h3, ?_⟩
    rw [Array.toList_setIfInBounds, List.take_set, h4]
theorem sown_free {w : World} {base : Nat} {e : TypeId} {size n n' cap : Nat} {g : Nat} {xs : List Value} (h : w.ownsRow base e size (.slice (some ⟨g, 0, none⟩) n' cap) n xs) (j : Nat) : w.frozen? ⟨g, j, none⟩ = false := by
  rcases h.2 with ⟨hv, _⟩ | ⟨g', cap', cur, hv, hb, hg, _⟩
  · simp at hv
  · have : g = g' := by injection hv with h; injection h with h; injection h
    subst this
    simp [World.frozen?, hg]
theorem slit_add (g j : Nat) : (⟨g, 0, none⟩ : Addr).add j = ⟨g, j, none⟩ := by unfold Addr.add; split <;> simp_all
theorem sown_cell {w : World} {base : Nat} {e : TypeId} {size n n' cap g : Nat} {xs : List Value} (h : w.ownsRow base e size (.slice (some ⟨g, 0, none⟩) n' cap) n xs) {j : Nat} (hj : j < xs.length) : w.cell? ⟨g, j, none⟩ = some xs[j] := by
  have := h.cells (g := g) rfl j _ (List.getElem?_eq_getElem hj)
  rwa [slit_add] at this
/-- a row of strings of the call's own, read -/
theorem RS.of_own {w : World} {base : Nat} {v : Value} {ss : List ByteArray} (h : w.ownsRow base 9 1 v ss.length (ss.map strV)) : RS w w.heap.size v ss := by
  have hlt := h.lt
  have hcs := @World.ownsRow.cells _ _ _ _ _ _ _ h
  rcases h.2 with ⟨rfl, hn⟩ | ⟨g, cap, cur, rfl, hb, hg, _⟩
  · exact ⟨none, 0, by rw [hn], fun h0 => by omega⟩
  · exact ⟨_, cap, rfl, fun _ => ⟨_, rfl, (hlt g rfl).2, fun j hj => hcs rfl j _ (by simp [hj, strV])⟩⟩
def CopyPost (w : World) (ss : List ByteArray) (e : Ending) (w' : World) : Prop := (∃ v, e = .returned v ∧ w'.ownsRow w.heap.size 9 1 v ss.length (ss.map strV)) ∧ Below w.heap.size w w'
end Go.Proofs.YtcegpcggdcgjbaaGreatDoor
