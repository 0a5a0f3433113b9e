/- Slices of bools in the laws: one that came in, copied, compared, marked. -/
import Derived.Test.YtplaagkcamjemaaMxN
import Derived.Deep.Grids
import Derived.RegionTactic
namespace Go.Proofs.Ytplaagkcamjemaa
open Go.ChangeShapes Go.WideShapes Go.ChangeAt Go.RowKit
/-- a slice of bools that came in -/
def IsBools (w : World) (a : Option Addr) (len cap : Nat) (bs : List Bool) : Prop :=
  (a = none ∧ len = 0 ∧ cap = 0 ∧ bs = []) ∨
  ∃ x, a = some x ∧ len ≤ cap ∧ cap ≤ maxLen ∧ bs.length = cap ∧ ∀ i (h : i < bs.length), w.cell? (x.add i) = some (.bool bs[i])
/-- read: below B -/
def RO (w : World) (B : Nat) (v : Value) (bs : List Bool) : Prop :=
  ∃ a cap, v = .slice a bs.length cap ∧ (0 < bs.length → ∃ x : Addr, a = some x ∧ x.block < B ∧ ∀ j (h : j < bs.length), w.cell? (x.add j) = some (.bool bs[j]))
section
variable {w w' : World} {B B' : Nat} {v : Value} {bs : List Bool}
theorem RO.below (h : RO w B v bs) (hb : Below B w w') : RO w' B v bs := by
  obtain ⟨a, cap, hv, h2⟩ := h
  refine ⟨a, cap, hv, fun h0 => ?_⟩
  obtain ⟨x, hx, hB, hc⟩ := h2 h0
  exact ⟨x, hx, hB, fun j hj => (hb.cell (p := x.add j) (by rw [add_block]; exact hB)).trans (hc j hj)⟩
theorem RO.drew (h : RO w B v bs) : RO w.drew B v bs := h
theorem RO.shape (h : RO w B v bs) : ∃ a cap, v = .slice a bs.length cap := by
  obtain ⟨a, cap, hv, _⟩ := h
  exact ⟨a, cap, hv⟩
theorem RO.at_ {a : Option Addr} {cap : Nat} (h : RO w B (.slice a bs.length cap) bs) {k : Nat} (hk : k < bs.length) : ∃ x : Addr, a = some x ∧ x.block < B ∧ w.cell? (x.add k) = some (.bool bs[k]) := by
  obtain ⟨a', cap', hv, h2⟩ := h
  injection hv with h1 _ _
  subst h1
  obtain ⟨x, hx, hB, hc⟩ := h2 (by omega)
  exact ⟨x, hx, hB, hc k hk⟩
end
theorem RO.of_arg {w : World} {a : Option Addr} {len cap : Nat} {bs : List Bool} (h : IsBools w a len cap bs) : RO w w.heap.size (.slice a len cap) (bs.take len) ∧ (bs.take len).length = len ∧ len ≤ maxLen := by
  rcases h with ⟨rfl, rfl, rfl, rfl⟩ | ⟨x, rfl, h1, h2, h3, h5⟩
  · exact ⟨⟨none, 0, rfl, fun h => by simp at h⟩, rfl, Nat.zero_le _⟩
  · have hl : (bs.take len).length = len := by rw [List.length_take]; omega
    refine ⟨⟨some x, cap, by rw [hl], fun h0 => ⟨x, rfl, by have hc := h5 0 (by rw [hl] at h0; omega); have := block_lt_of_cell hc; rwa [add_block] at this, fun j hj => ?_⟩⟩, hl, by omega⟩
    rw [List.getElem_take]
    exact h5 j (by rw [hl] at hj; omega)
def boolV (b : Bool) : Value := .bool b
/-- a slice of bools of the call's own -/
def OO (w : World) (base : Nat) (v : Value) (bs : List Bool) : Prop := w.ownsRow base 4 1 v bs.length (bs.map boolV)
theorem OO.reads {w : World} {base : Nat} {v : Value} {bs : List Bool} (h : OO w base v bs) : RO w w.heap.size v bs := by
  rcases h.2 with ⟨rfl, h0⟩ | ⟨g, cap, cur, rfl, _, hg, _, _, _, htake⟩
  · rw [List.eq_nil_of_length_eq_zero h0]; exact ⟨none, 0, rfl, fun h => by simp at h⟩
  · refine ⟨_, cap, rfl, fun _ => ⟨⟨g, 0, none⟩, rfl, (Array.getElem?_eq_some_iff.1 hg).1, fun j hj => ?_⟩⟩
    rw [slit_add, cell_of_row w g j cur _ _ hg]
    have h5 : (cur.toList.take (bs.length * 1))[j]? = some (boolV bs[j]) := by rw [htake]; simp [hj]
    rw [List.getElem?_take] at h5
    split at h5
    · simpa [boolV] using h5
    · cases h5
theorem OO.low {w : World} {base : Nat} {v : Value} {bs : List Bool} (h : OO w base v bs) : ∀ k, v.ownBlock = some k → base ≤ k ∧ k < w.heap.size := World.ownsRow.lt h
theorem OO.kept {w w' : World} {base : Nat} {v : Value} {bs : List Bool} {row : Option Nat} (h : OO w base v bs) (hg : w.grownBy w' row) (hne : v.ownBlock = none ∨ v.ownBlock ≠ row) : OO w' base v bs := World.ownsRow.kept h hg hne
theorem OO.below {w w' : World} {base : Nat} {v : Value} {bs : List Bool} (h : OO w base v bs) (hb : Below w.heap.size w w') : OO w' base v bs := own_below h hb
theorem OO.drew {w : World} {base : Nat} {v : Value} {bs : List Bool} (h : OO w base v bs) : OO w.drew base v bs := h
theorem OO.mono {w : World} {base base' : Nat} {v : Value} {bs : List Bool} (h : OO w base v bs) (hb : base' ≤ base) : OO w base' v bs := by
  refine ⟨h.1, ?_⟩
  rcases h.2 with hn | ⟨g, cap, cur, h1, h2, h3⟩
  · exact .inl hn
  · exact .inr ⟨g, cap, cur, h1, Nat.le_trans hb h2, h3⟩
theorem info_bool : (Try.prog.info? 4).map (fun i => (i.zero, i.size, i.bytes)) = some (some (.bool false), 1, 1) := by kernel_rfl
def partO (bs : List Bool) (k : Nat) : List Value := (bs.take k).map boolV ++ List.replicate (bs.length - k) (.bool false)
theorem partO_len (bs : List Bool) (k : Nat) (h : k ≤ bs.length) : (partO bs k).length = bs.length := by simp [partO]; omega
theorem partO_set (bs : List Bool) (k : Nat) (h : k < bs.length) : (partO bs k).set k (.bool bs[k]) = partO bs (k + 1) := by
  unfold partO
  rw [List.set_append_right _ _ (by rw [List.length_map, List.length_take]; omega), List.length_map, List.length_take, Nat.min_eq_left (by omega), Nat.sub_self, show bs.length - k = (bs.length - (k + 1)) + 1 by omega, List.replicate_succ, List.set_cons_zero,
    List.take_succ_eq_append_getElem h, List.map_append, List.append_assoc]
  rfl
def ToOPost (w : World) (bs : List Bool) (e : Ending) (w' : World) : Prop := (∃ v, e = .returned v ∧ OO w' w.heap.size v bs) ∧ Below w.heap.size w w'
set_option maxRecDepth 100000 in
theorem isBools_open {H : Type} {enc : TypeId × Value → H} {W : World} {fuel : Nat} {a : Option Addr} {len cap : Nat} {x : DataW H × List MemPlace}
    (h : DataW.trod enc Try.prog W 0 (fun _ => true) true fuel 45 [.slice a len cap] = some x) : ∃ l, IsBools W a len cap l := by
  rcases Go.Deep.open_bools Try.underlying45 Try.underlying4 (by kernel_rfl) h with ⟨hcs, _⟩ | ⟨x, l, c, Bf, hcs, _, hl, hm, _, hcell⟩
  · simp only [List.cons.injEq, Value.slice.injEq, and_true] at hcs
    obtain ⟨rfl, rfl, rfl⟩ := hcs
    exact ⟨[], .inl ⟨rfl, rfl, rfl, rfl⟩⟩
  · simp only [List.cons.injEq, Value.slice.injEq, and_true] at hcs
    obtain ⟨rfl, rfl, rfl⟩ := hcs
    exact ⟨(List.range cap).map Bf, .inr ⟨x, rfl, hl, hm, by simp, fun i hi => by simpa using hcell i (by simpa using hi)⟩⟩
def MarkOPost (w : World) (v : Value) (k0 n : Nat) (e : Ending) (w' : World) : Prop := e = .returned (.int .i64 ((k0 + n : Nat) : Int)) ∧ w.grownBy w' v.ownBlock
theorem OO.stored {w : World} {base g n cap : Nat} {bs : List Bool} (h : OO w base (.slice (some ⟨g, 0, none⟩) n cap) bs) (k : Nat) (b : Bool) : OO (w.setCell ⟨g, k, none⟩ (.bool b)) base (.slice (some ⟨g, 0, none⟩) n cap) (bs.set k b) := by
  unfold OO at h ⊢
  rw [List.length_set, List.map_set]
  exact sown_stored h k (.bool b)
end Go.Proofs.Ytplaagkcamjemaa
