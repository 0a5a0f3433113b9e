/- What a law on a finder holds behind two calls of FindFeed. -/
import Derived.Test.YtdnedoafgfpnfaaGreatFindZ
import Derived.Test.YtdnedoafgfpnfaaGreatFindX
namespace Go.Proofs.YtdnedoafgfpnfaaGreat
open Go.ChangeShapes Go.WideShapes Go.ChangeAt Go.RowKit
/-- the configuration, the finder, what came as finders in boxes, the events: all below B -/
def LT (x1 W : World) (a b d m : Int) (H : ByteArray) (o : Bool) (g8 g10 B : Nat) (X : ByteArray) (y : Bool) (v9 v11 : Value) (evs : List Ev) : Prop :=
  (CB W x1.heap.size a b d m ∧ FB W (x1.heap.size + 1) H o ∧ BK W g8 #[.string X, .bool y] 26 ∧ BK W g10 #[.string X, .bool y] 26 ∧ RE W 0 B v9 evs ∧ RE W 0 B v11 evs) ∧ Below x1.heap.size x1 W ∧ (x1.heap.size + 2 ≤ B ∧ g8 < B ∧ g10 < B ∧ B ≤ W.heap.size)
section
variable {x1 W W' : World} {a b d m : Int} {H X : ByteArray} {o y : Bool} {g8 g10 B : Nat} {v9 v11 : Value} {evs : List Ev}
theorem LT.via (h : LT x1 W a b d m H o g8 g10 B X y v9 v11 evs) (hb : Below B W W') : LT x1 W' a b d m H o g8 g10 B X y v9 v11 evs := by
  obtain ⟨⟨h1, h2, h3, h4, h5, h6⟩, h7, h8, h9, h10, h11⟩ := h
  exact ⟨⟨h1.below hb (by omega), h2.below hb (by omega), h3.below hb h9, h4.below hb h10, h5.below hb, h6.below hb⟩, h7.trans (hb.mono (by omega)), h8, h9, h10, Nat.le_trans h11 hb.size⟩
theorem LT.top (h : LT x1 W a b d m H o g8 g10 B X y v9 v11 evs) : B ≤ W.heap.size := h.2.2.2.2.2
theorem LT.from (h : LT x1 W a b d m H o g8 g10 B X y v9 v11 evs) (hb : Below W.heap.size W W') : LT x1 W' a b d m H o g8 g10 B X y v9 v11 evs := h.via (hb.mono h.top)
theorem LT.drew (h : LT x1 W a b d m H o g8 g10 B X y v9 v11 evs) : LT x1 W.drew a b d m H o g8 g10 B X y v9 v11 evs := h.via (Below.refl _ _).drew
theorem LT.alloc (h : LT x1 W a b d m H o g8 g10 B X y v9 v11 evs) (c : Obj) : LT x1 (W.alloc c) a b d m H o g8 g10 B X y v9 v11 evs := h.via ((Below.refl _ _).alloc h.top _)
theorem LT.farSet (h : LT x1 W a b d m H o g8 g10 B X y v9 v11 evs) {j i : Nat} (hj : B ≤ j) (v : Value) : LT x1 (W.setCell ⟨j, i, none⟩ v) a b d m H o g8 g10 B X y v9 v11 evs := h.via ((Below.refl B W).setCell (p := ⟨j, i, none⟩) hj v)
theorem LT.flat (h : LT x1 W a b d m H o g8 g10 B X y v9 v11 evs) : ((W.cell? ⟨x1.heap.size, 0, none⟩ = some (.int .i64 a) ∧ W.cell? ⟨x1.heap.size, 1, none⟩ = some (.int .i64 b) ∧ W.cell? ⟨x1.heap.size, 2, none⟩ = some (.int .i64 d) ∧ W.cell? ⟨x1.heap.size, 3, none⟩ = some (.int .i64 m)) ∧ (W.cell? ⟨x1.heap.size + 1, 0, none⟩ = some (.string H) ∧ W.cell? ⟨x1.heap.size + 1, 1, none⟩ = some (.bool o))) ∧ ((W.cell? ⟨g8, 0, none⟩ = some (.string X) ∧ W.cell? ⟨g8, 1, none⟩ = some (.bool y)) ∧ (W.cell? ⟨g10, 0, none⟩ = some (.string X) ∧ W.cell? ⟨g10, 1, none⟩ = some (.bool y))) :=
  ⟨⟨h.1.1, h.1.2.1⟩, ⟨h.1.2.2.1.cell rfl, h.1.2.2.1.cell rfl⟩, h.1.2.2.2.1.cell rfl, h.1.2.2.2.1.cell rfl⟩
theorem LT.below (h : LT x1 W a b d m H o g8 g10 B X y v9 v11 evs) : Below x1.heap.size x1 W := h.2.1
theorem LT.ct (h : LT x1 W a b d m H o g8 g10 B X y v9 v11 evs) (hl : evs.length ≤ 600) :
    Calls Tryz.prog 14 #[v9, v11] W fun e w' => e = .returned (.bool true) ∧ Below W.heap.size W w' :=
  ctEvents_same v9 v11 evs _ _ _ _ _ h.1.2.2.2.2.1 h.1.2.2.2.2.2 h.top h.top (by omega)
end
theorem feedF_after (c : Cf) (f : Fd) (l : List UInt8) (h : okF c f = true) (hl : l.length ≤ 600) : (feedF c f l).1.held.length ≤ 92 ∧ okF c (feedF c f l).1 = true := by
  have h1 : feedF c f l = ffeed c f l := by unfold feedF; rw [if_pos ⟨h, hl⟩]
  have h2 := ffeed_ok l h
  rw [h1]
  obtain ⟨hc, hh, _⟩ := okF_yes h2
  have := hold_pos hc
  exact ⟨by omega, h2⟩
end Go.Proofs.YtdnedoafgfpnfaaGreat
