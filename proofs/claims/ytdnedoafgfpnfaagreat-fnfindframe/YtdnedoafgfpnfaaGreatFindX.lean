/- A finder and events that a call has answered, held by a law. -/
import Derived.Test.YtdnedoafgfpnfaaGreatKitFindF
import Derived.Test.YtdnedoafgfpnfaaGreatFEvK
import Derived.Deep.DeepCutAuto
namespace Go.Proofs.YtdnedoafgfpnfaaGreat
open Go.ChangeShapes Go.WideShapes Go.ChangeAt Go.RowKit
theorem Bx.alloc {w0 w : World} {a b d m : Int} {s : ByteArray} {o : Bool} (h : Bx w0 w a b d m s o) (x : Obj) : Bx w0 (w.alloc x) a b d m s o := h.next ((Below.refl _ _).alloc (Nat.le_refl _) _)
theorem Bx.farSet {w0 w : World} {a b d m : Int} {s : ByteArray} {o : Bool} (h : Bx w0 w a b d m s o) {g i : Nat} (hg : w0.heap.size + 2 ≤ g) (x : Value) : Bx w0 (w.setCell ⟨g, i, none⟩ x) a b d m s o := by
  obtain ⟨⟨h1, h2, h3, h4⟩, ⟨h5, h6⟩, h7, h8⟩ := h
  have k : ∀ (q j : Nat), q < g → (w.setCell ⟨g, i, none⟩ x).cell? ⟨q, j, none⟩ = w.cell? ⟨q, j, none⟩ := fun q j hq => World.cell?_setCell_other w _ _ x (fun e => by injection e with e1; omega)
  exact ⟨⟨(k _ _ (by omega)).trans h1, (k _ _ (by omega)).trans h2, (k _ _ (by omega)).trans h3, (k _ _ (by omega)).trans h4⟩, ⟨(k _ _ (by omega)).trans h5, (k _ _ (by omega)).trans h6⟩, h7.setCell (by show w0.heap.size ≤ g; omega) _, by simpa using h8⟩
/-- as XAt, and the events are of the call's own -/
def XO (w0 wx : World) (g : Nat) (X : ByteArray) (y : Bool) (v : Value) (l : List Ev) : Prop := BK wx g #[.string X, .bool y] 26 ∧ w0.heap.size ≤ g ∧ OE wx w0.heap.size v l ∧ Below w0.heap.size w0 wx
theorem bk_before {w2 w3 : World} (hb : Below (w2.alloc (.cells #[.string ⟨#[]⟩, .bool false] 26)).heap.size (w2.alloc (.cells #[.string ⟨#[]⟩, .bool false] 26)) w3) : BK (w2.alloc (.cells #[.string ⟨#[]⟩, .bool false] 26)) w2.heap.size #[.string ⟨#[]⟩, .bool false] 26 := by
  have _ := hb
  exact BK.new _ _ _
theorem xo_last {w0 w2 w3 : World} {v : Value} {l : List Ev} (hW : Below w0.heap.size w0 w2) (hb : Below w2.heap.size w2 w3) (ho : OE w3 w2.heap.size v l) (X : ByteArray) (y : Bool) : XO w0 (w3.alloc (.cells #[.string X, .bool y] 26)) w3.heap.size X y v l :=
  ⟨BK.new _ _ _, Nat.le_trans hW.size hb.size, (ho.alloc' _).mono hW.size, (hW.trans (hb.mono hW.size)).alloc (Nat.le_trans hW.size hb.size) _⟩
theorem xo_box {w0 w2 w3 : World} {v : Value} {l : List Ev} {g : Nat} {x y : Value} (hW : Below w0.heap.size w0 w2) (hx : BK w2 g #[x, y] 26) (hg : w0.heap.size ≤ g) (hb : Below w2.heap.size w2 w3) (ho : OE w3 w2.heap.size v l) (X : ByteArray) (o : Bool) :
    XO w0 ((w3.setCell ⟨g, 0, none⟩ (.string X)).setCell ⟨g, 1, none⟩ (.bool o)) g X o v l := by
  refine ⟨((hx.from hb).set 0 (.string X)).set 1 (.bool o), hg, ?_, ((hW.trans (hb.mono hW.size)).setCell hg _).setCell hg _⟩
  exact ((ho.put (p := ⟨g, 0, none⟩) hx.lt (.string X)).put (p := ⟨g, 1, none⟩) hx.lt (.bool o)).mono hW.size
/-- what a law holds: its arguments' boxes, the model's finder in its box, the model's events -/
def KF (w W : World) (a b d m : Int) (s : ByteArray) (o : Bool) (g B : Nat) (X : ByteArray) (y : Bool) (v : Value) (l : List Ev) : Prop :=
  Bx w W a b d m s o ∧ BK W g #[.string X, .bool y] 26 ∧ RE W 0 B v l ∧ w.heap.size + 2 ≤ g ∧ g < B ∧ B ≤ W.heap.size
section
variable {w W W' : World} {a b d m : Int} {s : ByteArray} {o : Bool} {g B : Nat} {X : ByteArray} {y : Bool} {v : Value} {l : List Ev}
theorem KF.below (h : KF w W a b d m s o g B X y v l) (hb : Below B W W') : KF w W' a b d m s o g B X y v l := by
  obtain ⟨h1, h2, h3, h4, h5, h6⟩ := h
  refine ⟨⟨h1.1.below hb (by omega), h1.2.1.below hb (by omega), h1.2.2.1.trans (hb.mono (by omega)), by have := hb.size; omega⟩, h2.below hb h5, h3.below hb, h4, h5, Nat.le_trans h6 hb.size⟩
theorem KF.from (h : KF w W a b d m s o g B X y v l) (hb : Below W.heap.size W W') : KF w W' a b d m s o g B X y v l := h.below (hb.mono h.2.2.2.2.2)
theorem KF.drew (h : KF w W a b d m s o g B X y v l) : KF w W.drew a b d m s o g B X y v l := h.from (Below.refl _ _).drew
theorem KF.start {w0 : World} (h : Bx w w0 a b d m s o) (hx : XO w0 W g X y v l) : KF w W a b d m s o g W.heap.size X y v l :=
  ⟨h.next hx.2.2.2, hx.1, (OE.reads hx.2.2.1).mono (Nat.zero_le _) (Nat.le_refl _), by have := h.2.2.2; have := hx.2.1; omega, hx.1.lt, Nat.le_refl _⟩
end
theorem feedF_len (c : Cf) (f : Fd) (l : List UInt8) : (feedF c f l).2.length ≤ 600 := by
  unfold feedF
  split
  · rename_i h; have := ffeed_len c l f; omega
  · simp
end Go.Proofs.YtdnedoafgfpnfaaGreat
