/- Three builders: kept over what a method turns. -/
import Derived.Test.YtplaagkcamjemaaMbB
namespace Go.Proofs.Ytplaagkcamjemaa
open Go.ChangeShapes Go.WideShapes Go.ChangeAt Go.RowKit
theorem RB.kept {w w' : World} {B : Nat} {v : Value} {l : List UInt8} {row : Option Nat} (h : RB w B v l) (hg : w.grownBy w' row) (hne : v.ownBlock = none ∨ v.ownBlock ≠ row) : RB w' B v l := ⟨World.ownsRow.kept h.1 hg hne, h.2⟩
theorem RB.lt {w : World} {B : Nat} {v : Value} {l : List UInt8} (h : RB w B v l) : ∀ k, v.ownBlock = some k → B ≤ k ∧ k < w.heap.size := h.ob.lt
section
variable {w : World} {B g : Nat} {L : Nat → List UInt8} {live : Nat → Prop} {p v : Nat → Value}
theorem MBs.setp (h : MBs w B g L live p v) {i : Nat} (hi : i < 3) {x : Value} (hx : PO g i x) : MBs (w.setCell ⟨g, i * 2, none⟩ x) B g L live (upd p i x) v where
  lo := h.lo
  bk := by have := h.bk.set (i * 2) x; rwa [cellsM_setp p v hi] at this
  po := fun j hj => by
    by_cases e : j = i
    · subst e; rw [upd_same]; exact hx
    · rw [upd_other p e]; exact h.po j hj
  rb := fun j hj hl => (h.rb j hj hl).setCell_far (fun e => (h.own j hj g e).2.2 rfl)
  own := fun j hj k hk => by have := h.own j hj k hk; simpa using this
  ap := h.ap
/-- the buffer of a builder stored back behind an append -/
theorem MBs.grow (h : MBs w B g L live p v) {i : Nat} (hi : i < 3) {w2 : World} {v2 : Value} {l2 : List UInt8} (hg : w.grownBy w2 (v i).ownBlock) (hrb : RB w2 B v2 l2)
    (hnew : v2.ownBlock = (v i).ownBlock ∨ ∀ k, v2.ownBlock = some k → w.heap.size ≤ k) : BK w2 g (cellsM p v) 71 ∧ MBs (w2.setCell ⟨g, i * 2 + 1, none⟩ v2) B g (upd L i l2) live p (upd v i v2) := by
  have hbk : BK w2 g (cellsM p v) 71 := h.bk.grown hg (fun e => (h.own i hi g e).2.2 rfl)
  have hgl := h.bk.lt
  have hsz := hg.size
  have hv2 : ∀ k, v2.ownBlock = some k → B ≤ k ∧ k < w2.heap.size ∧ k ≠ g := by
    intro k hk
    have h1 := hrb.lt k hk
    refine ⟨h1.1, h1.2, ?_⟩
    rcases hnew with e | e
    · rw [e] at hk; exact (h.own i hi k hk).2.2
    · have := e k hk; omega
  refine ⟨hbk, ?_⟩
  exact {
    lo := h.lo
    bk := by have := hbk.set (i * 2 + 1) v2; rwa [cellsM_setv p v hi] at this
    po := h.po
    rb := fun j hj hl => by
      by_cases e : j = i
      · subst e
        rw [upd_same, upd_same]
        exact hrb.setCell_far (fun e => (hv2 g e).2.2 rfl)
      · rw [upd_other v e, upd_other L e]
        exact ((h.rb j hj hl).kept hg (h.ap j i hj hi (fun e' => e e'.symm))).setCell_far (fun e => (h.own j hj g e).2.2 rfl)
    own := fun j hj k hk => by
      by_cases e : j = i
      · subst e
        rw [upd_same] at hk
        simpa using hv2 k hk
      · rw [upd_other v e] at hk
        have := h.own j hj k hk
        simp only [World.size_setCell]
        exact ⟨this.1, by omega, this.2.2⟩
    ap := fun j j' hj hj' hne => by
      by_cases e : j = i
      · subst e
        rw [upd_same, upd_other v hne]
        cases h2 : v2.ownBlock with
        | none => exact .inl rfl
        | some k =>
          right
          intro hk
          rcases hnew with e | e
          · rw [e] at h2
            rcases h.ap j j' hj hj' hne with h3 | h3
            · rw [h3] at h2; cases h2
            · exact h3 (h2.trans hk)
          · have h3 := e k h2
            have h4 := h.own j' hj' k hk.symm
            omega
      · rw [upd_other v e]
        by_cases e' : j' = i
        · subst e'
          rw [upd_same]
          cases h2 : (v j).ownBlock with
          | none => exact .inl rfl
          | some k =>
            right
            intro hk
            rcases hnew with e3 | e3
            · rcases h.ap j j' hj hj' hne with h3 | h3
              · rw [h3] at h2; cases h2
              · exact h3 (h2.trans (hk.trans e3))
            · have h3 := e3 k hk.symm
              have h4 := h.own j hj k h2
              omega
        · rw [upd_other v e']
          exact h.ap j j' hj hj' hne }
theorem MBs.below {w' : World} {B' : Nat} (h : MBs w B g L live p v) (hb : Below B' w w') (hl : w.heap.size ≤ B') : MBs w' B g L live p v where
  lo := h.lo
  bk := h.bk.below hb (by have := h.bk.lt; omega)
  po := h.po
  rb := fun j hj hlv => by
    have hr := h.rb j hj hlv
    refine ⟨⟨hr.1.1, ?_⟩, hr.2⟩
    rcases hr.1.2 with hn | ⟨g', cap, cur, e, hbg, hgg, rest⟩
    · exact .inl hn
    · exact .inr ⟨g', cap, cur, e, hbg, (hb.block g' (by have := (Array.getElem?_eq_some_iff.1 hgg).1; omega)).trans hgg, rest⟩
  own := fun j hj k hk => by have := h.own j hj k hk; have := hb.size; exact ⟨by omega, by omega, by omega⟩
  ap := h.ap
theorem MBs.drew (h : MBs w B g L live p v) : MBs w.drew B g L live p v := ⟨h.lo, h.bk, h.po, h.rb, h.own, h.ap⟩
end
theorem cc_any (B g : Nat) (L : Nat → List UInt8) (live : Nat → Prop) (p v : Nat → Value) (i : Nat) (w : World) (h : MBs w B g L live p v) (hi : i < 3) :
    Calls Try.prog 67 #[.pointer (some ⟨g, i * 2, none⟩)] w fun e w' => e = .returned (.tuple #[]) ∧ MBs w' B g L live (upd p i (.pointer (some ⟨g, i * 2, none⟩))) v ∧ Below B w w' ∧ NB g w w' := by
  have h2 := bk_two h.bk hi
  rcases h.po i hi with e | e
  · rw [e] at h2
    refine (cc_fresh g (i * 2) (v i) w h2).mono ?_
    rintro e w' ⟨rfl, rfl⟩
    exact ⟨rfl, h.setp hi (.inr rfl), (Below.refl _ _).setCell h.lo _, (NB.refl _ _).setCell _ _⟩
  · rw [e] at h2
    refine (cc_used g (i * 2) (v i) w h2).mono ?_
    rintro e' w' ⟨rfl, rfl⟩
    refine ⟨rfl, ?_, Below.refl _ _, NB.refl _ _⟩
    have hu : upd p i (.pointer (some ⟨g, i * 2, none⟩)) = p := by
      funext j
      by_cases hj : j = i
      · subst hj; rw [upd_same, e]
      · exact upd_other p hj _
    rw [hu]; exact h
end Go.Proofs.Ytplaagkcamjemaa
