/- Plain facts on blocks: how a text is cut, two texts with a nought between. -/
import Derived.Test.YtfojlpnnhghcbaaCobE
namespace Go.Proofs.Ytfojlpnnhghcbaa
open Go.ChangeShapes Go.WideShapes Go.ChangeAt Go.RowKit
def nz (p : List UInt8) : Prop := ∀ x ∈ p, x ≠ 0
theorem blkN_eq {p r : List UInt8} (h : nz p) (hp : p.length ≤ 254) (hr : p.length = 254 ∨ r = [] ∨ ∃ r', r = 0 :: r') : blkN (p ++ r) = p.length := by
  unfold blkN
  rw [List.take_append, List.takeWhile_append_of_pos (by
    intro x hx
    have := h x (List.mem_of_mem_take hx)
    simpa using this), List.take_of_length_le hp, List.length_append]
  have : (r.take (254 - p.length)).takeWhile (· != 0) = [] := by
    rcases hr with hr | hr | ⟨r', hr⟩
    · rw [hr]; simp
    · rw [hr]; simp
    · rw [hr]
      cases 254 - p.length <;> simp
  rw [this]; simp
theorem nz_take (l : List UInt8) : nz (l.take (blkN l)) := by
  intro x hx
  have e : l.take (blkN l) = (l.take 254).takeWhile (· != 0) := by
    have h1 : (l.take 254).takeWhile (· != 0) <+: l := (List.takeWhile_prefix _).trans (List.take_prefix _ _)
    have h2 := List.prefix_iff_eq_take.1 h1
    exact h2.symm
  rw [e] at hx
  have := List.all_takeWhile (p := (· != 0)) (l := l.take 254)
  have h3 := List.all_eq_true.1 this x hx
  simpa using h3
/-- how a text is cut -/
theorem pcs_view (l : List UInt8) : (nz l ∧ l.length ≤ 254 ∧ pcs l = [l]) ∨ (∃ p r, nz p ∧ p.length ≤ 253 ∧ l = p ++ 0 :: r ∧ pcs l = p :: pcs r) ∨ (∃ p r, nz p ∧ p.length = 254 ∧ r ≠ [] ∧ l = p ++ r ∧ pcs l = p :: pcs r) := by
  have hb := blkN_le l
  have hn := nz_take l
  by_cases h : blkN l < l.length
  · by_cases h4 : blkN l < 254
    · right; left
      have hz : l[blkN l] = 0 := by
        rcases Decidable.em (l[blkN l] = 0) with e | e
        · exact e
        · exact absurd ((blk_at (Nat.le_refl _) h4 h).1 e) (Nat.lt_irrefl _)
      refine ⟨l.take (blkN l), l.drop (blkN l + 1), hn, by rw [List.length_take]; omega, ?_, ?_⟩
      · rw [← hz, ← List.drop_eq_getElem_cons h, List.take_append_drop]
      · rw [pcs_more h, stepN, if_pos h4]
    · right; right
      refine ⟨l.take (blkN l), l.drop (blkN l), hn, by rw [List.length_take]; omega, ?_, (List.take_append_drop _ _).symm, ?_⟩
      · intro e
        have : (l.drop (blkN l)).length = 0 := by rw [e]; rfl
        rw [List.length_drop] at this; omega
      · rw [pcs_more h, stepN, if_neg h4]
  · left
    have e : l.take (blkN l) = l := List.take_of_length_le (by omega)
    exact ⟨e ▸ hn, by omega, pcs_last (by omega)⟩
theorem pcs_nz {l : List UInt8} (h : nz l) (hl : l.length ≤ 254) : pcs l = [l] := by
  have := blkN_eq (r := []) h hl (.inr (.inl rfl))
  rw [List.append_nil] at this
  exact pcs_last (by omega)
theorem pcs_zero {p : List UInt8} (r : List UInt8) (h : nz p) (hp : p.length ≤ 253) : pcs (p ++ 0 :: r) = p :: pcs r := by
  have hb := blkN_eq (r := 0 :: r) h (by omega) (.inr (.inr ⟨r, rfl⟩))
  rw [pcs_more (by rw [hb]; simp), stepN, hb, if_pos (by omega), List.take_left]
  congr 2
  rw [show p ++ 0 :: r = (p ++ [0]) ++ r by simp]
  exact List.drop_left' (by simp)
theorem pcs_full {p r : List UInt8} (h : nz p) (hp : p.length = 254) (hr : r ≠ []) : pcs (p ++ r) = p :: pcs r := by
  have hb := blkN_eq (r := r) h (by omega) (.inl hp)
  have hl : 0 < r.length := List.length_pos_iff.2 hr
  rw [pcs_more (by rw [hb, List.length_append]; omega), stepN, hb, if_neg (by omega), List.take_left, List.drop_left]
theorem pcs_join {a : List UInt8} (b : List UInt8) (ha : a.length ≤ 253) : pcs (a ++ 0 :: b) = pcs a ++ pcs b := by
  induction hn : a.length using Nat.strongRecOn generalizing a with
  | _ n ih =>
    rcases pcs_view a with ⟨h1, h2, h3⟩ | ⟨p, r, h1, h2, h3, h4⟩ | ⟨p, r, h1, h2, h3, h4, h5⟩
    · rw [h3, pcs_zero b h1 ha]; rfl
    · have hl : a.length = p.length + (r.length + 1) := by rw [h3]; simp
      rw [h4, h3, List.append_assoc, List.cons_append, pcs_zero _ h1 h2, ih r.length (by omega) (by omega) rfl]; rfl
    · have hl : a.length = p.length + r.length := by rw [h4]; simp
      omega
theorem cob_join {a : List UInt8} (b : List UInt8) (ha : a.length ≤ 253) : cob (a ++ 0 :: b) = cob a ++ cob b := by
  rw [cob, pcs_join b ha, List.flatMap_append]; rfl
end Go.Proofs.Ytfojlpnnhghcbaa
