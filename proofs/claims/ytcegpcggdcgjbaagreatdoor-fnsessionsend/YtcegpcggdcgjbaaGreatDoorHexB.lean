/- Figures of base 16 read, plainly. -/
import Derived.Test.YtcegpcggdcgjbaaGreatDoorHexA
import Derived.Test.YtcegpcggdcgjbaaGreatDoorIdx
namespace Go.Proofs.YtcegpcggdcgjbaaGreatDoor
open Go.ChangeShapes Go.WideShapes Go.ChangeAt Go.RowKit
/-- what a figure is, -1 if it is none -/
def digV (b : UInt8) : Int := if 48 ≤ b.toNat ∧ b.toNat ≤ 57 then (b.toNat : Int) - 48 else if 97 ≤ b.toNat ∧ b.toNat ≤ 102 then (b.toNat : Int) - 87 else -1
theorem dig_idx (b : UInt8) : Lib.indexByte [48, 49, 50, 51, 52, 53, 54, 55, 56, 57, 97, 98, 99, 100, 101, 102] b = digV b := by
  have h : ∀ n, n < 256 → Lib.indexByte [48, 49, 50, 51, 52, 53, 54, 55, 56, 57, 97, 98, 99, 100, 101, 102] (UInt8.ofNat n) = digV (UInt8.ofNat n) := by decide +kernel
  have := h b.toNat (UInt8.toNat_lt b)
  rwa [UInt8.ofNat_toNat] at this
theorem digV_lt (b : UInt8) : -1 ≤ digV b ∧ digV b ≤ 15 := by
  unfold digV
  split
  · omega
  · split <;> omega
theorem digV_fig : ∀ n, n < 16 → digV (figB n) = n := by decide +kernel
theorem fig_digV (b : UInt8) (h : 0 ≤ digV b) : figB (digV b).toNat = b := by
  have h2 : ∀ n, n < 256 → 0 ≤ digV (UInt8.ofNat n) → figB (digV (UInt8.ofNat n)).toNat = UInt8.ofNat n := by decide +kernel
  have := h2 b.toNat (UInt8.toNat_lt b)
  rw [UInt8.ofNat_toNat] at this
  exact this h
def goodB (b : UInt8) : Bool := decide (0 ≤ digV b)
/-- two figures each -/
def unhex : List UInt8 → List UInt8
  | a :: b :: r => UInt8.ofNat (16 * (digV a).toNat + (digV b).toNat) :: unhex r
  | _ => []
def getHOk (l : List UInt8) : Bool := decide (l = [45]) || (decide (l.length % 2 = 0 ∧ 0 < l.length ∧ l.length ≤ 80) && l.all goodB)
def getH (l : List UInt8) : List UInt8 := if l = [45] then [] else if getHOk l = true then unhex l else []
theorem unhex_len : ∀ l : List UInt8, (unhex l).length = l.length / 2
  | a :: b :: r => by rw [unhex, List.length_cons, unhex_len r]; simp only [List.length_cons]; omega
  | [a] => by simp [unhex]
  | [] => rfl
theorem unhex_hexL (l : List UInt8) : unhex (hexL l) = l := by
  induction l with
  | nil => rfl
  | cons b l ih =>
    have h1 := UInt8.toNat_lt b
    have e : hexL (b :: l) = figB (b.toNat / 16) :: figB (b.toNat % 16) :: hexL l := rfl
    rw [e, unhex, ih, digV_fig _ (by omega), digV_fig _ (by omega)]
    congr 1
    apply UInt8.toNat_inj.1
    rw [UInt8.toNat_ofNat']
    simp only [Int.toNat_natCast]
    omega
theorem hexL_good (l : List UInt8) : (hexL l).all goodB = true := by
  induction l with
  | nil => rfl
  | cons b l ih =>
    have h1 := UInt8.toNat_lt b
    have e : hexL (b :: l) = figB (b.toNat / 16) :: figB (b.toNat % 16) :: hexL l := rfl
    rw [e, List.all_cons, List.all_cons, ih, goodB, goodB, digV_fig _ (by omega), digV_fig _ (by omega)]
    simp only [Bool.and_true, Bool.and_eq_true, decide_eq_true_eq]
    omega
theorem hexL_unhex : ∀ l : List UInt8, l.length % 2 = 0 → l.all goodB = true → hexL (unhex l) = l
  | [], _, _ => rfl
  | [a], h, _ => by simp at h
  | a :: b :: r, h, hg => by
    rw [List.all_cons, List.all_cons, Bool.and_eq_true, Bool.and_eq_true] at hg
    have ha : 0 ≤ digV a := of_decide_eq_true hg.1
    have hb : 0 ≤ digV b := of_decide_eq_true hg.2.1
    have ih := hexL_unhex r (by simp only [List.length_cons] at h; omega) hg.2.2
    have h1 := digV_lt a
    have h2 := digV_lt b
    have e : hexL (unhex (a :: b :: r)) = figB ((UInt8.ofNat (16 * (digV a).toNat + (digV b).toNat)).toNat / 16) :: figB ((UInt8.ofNat (16 * (digV a).toNat + (digV b).toNat)).toNat % 16) :: hexL (unhex r) := rfl
    have e2 : (UInt8.ofNat (16 * (digV a).toNat + (digV b).toNat)).toNat = 16 * (digV a).toNat + (digV b).toNat := by rw [UInt8.toNat_ofNat']; omega
    rw [e, ih, e2, show (16 * (digV a).toNat + (digV b).toNat) / 16 = (digV a).toNat by omega, show (16 * (digV a).toNat + (digV b).toNat) % 16 = (digV b).toNat by omega, fig_digV a ha, fig_digV b hb]
theorem hexL_ne45 (l : List UInt8) : hexL l ≠ [45] := by
  intro h
  have h1 := hexL_len l
  rw [h] at h1
  simp at h1; omega
theorem getH_putH {l : List UInt8} (h : l.length ≤ 40) : getHOk (putH l) = true ∧ getH (putH l) = l := by
  unfold putH
  rw [if_neg (by omega)]
  by_cases h0 : l = []
  · subst h0; rw [if_pos rfl]; exact ⟨rfl, rfl⟩
  · rw [if_neg h0]
    have hl : 0 < l.length := List.length_pos_iff.2 h0
    have hk : getHOk (hexL l) = true := by
      unfold getHOk
      rw [hexL_good, hexL_len, decide_eq_true (show 2 * l.length % 2 = 0 ∧ 0 < 2 * l.length ∧ 2 * l.length ≤ 80 by omega)]
      simp
    refine ⟨hk, ?_⟩
    unfold getH
    rw [if_neg (hexL_ne45 l), if_pos hk, unhex_hexL]
theorem putH_getH {l : List UInt8} (h : getHOk l = true) : putH (getH l) = l := by
  unfold getH
  by_cases h0 : l = [45]
  · rw [if_pos h0, h0]; rfl
  · rw [if_neg h0, if_pos h]
    unfold getHOk at h
    rw [decide_eq_false h0, Bool.false_or, Bool.and_eq_true, decide_eq_true_eq] at h
    obtain ⟨⟨h1, h2, h3⟩, h4⟩ := h
    have hl := unhex_len l
    unfold putH
    rw [if_neg (by omega), if_neg (by intro e; rw [e] at hl; simp at hl; omega), hexL_unhex l h1 h4]
theorem getH_len (l : List UInt8) : (getH l).length ≤ 40 := by
  unfold getH
  split
  · simp
  · split
    · rename_i h0 h
      unfold getHOk at h
      rw [decide_eq_false h0, Bool.false_or, Bool.and_eq_true, decide_eq_true_eq] at h
      rw [unhex_len]; omega
    · simp
theorem putH_len (l : List UInt8) : (putH l).length ≤ 80 := by
  unfold putH
  split
  · simp
  · split
    · simp
    · rw [hexL_len]; omega
theorem putH_nil {l : List UInt8} : putH l = [] ↔ 40 < l.length := by
  unfold putH
  split
  · simp [*]
  · rename_i h
    split
    · rename_i h0; subst h0; simp
    · rename_i h0
      constructor
      · intro e
        have := hexL_len l
        rw [e] at this
        have : 0 < l.length := List.length_pos_iff.2 h0
        simp at *; omega
      · intro e; omega
theorem unhex_snoc2 (a b : UInt8) : ∀ l : List UInt8, l.length % 2 = 0 → unhex (l ++ [a, b]) = unhex l ++ [UInt8.ofNat (16 * (digV a).toNat + (digV b).toNat)]
  | [], _ => rfl
  | [c], h => by simp at h
  | c :: d :: r, h => by
    have ih := unhex_snoc2 a b r (by simp only [List.length_cons] at h; omega)
    show UInt8.ofNat _ :: unhex (r ++ [a, b]) = _
    rw [ih]; rfl
def digN (l : List UInt8) (i : Nat) : Nat := (digV (l.getD i 0)).toNat
theorem unhex_get : ∀ (l : List UInt8) (m : Nat) (h : m < (unhex l).length), (unhex l)[m] = UInt8.ofNat (16 * digN l (2 * m) + digN l (2 * m + 1))
  | [], m, h => by simp [unhex] at h
  | [c], m, h => by simp [unhex] at h
  | c :: d :: r, 0, h => rfl
  | c :: d :: r, m + 1, h => by
    have hm : m < (unhex r).length := by simp only [unhex, List.length_cons] at h; omega
    have ih := unhex_get r m hm
    have e : (unhex (c :: d :: r))[m + 1] = (unhex r)[m]'hm := by simp only [unhex, List.getElem_cons_succ]
    rw [e, ih]
    rfl
/-- what is written behind k figures -/
def halfAt (l : List UInt8) (k m : Nat) : UInt8 := if 2 * m + 1 < k then UInt8.ofNat (16 * digN l (2 * m) + digN l (2 * m + 1)) else if 2 * m < k then UInt8.ofNat (digN l (2 * m)) else 0
def halfL (l : List UInt8) (n k : Nat) : List UInt8 := (List.range n).map (halfAt l k)
theorem halfL_len (l : List UInt8) (n k : Nat) : (halfL l n k).length = n := by simp [halfL]
theorem halfL_zero (l : List UInt8) (n : Nat) : halfL l n 0 = List.replicate n 0 := by
  apply List.ext_getElem
  · simp [halfL]
  · intro i h1 h2
    simp [halfL, halfAt]
theorem halfL_all {l : List UInt8} (h : l.length % 2 = 0) : halfL l (l.length / 2) l.length = unhex l := by
  apply List.ext_getElem
  · rw [halfL_len, unhex_len]
  · intro i h1 h2
    rw [unhex_get]
    rw [halfL_len] at h1
    simp only [halfL, List.getElem_map, List.getElem_range, halfAt]
    rw [if_pos (by omega)]
theorem digN_lt (l : List UInt8) (i : Nat) : digN l i < 16 := by
  have := digV_lt (l.getD i 0)
  unfold digN; omega
theorem half_step (l : List UInt8) (k : Nat) : (halfAt l k (k / 2)).toNat < 16 ∧ halfAt l (k + 1) (k / 2) = UInt8.ofNat (16 * (halfAt l k (k / 2)).toNat + digN l k) := by
  have h0 := digN_lt l k
  rcases Nat.mod_two_eq_zero_or_one k with h | h
  · have e : halfAt l k (k / 2) = 0 := by unfold halfAt; rw [if_neg (by omega), if_neg (by omega)]
    rw [e]
    refine ⟨by decide, ?_⟩
    unfold halfAt
    rw [if_neg (by omega), if_pos (by omega), show 2 * (k / 2) = k by omega]
    simp
  · have h1 := digN_lt l (2 * (k / 2))
    have e : halfAt l k (k / 2) = UInt8.ofNat (digN l (2 * (k / 2))) := by unfold halfAt; rw [if_neg (by omega), if_pos (by omega)]
    have e2 : (UInt8.ofNat (digN l (2 * (k / 2)))).toNat = digN l (2 * (k / 2)) := by rw [UInt8.toNat_ofNat']; omega
    rw [e, e2]
    refine ⟨h1, ?_⟩
    unfold halfAt
    rw [if_pos (by omega), show 2 * (k / 2) + 1 = k by omega]
theorem half_other (l : List UInt8) (k m : Nat) (h : m ≠ k / 2) : halfAt l (k + 1) m = halfAt l k m := by
  unfold halfAt
  by_cases h1 : 2 * m + 1 < k
  · rw [if_pos h1, if_pos (by omega)]
  · rw [if_neg h1, if_neg (by omega)]
    by_cases h2 : 2 * m < k
    · rw [if_pos h2, if_pos (by omega)]
    · rw [if_neg h2, if_neg (by omega)]
theorem halfL_set (l : List UInt8) (n k : Nat) : halfL l n (k + 1) = (halfL l n k).set (k / 2) (UInt8.ofNat (16 * (halfAt l k (k / 2)).toNat + digN l k)) := by
  apply List.ext_getElem
  · simp [halfL]
  · intro m h1 h2
    rw [List.getElem_set]
    by_cases h : k / 2 = m
    · rw [if_pos h]
      subst h
      simp only [halfL, List.getElem_map, List.getElem_range]
      exact (half_step l k).2
    · rw [if_neg h]
      simp only [halfL, List.getElem_map, List.getElem_range]
      exact half_other l k m (Ne.symm h)
theorem or4 : ∀ x, x < 16 → ∀ d, d < 16 → (x * 16 ||| d) = 16 * x + d := by decide +kernel
end Go.Proofs.YtcegpcggdcgjbaaGreatDoor
