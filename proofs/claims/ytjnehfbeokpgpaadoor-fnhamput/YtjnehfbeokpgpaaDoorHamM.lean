/- Plain facts for the laws of groups: a bit turned in each. -/
import Derived.Test.YtjnehfbeokpgpaaDoorHamK
namespace Go.Proofs.YtjnehfbeokpgpaaDoor
open Go.ChangeShapes Go.WideShapes Go.ChangeAt Go.RowKit
theorem turnL_len (l : List UInt8) (j : Nat) : (turnL l j).length = l.length := by unfold turnL; rw [List.length_set]
theorem turnL_bits {l : List UInt8} (h : ∀ x ∈ l, bitB x = true) (j : Nat) : ∀ x ∈ turnL l j, bitB x = true := by
  intro x hx
  unfold turnL at hx
  rcases List.mem_or_eq_of_mem_set hx with hx | rfl
  · exact h x hx
  · exact flipB_bit _
theorem turnL_ok {l : List UInt8} (h : okB l = true) (j : Nat) : okB (turnL l j) = true := by
  rw [okB_iff] at h ⊢
  exact ⟨turnL_bits h.1 j, by rw [turnL_len]; exact h.2⟩
/-- the same bit turned in each group -/
def bendC (c : Nat) : List UInt8 → List UInt8
  | a :: b :: d :: e :: g :: h :: i :: r => turnL [a, b, d, e, g, h, i] c ++ bendC c r
  | _ => []
theorem bendC_seven (c : Nat) (a b d e g h i : UInt8) (r : List UInt8) : bendC c (a :: b :: d :: e :: g :: h :: i :: r) = turnL [a, b, d, e, g, h, i] c ++ bendC c r := rfl
theorem bendC_is (c : Nat) : ∀ l : List UInt8, l.length % 7 = 0 → ∀ j, bendL (fun _ => c) j l = bendC c l :=
  by_sevens (fun _ => rfl) fun a b d e g h i r hr ih j => by
    rw [bendC_seven, ← ih (j + 1)]; rfl
theorem bendC_append (c : Nat) (b : List UInt8) : ∀ a : List UInt8, a.length % 7 = 0 → bendC c (a ++ b) = bendC c a ++ bendC c b :=
  by_sevens (by simp [bendC]) fun x1 x2 x3 x4 x5 x6 x7 r hr ih => by
    rw [show x1 :: x2 :: x3 :: x4 :: x5 :: x6 :: x7 :: r ++ b = x1 :: x2 :: x3 :: x4 :: x5 :: x6 :: x7 :: (r ++ b) from rfl, bendC_seven, bendC_seven, ih, List.append_assoc]
theorem bendC_len (c : Nat) : ∀ l : List UInt8, l.length % 7 = 0 → (bendC c l).length = l.length :=
  by_sevens rfl fun a b d e g h i r hr ih => by
    rw [bendC_seven, List.length_append, turnL_len, ih]; simp only [List.length_cons, List.length_nil]; omega
/-- bent so far: k groups -/
def bendUp (c : Nat) (T : List UInt8) (k : Nat) : List UInt8 := bendC c (T.take (7 * k)) ++ T.drop (7 * k)
theorem bendUp_zero (c : Nat) (T : List UInt8) : bendUp c T 0 = T := by simp [bendUp, bendC]
theorem bendUp_all (c : Nat) (T : List UInt8) (k : Nat) (h : T.length ≤ 7 * k) : bendUp c T k = bendC c T := by
  unfold bendUp
  rw [List.take_of_length_le h, List.drop_of_length_le h, List.append_nil]
theorem bendUp_len (c : Nat) (T : List UInt8) (k : Nat) (h7 : T.length % 7 = 0) : (bendUp c T k).length = T.length := by
  unfold bendUp
  rw [List.length_append, bendC_len c _ (by rw [List.length_take]; omega), List.length_take, List.length_drop]
  omega
theorem turn_right (a b : List UInt8) (n : Nat) : turnL (a ++ b) (a.length + n) = a ++ turnL b n := by
  unfold turnL
  rw [List.set_append_right _ _ (by omega), Nat.add_sub_cancel_left]
  congr 3
  rw [List.getD_eq_getElem?_getD, List.getElem?_append_right (by omega), Nat.add_sub_cancel_left, ← List.getD_eq_getElem?_getD]
theorem turn_left (a b : List UInt8) (n : Nat) (h : n < a.length) : turnL (a ++ b) n = turnL a n ++ b := by
  unfold turnL
  rw [List.set_append_left _ _ h]
  congr 3
  rw [List.getD_eq_getElem?_getD, List.getElem?_append_left h, ← List.getD_eq_getElem?_getD]
theorem bendUp_step (c : Nat) (T : List UInt8) (k : Nat) (h7 : T.length % 7 = 0) (hk : 7 * k < T.length) (hc : c < 7) : bendUp c T (k + 1) = turnL (bendUp c T k) (7 * k + c) := by
  obtain ⟨x1, x2, x3, x4, x5, x6, x7, r, hr⟩ := seven_of (T.drop (7 * k)) (by intro h; have := congrArg List.length h; rw [List.length_drop] at this; simp at this; omega) (by rw [List.length_drop]; omega)
  have hl : (bendC c (T.take (7 * k))).length = 7 * k := by rw [bendC_len c _ (by rw [List.length_take]; omega), List.length_take]; omega
  have e1 : T.take (7 * (k + 1)) = T.take (7 * k) ++ [x1, x2, x3, x4, x5, x6, x7] := by
    rw [show 7 * (k + 1) = 7 * k + 7 by omega, List.take_add, hr]; rfl
  have e2 : T.drop (7 * (k + 1)) = r := by
    rw [show 7 * (k + 1) = 7 * k + 7 by omega, ← List.drop_drop, hr]; rfl
  unfold bendUp
  rw [e1, e2, bendC_append c _ _ (by rw [List.length_take]; omega), hr]
  have e3 := turn_right (bendC c (T.take (7 * k))) (x1 :: x2 :: x3 :: x4 :: x5 :: x6 :: x7 :: r) c
  rw [hl] at e3
  rw [e3, show x1 :: x2 :: x3 :: x4 :: x5 :: x6 :: x7 :: r = [x1, x2, x3, x4, x5, x6, x7] ++ r from rfl, turn_left _ _ _ (by exact hc), List.append_assoc]
  congr 1
  simp [bendC]
theorem unham_bendC (c : Nat) (hc : c < 7) (l : List UInt8) (h4 : l.length % 4 = 0) (hl : ∀ x ∈ l, bitB x = true) : unhamL (bendC c (hamL l)) = (l, l.length / 4) := by
  have h := unham_bend (fun _ => c) (fun _ => hc) l h4 hl 0
  rwa [bendC_is c _ (by rw [hamL_len l h4]; omega)] at h
end Go.Proofs.YtjnehfbeokpgpaaDoor
