/- Plain facts on runs of ones, filling, pieces of bits. -/
import Derived.Test.YtabdejafmhnaaaaBitsC
import Derived.Lib.Strings
namespace Go.Proofs.Ytabdejafmhnaaaa
open Go.ChangeShapes Go.WideShapes Go.ChangeAt Go.RowKit
theorem runStep_mono {p q : Nat × Nat} (h1 : p.1 ≤ q.1) (h2 : p.2 ≤ q.2) (b : UInt8) : (runStep p b).1 ≤ (runStep q b).1 ∧ (runStep p b).2 ≤ (runStep q b).2 := by
  unfold runStep
  split
  · simp; omega
  · simp; omega
theorem run_fold_mono (l : List UInt8) {p q : Nat × Nat} (h1 : p.1 ≤ q.1) (h2 : p.2 ≤ q.2) : (l.foldl runStep p).1 ≤ (l.foldl runStep q).1 ∧ (l.foldl runStep p).2 ≤ (l.foldl runStep q).2 := by
  induction l generalizing p q with
  | nil => exact ⟨h1, h2⟩
  | cons b l ih =>
    have := runStep_mono h1 h2 b
    exact ih this.1 this.2
theorem run_fold_ge (l : List UInt8) (p : Nat × Nat) : p.1 ≤ (l.foldl runStep p).1 := by
  induction l generalizing p with
  | nil => exact Nat.le_refl _
  | cons b l ih =>
    refine Nat.le_trans ?_ (ih _)
    unfold runStep; split <;> simp; omega
theorem run_fold_upper (m c : Nat) (l : List UInt8) (p q : Nat × Nat) (h1 : p.1 ≤ max m (c + q.1)) (h2 : p.2 ≤ c + q.2) (h3 : q.2 ≤ q.1) :
    (l.foldl runStep p).1 ≤ max m (c + (l.foldl runStep q).1) := by
  induction l generalizing p q with
  | nil => exact h1
  | cons b l ih =>
    rw [List.foldl_cons, List.foldl_cons]
    refine ih _ _ ?_ ?_ ?_
    · unfold runStep; split <;> simp <;> omega
    · unfold runStep; split <;> simp; omega
    · unfold runStep; split <;> simp; omega
theorem runS_le' (l : List UInt8) : (runS l).2 ≤ (runS l).1 := by
  unfold runS
  suffices h : ∀ (l : List UInt8) (p : Nat × Nat), p.2 ≤ p.1 → (l.foldl runStep p).2 ≤ (l.foldl runStep p).1 from h l (0, 0) (Nat.le_refl _)
  intro l
  induction l with
  | nil => intro p h; exact h
  | cons b l ih =>
    intro p h
    refine ih _ ?_
    unfold runStep; split <;> simp; omega
theorem run_append (a b : List UInt8) : runN a ≤ runN (a ++ b) ∧ runN b ≤ runN (a ++ b) ∧ runN (a ++ b) ≤ runN a + runN b := by
  have e : runN (a ++ b) = (b.foldl runStep (runS a)).1 := by simp [runN, runS, List.foldl_append]
  have h3 := run_fold_upper (runS a).1 (runS a).2 b (runS a) (0, 0) (by simp; omega) (by simp) (by simp)
  have h4 := runS_le' a
  refine ⟨by rw [e]; exact run_fold_ge b _, by rw [e]; exact (run_fold_mono b (Nat.zero_le _) (Nat.zero_le _)).1, ?_⟩
  rw [e]
  have : (b.foldl runStep (0, 0)).1 = runN b := rfl
  rw [this] at h3
  have : (runS a).1 = runN a := rfl
  omega
theorem ok_take {l : List UInt8} (h : okB l = true) (k : Nat) : okB (l.take k) = true := by
  unfold okB at h ⊢
  rw [Bool.and_eq_true, decide_eq_true_iff] at h ⊢
  refine ⟨List.all_eq_true.2 fun x hx => List.all_eq_true.1 h.1 x (List.mem_of_mem_take hx), ?_⟩
  rw [List.length_take]; omega
theorem ok_drop {l : List UInt8} (h : okB l = true) (k : Nat) : okB (l.drop k) = true := by
  unfold okB at h ⊢
  rw [Bool.and_eq_true, decide_eq_true_iff] at h ⊢
  refine ⟨List.all_eq_true.2 fun x hx => List.all_eq_true.1 h.1 x (List.mem_of_mem_drop hx), ?_⟩
  rw [List.length_drop]; omega
theorem ext_take (s : ByteArray) (k : Nat) : (s.extract 0 k).data.toList = s.data.toList.take k := by
  rw [Lib.extract_data]; simp
theorem ext_drop (s : ByteArray) (k : Nat) : (s.extract k s.size).data.toList = s.data.toList.drop k := by
  rw [Lib.extract_data, List.take_of_length_le (by simp)]
theorem runN_ones (n : Nat) : runN (List.replicate n 49) = n := by
  have h : ∀ n m, ((List.replicate n (49 : UInt8)).foldl runStep (m, m)) = (m + n, m + n) := by
    intro n
    induction n with
    | zero => intro m; rfl
    | succ n ih =>
      intro m
      rw [List.replicate_succ, List.foldl_cons, show runStep (m, m) 49 = (m + 1, m + 1) by simp [runStep], ih]
      simp; omega
  have := h n 0
  simp at this
  simp [runN, runS, this]
theorem fill_len (l : List UInt8) : (fillL l).length % 8 = 0 ∧ l.length ≤ (fillL l).length ∧ (fillL l).length < l.length + 8 := by
  unfold fillL lackN
  simp only [List.length_append, List.length_replicate]
  omega
theorem fill_ok {l : List UInt8} (h : okB l = true) : okB (fillL l) = true := by
  have hf := fill_len l
  unfold okB at h ⊢
  rw [Bool.and_eq_true, decide_eq_true_iff] at h ⊢
  refine ⟨?_, by omega⟩
  unfold fillL
  rw [List.all_append, h.1]
  simp [bitB]
theorem fill_idem (l : List UInt8) : fillL (fillL l) = fillL l := by
  have hf := (fill_len l).1
  have e : ∀ m : List UInt8, m.length % 8 = 0 → fillL m = m := fun m hm => by
    unfold fillL
    rw [show lackN m.length = 0 by unfold lackN; omega]
    simp
  exact e _ hf
theorem fill_take (l : List UInt8) : (fillL l).take l.length = l := by unfold fillL; rw [List.take_left]
theorem fill_drop (l : List UInt8) : (fillL l).drop l.length = List.replicate ((fillL l).length - l.length) 49 := by
  unfold fillL; rw [List.drop_left, List.length_append, List.length_replicate]
  congr 1; omega
end Go.Proofs.Ytabdejafmhnaaaa
