/- Plain facts of stuffing: what is put and what is read back, on lists of bytes. -/
import Derived.Test.YtabdejafmhnaaaaStuffA
import Derived.Test.YtabdejafmhnaaaaBitsR
namespace Go.Proofs.Ytabdejafmhnaaaa
open Go.ChangeShapes Go.WideShapes Go.ChangeAt Go.RowKit
def recS (f : Nat → UInt8 → List UInt8 × Nat) : Nat → List UInt8 → List UInt8
  | _, [] => []
  | n, c :: l => (f n c).1 ++ recS f (f n c).2 l
theorem fold_rec (f : Nat → UInt8 → List UInt8 × Nat) (l : List UInt8) : ∀ p : List UInt8 × Nat, (l.foldl (stuffGo f) p).1 = p.1 ++ recS f p.2 l := by
  induction l with
  | nil => intro p; simp [recS]
  | cons c l ih => intro p; rw [List.foldl_cons, ih]; simp [recS, stuffGo]
theorem stuffS_rec (f : Nat → UInt8 → List UInt8 × Nat) (l : List UInt8) : (stuffS f l).1 = recS f 0 l := by
  have := fold_rec f l ([], 0)
  simpa [stuffS] using this
abbrev putR := recS putStep 0
abbrev getR := recS getStep 0
/-- whether each five ones have a nought behind, from so many ones on -/
def gGood : Nat → List UInt8 → Bool
  | n, [] => decide (n < 5)
  | n, c :: l => if n = 5 then (c == 48) && gGood 0 l else gGood (getStep n c).2 l
theorem bitB_iff (c : UInt8) : bitB c = true ↔ c = 48 ∨ c = 49 := by simp [bitB]
theorem put_nought (n : Nat) (l : List UInt8) : recS putStep n (48 :: l) = 48 :: recS putStep 0 l := by simp [recS, putStep]
theorem put_one (n : Nat) (h : n + 1 ≠ 5) (l : List UInt8) : recS putStep n (49 :: l) = 49 :: recS putStep (n + 1) l := by simp [recS, putStep, h]
theorem put_five (l : List UInt8) : recS putStep 4 (49 :: l) = 49 :: 48 :: recS putStep 0 l := by simp [recS, putStep]
theorem get_nought (n : Nat) (h : n ≠ 5) (l : List UInt8) : recS getStep n (48 :: l) = 48 :: recS getStep 0 l := by simp [recS, getStep, h]
theorem get_one (n : Nat) (h : n ≠ 5) (l : List UInt8) : recS getStep n (49 :: l) = 49 :: recS getStep (n + 1) l := by simp [recS, getStep, h]
theorem get_five (c : UInt8) (l : List UInt8) : recS getStep 5 (c :: l) = recS getStep 0 l := by simp [recS, getStep]
theorem put_get (l : List UInt8) (hl : l.all bitB = true) : (∀ n, n ≤ 4 → (recS putStep n (recS getStep n l) = l ↔ gGood n l = true)) ∧ (48 :: recS putStep 0 (recS getStep 5 l) = l ↔ gGood 5 l = true) := by
  induction l with
  | nil => exact ⟨fun n hn => by simp [recS, gGood]; omega, by simp [recS, gGood]⟩
  | cons c l ih =>
    rw [List.all_cons, Bool.and_eq_true] at hl
    obtain ⟨hc, hl⟩ := hl
    obtain ⟨i1, i2⟩ := ih hl
    constructor
    · intro n hn
      have hn5 : n ≠ 5 := by omega
      rcases (bitB_iff c).1 hc with rfl | rfl
      · rw [get_nought n hn5, put_nought]
        have : gGood n (48 :: l) = gGood 0 l := by simp [gGood, hn5, getStep]
        rw [this, List.cons.injEq, ← i1 0 (by omega)]
        simp
      · rw [get_one n hn5]
        have : gGood n (49 :: l) = gGood (n + 1) l := by simp [gGood, hn5, getStep]
        rw [this]
        by_cases h4 : n = 4
        · subst h4
          rw [put_five, List.cons.injEq, ← i2]
          simp
        · rw [put_one n (by omega), List.cons.injEq, ← i1 (n + 1) (by omega)]
          simp
    · rw [get_five, List.cons.injEq, i1 0 (by omega)]
      simp only [gGood, if_true, Bool.and_eq_true, beq_iff_eq]
      constructor
      · rintro ⟨h1, h2⟩; exact ⟨h1.symm, h2⟩
      · rintro ⟨h1, h2⟩; exact ⟨h1.symm, h2⟩
theorem get_put (l : List UInt8) (hl : l.all bitB = true) : ∀ n, n ≤ 4 → recS getStep n (recS putStep n l) = l := by
  induction l with
  | nil => intro n _; rfl
  | cons c l ih =>
    rw [List.all_cons, Bool.and_eq_true] at hl
    obtain ⟨hc, hl⟩ := hl
    intro n hn
    have hn5 : n ≠ 5 := by omega
    rcases (bitB_iff c).1 hc with rfl | rfl
    · rw [put_nought, get_nought n hn5, ih hl 0 (by omega)]
    · by_cases h4 : n = 4
      · subst h4
        rw [put_five, get_one 4 (by omega), get_five, ih hl 0 (by omega)]
      · rw [put_one n (by omega), get_one n hn5, ih hl (n + 1) (by omega)]
theorem recS_bits (f : Nat → UInt8 → List UInt8 × Nat) (hf : ∀ n c, (f n c).1.all bitB = true) (l : List UInt8) : ∀ n, (recS f n l).all bitB = true := by
  induction l with
  | nil => intro n; rfl
  | cons c l ih => intro n; rw [recS, List.all_append, hf, ih]; rfl
theorem put_cases (n : Nat) (c : UInt8) : putStep n c = ([48], 0) ∨ (n + 1 = 5 ∧ putStep n c = ([49, 48], 0)) ∨ (n + 1 ≠ 5 ∧ putStep n c = ([49], n + 1)) := by
  unfold putStep
  by_cases h : c = 48
  · exact .inl (if_pos h)
  · rw [if_neg h]
    by_cases h5 : n + 1 = 5
    · exact .inr (.inl ⟨h5, if_pos h5⟩)
    · exact .inr (.inr ⟨h5, if_neg h5⟩)
theorem get_cases (n : Nat) (c : UInt8) : getStep n c = ([48], 0) ∨ getStep n c = ([], 0) ∨ getStep n c = ([49], n + 1) := by
  unfold getStep
  by_cases h5 : n = 5
  · exact .inr (.inl (if_pos h5))
  · rw [if_neg h5]
    by_cases h : c = 49
    · exact .inr (.inr (if_pos h))
    · exact .inl (if_neg h)
theorem put_bits (l : List UInt8) (n : Nat) : (recS putStep n l).all bitB = true := recS_bits _ (fun n c => by
  rcases put_cases n c with h | ⟨_, h⟩ | ⟨_, h⟩ <;> rw [h] <;> rfl) l n
theorem get_bits (l : List UInt8) (n : Nat) : (recS getStep n l).all bitB = true := recS_bits _ (fun n c => by
  rcases get_cases n c with h | h | h <;> rw [h] <;> rfl) l n
theorem put_len (l : List UInt8) : ∀ n, n ≤ 4 → l.length ≤ (recS putStep n l).length ∧ 5 * (recS putStep n l).length ≤ 6 * l.length + n := by
  induction l with
  | nil => intro n _; simp [recS]
  | cons c l ih =>
    intro n hn
    rw [recS, List.length_append, List.length_cons]
    rcases put_cases n c with h | ⟨_, h⟩ | ⟨_, h⟩ <;> rw [h] <;> simp only [List.length_cons, List.length_nil]
    · have := ih 0 (by omega); omega
    · have := ih 0 (by omega); omega
    · have := ih (n + 1) (by omega); omega
theorem get_len (l : List UInt8) : ∀ n, (recS getStep n l).length ≤ l.length := by
  induction l with
  | nil => intro n; simp [recS]
  | cons c l ih =>
    intro n
    rw [recS, List.length_append, List.length_cons]
    rcases get_cases n c with h | h | h <;> rw [h] <;> simp only [List.length_cons, List.length_nil]
    · have := ih 0; omega
    · have := ih 0; omega
    · have := ih (n + 1); omega
theorem put_run (l : List UInt8) (hl : l.all bitB = true) : ∀ n m, n ≤ 4 → m ≤ 5 → ((recS putStep n l).foldl runStep (m, n)).1 ≤ 5 := by
  induction l with
  | nil => intro n m _ hm; exact hm
  | cons c l ih =>
    rw [List.all_cons, Bool.and_eq_true] at hl
    obtain ⟨hc, hl⟩ := hl
    intro n m hn hm
    rcases (bitB_iff c).1 hc with rfl | rfl
    · rw [put_nought, List.foldl_cons]
      exact ih hl 0 m (by omega) hm
    · by_cases h4 : n = 4
      · subst h4
        rw [put_five, List.foldl_cons, List.foldl_cons]
        exact ih hl 0 (max m 5) (by omega) (by omega)
      · rw [put_one n (by omega), List.foldl_cons]
        exact ih hl (n + 1) (max m (n + 1)) (by omega) (by omega)
theorem put_none (l : List UInt8) (hl : l.all bitB = true) : ∀ n m, n ≤ 4 → m ≤ 4 → ((recS putStep n l).length = l.length ↔ (l.foldl runStep (m, n)).1 < 5) := by
  induction l with
  | nil => intro n m _ hm; simp [recS]; omega
  | cons c l ih =>
    rw [List.all_cons, Bool.and_eq_true] at hl
    obtain ⟨hc, hl⟩ := hl
    intro n m hn hm
    rcases (bitB_iff c).1 hc with rfl | rfl
    · rw [put_nought, List.foldl_cons, List.length_cons, List.length_cons]
      have := ih hl 0 m (by omega) hm
      rw [show runStep (m, n) 48 = (m, 0) from rfl, ← this]
      omega
    · by_cases h4 : n = 4
      · subst h4
        rw [put_five, List.foldl_cons, List.length_cons, List.length_cons, List.length_cons]
        have h1 := (put_len l 0 (by omega)).1
        have h2 := run_fold_ge l (runStep (m, 4) 49)
        have h3 : (runStep (m, 4) 49).1 ≥ 5 := by show max m 5 ≥ 5; omega
        omega
      · rw [put_one n (by omega), List.foldl_cons, List.length_cons, List.length_cons]
        have := ih hl (n + 1) (max m (n + 1)) (by omega) (by omega)
        rw [show runStep (m, n) 49 = (max m (n + 1), n + 1) from rfl, ← this]
        omega
/-- what StuffPut answers, and StuffGet -/
def putA (l : List UInt8) : List UInt8 := if okB l = true then putR l else []
def getA (l : List UInt8) : List UInt8 := if putA (getR l) = l then getR l else []
def getOk (l : List UInt8) : Bool := decide (putA (getR l) = l)
theorem ok_bits {l : List UInt8} (h : okB l = true) : l.all bitB = true := by unfold okB at h; exact (Bool.and_eq_true_iff.1 h).1
theorem ok_len {l : List UInt8} (h : okB l = true) : l.length ≤ 1200 := by unfold okB at h; simpa using (Bool.and_eq_true_iff.1 h).2
theorem ok_of {l : List UInt8} (h : l.all bitB = true) (h2 : l.length ≤ 1200) : okB l = true := by unfold okB; rw [h]; simpa using h2
/-- the model's way to decide it -/
theorem getOk_iff (l : List UInt8) : getOk l = true ↔ l.all bitB = true ∧ l.length ≤ 1440 ∧ gGood 0 l = true ∧ okB (getR l) = true := by
  unfold getOk
  rw [decide_eq_true_iff]
  constructor
  · intro h
    by_cases hk : okB (getR l) = true
    · rw [putA, if_pos hk] at h
      have hb : l.all bitB = true := by rw [← h]; exact put_bits _ _
      refine ⟨hb, ?_, ((put_get l hb).1 0 (by omega)).1 h, hk⟩
      have h1 := (put_len (getR l) 0 (by omega)).2
      have h2 := ok_len hk
      rw [show recS putStep 0 (getR l) = l from h] at h1
      omega
    · rw [putA, if_neg hk] at h
      subst h
      exact absurd rfl hk
  · rintro ⟨h1, h2, h3, h4⟩
    rw [putA, if_pos h4]
    exact ((put_get l h1).1 0 (by omega)).2 h3
theorem getOk_put {l : List UInt8} (h : okB l = true) : putA (getR (putR l)) = putR l ∧ getR (putR l) = l := by
  have h1 : getR (putR l) = l := get_put l (ok_bits h) 0 (by omega)
  exact ⟨by rw [h1, putA, if_pos h], h1⟩
end Go.Proofs.Ytabdejafmhnaaaa
