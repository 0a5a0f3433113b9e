/- Numbers in bytes of seven bits, plainly (no program in this text). -/
import Derived.Test.YthbijeicdjpbeaaKitA
namespace Go.Proofs.Ythbijeicdjpbeaa
def putV (n : Nat) : List UInt8 := if h : n < 128 then [UInt8.ofNat n] else UInt8.ofNat (n % 128 + 128) :: putV (n / 128)
termination_by n
decreasing_by omega
theorem putV_lt {n : Nat} (h : n < 128) : putV n = [UInt8.ofNat n] := by rw [putV, dif_pos h]
theorem putV_ge {n : Nat} (h : 128 ≤ n) : putV n = UInt8.ofNat (n % 128 + 128) :: putV (n / 128) := by rw [putV, dif_neg (by omega)]
theorem putV_len : ∀ (k n : Nat), n < 128 ^ (k + 1) → 1 ≤ (putV n).length ∧ (putV n).length ≤ k + 1
  | 0, n, h => by rw [putV_lt (by simpa using h)]; simp
  | k + 1, n, h => by
    by_cases h1 : n < 128
    · rw [putV_lt h1]; simp
    · have h2 : n / 128 < 128 ^ (k + 1) := by
        rw [Nat.pow_succ] at h
        exact Nat.div_lt_of_lt_mul (by omega)
      have := putV_len k (n / 128) h2
      rw [putV_ge (by omega), List.length_cons]
      omega
theorem putV_nine {n : Nat} (h : n < 9223372036854775808) : 1 ≤ (putV n).length ∧ (putV n).length ≤ 9 := putV_len 8 n (by simpa using h)
def putVI (n : Int) : List UInt8 := if n < 0 then [] else putV n.toNat
theorem putVI_len {n : Int} (h : n ≤ 9223372036854775807) : (putVI n).length ≤ 9 := by
  unfold putVI
  split
  · simp
  · exact (putV_nine (by omega)).2
/-- the number of bytes of seven bits each -/
def valL : List UInt8 → Nat
  | [] => 0
  | b :: r => b.toNat % 128 + 128 * valL r
theorem valL_append : ∀ (a b : List UInt8), valL (a ++ b) = valL a + 128 ^ a.length * valL b
  | [], b => by simp [valL]
  | x :: a, b => by
    rw [List.cons_append, valL, valL, valL_append a b, List.length_cons, Nat.pow_succ, Nat.mul_add]
    have : 128 ^ a.length * 128 * valL b = 128 * (128 ^ a.length * valL b) := by rw [Nat.mul_comm (128 ^ a.length) 128, Nat.mul_assoc]
    omega
theorem valL_lt : ∀ a : List UInt8, valL a < 128 ^ a.length
  | [] => by simp [valL]
  | x :: a => by
    have := valL_lt a
    rw [valL, List.length_cons, Nat.pow_succ]
    omega
theorem valL_putV : ∀ n : Nat, valL (putV n) = n := by
  intro n
  induction n using Nat.strongRecOn with
  | _ n ih =>
    by_cases h : n < 128
    · rw [putV_lt h]
      simp only [valL, UInt8.toNat_ofNat']
      omega
    · rw [putV_ge (by omega), valL, ih (n / 128) (by omega), UInt8.toNat_ofNat']
      omega
/-- how many bytes at the beginning have more behind them, at most so many -/
def kV : Nat → List UInt8 → Nat
  | 0, _ => 0
  | _ + 1, [] => 0
  | f + 1, b :: r => if 128 ≤ b.toNat then 1 + kV f r else 0
theorem kV_le : ∀ (f : Nat) (t : List UInt8), kV f t ≤ f ∧ kV f t ≤ t.length
  | 0, t => by simp [kV]
  | f + 1, [] => by simp [kV]
  | f + 1, b :: r => by
    have := kV_le f r
    rw [kV, List.length_cons]
    split <;> omega
theorem kV_at : ∀ (f : Nat) (t : List UInt8) (i : Nat), i ≤ f → i < t.length → (∀ j, (h : j < t.length) → j < i → 128 ≤ t[j].toNat) → (i < f → (h : i < t.length) → t[i].toNat < 128) → kV f t = i
  | 0, t, i, hi, _, _, _ => by simp [kV]; omega
  | f + 1, [], i, _, h, _, _ => by simp at h
  | f + 1, b :: r, 0, _, _, _, h => by
    have := h (by omega) (by simp)
    rw [kV, if_neg (by simpa using this)]
  | f + 1, b :: r, i + 1, hi, hl, ha, h => by
    have h0 := ha 0 (by simp) (by omega)
    rw [kV, if_pos (by simpa using h0), kV_at f r i (by omega) (by simpa using hl) (fun j hj hji => by
      have := ha (j + 1) (by simp; omega) (by omega)
      simpa using this) (fun hif hh => by
      have := h (by omega) (by simp; omega)
      simpa using this)]
    omega
theorem kV_all : ∀ (f : Nat) (t : List UInt8), (∀ b ∈ t, 128 ≤ b.toNat) → t.length ≤ f → kV f t = t.length
  | 0, t, _, h => by rw [kV]; omega
  | f + 1, [], _, _ => by simp [kV]
  | f + 1, b :: r, ha, h => by
    rw [kV, if_pos (ha b (by simp)), kV_all f r (fun x hx => ha x (by simp [hx])) (by simpa using h), List.length_cons]
    omega
def okV (t : List UInt8) : Bool := match t[kV 8 t]? with
  | none => false
  | some b => decide (b.toNat < 128) && !(decide (b.toNat = 0) && decide (0 < kV 8 t))
def getV (t : List UInt8) : Nat × Nat := if okV t = true then (valL (t.take (kV 8 t + 1)), kV 8 t + 1) else (0, 0)
theorem kV_put : ∀ (f n : Nat) (m : List UInt8), n < 128 ^ (f + 1) → kV f (putV n ++ m) + 1 = (putV n).length
  | f, n, m, h => by
    by_cases h1 : n < 128
    · rw [putV_lt h1]
      have : (UInt8.ofNat n).toNat = n := by rw [UInt8.toNat_ofNat']; omega
      cases f with
      | zero => simp [kV]
      | succ f => rw [List.cons_append, kV, if_neg (by omega)]; simp
    · cases f with
      | zero => simp at h; omega
      | succ f =>
        have h2 : n / 128 < 128 ^ (f + 1) := by
          rw [Nat.pow_succ] at h
          exact Nat.div_lt_of_lt_mul (by omega)
        have ih := kV_put f (n / 128) m h2
        rw [putV_ge (by omega), List.cons_append, kV, if_pos (by rw [UInt8.toNat_ofNat']; omega), List.length_cons]
        omega
theorem putV_last : ∀ n : Nat, ∃ b, (putV n).getLast? = some b ∧ b.toNat < 128 ∧ (b.toNat = 0 → (putV n).length = 1) := by
  intro n
  induction n using Nat.strongRecOn with
  | _ n ih =>
    by_cases h : n < 128
    · rw [putV_lt h]
      exact ⟨UInt8.ofNat n, rfl, by rw [UInt8.toNat_ofNat']; omega, fun _ => rfl⟩
    · obtain ⟨b, h1, h2, h3⟩ := ih (n / 128) (by omega)
      rw [putV_ge (by omega)]
      refine ⟨b, ?_, h2, ?_⟩
      · rw [List.getLast?_cons, h1]; rfl
      · intro h0
        exfalso
        have h4 := h3 h0
        by_cases h5 : n / 128 < 128
        · rw [putV_lt h5] at h1
          simp only [List.getLast?_singleton, Option.some.injEq] at h1
          rw [← h1, UInt8.toNat_ofNat'] at h0
          omega
        · rw [putV_ge (by omega), List.length_cons] at h4
          have h6 : 1 ≤ (putV (n / 128 / 128)).length := by
            rw [putV]; split <;> simp
          omega
theorem getV_put {n : Nat} (h : n < 9223372036854775808) (m : List UInt8) : okV (putV n ++ m) = true ∧ getV (putV n ++ m) = (n, (putV n).length) := by
  have hk := kV_put 8 n m (by simpa using h)
  obtain ⟨b, h1, h2, h3⟩ := putV_last n
  have hlen := putV_nine h
  have hg : (putV n ++ m)[kV 8 (putV n ++ m)]? = some b := by
    rw [List.getElem?_append_left (by omega), show kV 8 (putV n ++ m) = (putV n).length - 1 by omega, ← List.getLast?_eq_getElem?, h1]
  have hok : okV (putV n ++ m) = true := by
    unfold okV
    rw [hg]
    simp only [Bool.and_eq_true, decide_eq_true_eq, Bool.not_eq_true', Bool.and_eq_false_iff, decide_eq_false_iff_not]
    refine ⟨h2, ?_⟩
    by_cases h0 : b.toNat = 0
    · right; have := h3 h0; omega
    · left; exact h0
  refine ⟨hok, ?_⟩
  unfold getV
  rw [if_pos hok, hk, List.take_left, valL_putV]
theorem putV_val : ∀ (l : List UInt8) (b : UInt8), (∀ x ∈ l, 128 ≤ x.toNat) → b.toNat < 128 → (l ≠ [] → b.toNat ≠ 0) → putV (valL (l ++ [b])) = l ++ [b] ∧ (b.toNat ≠ 0 → valL (l ++ [b]) ≠ 0)
  | [], b, _, hb, _ => by
    simp only [List.nil_append, valL]
    rw [Nat.mod_eq_of_lt hb, putV_lt (by omega)]
    simp
  | x :: l, b, ha, hb, h0 => by
    have hx := ha x (by simp)
    have hx2 := UInt8.toNat_lt x
    have hb0 := h0 (by simp)
    obtain ⟨h1, h2⟩ := putV_val l b (fun y hy => ha y (by simp [hy])) hb (fun _ => hb0)
    have h3 := h2 hb0
    rw [List.cons_append, valL]
    refine ⟨?_, fun _ => by omega⟩
    rw [putV_ge (by omega), show (x.toNat % 128 + 128 * valL (l ++ [b])) / 128 = valL (l ++ [b]) by omega, h1]
    congr 1
    apply UInt8.toNat_inj.1
    rw [UInt8.toNat_ofNat']
    omega
theorem kV_ge : ∀ (f : Nat) (t : List UInt8) (j : Nat) (h : j < t.length), j < kV f t → 128 ≤ t[j].toNat
  | 0, t, j, h, hk => by simp [kV] at hk
  | f + 1, [], j, h, hk => by simp at h
  | f + 1, b :: r, j, h, hk => by
    rw [kV] at hk
    split at hk
    · rename_i hb
      cases j with
      | zero => simpa using hb
      | succ j => simpa using kV_ge f r j (by simpa using h) (by omega)
    · omega
theorem okV_get {t : List UInt8} (h : okV t = true) : ∃ hk : kV 8 t < t.length, t[kV 8 t].toNat < 128 ∧ (t[kV 8 t].toNat = 0 → kV 8 t = 0) := by
  unfold okV at h
  split at h
  · cases h
  · rename_i b hb
    obtain ⟨hk, hg⟩ := List.getElem?_eq_some_iff.1 hb
    simp only [Bool.and_eq_true, decide_eq_true_eq, Bool.not_eq_true', Bool.and_eq_false_iff, decide_eq_false_iff_not] at h
    refine ⟨hk, by rw [hg]; exact h.1, ?_⟩
    rw [hg]
    intro h0
    rcases h.2 with h2 | h2
    · exact absurd h0 h2
    · omega
theorem okV_of {t : List UInt8} (hk : kV 8 t < t.length) (h1 : t[kV 8 t].toNat < 128) (h2 : t[kV 8 t].toNat = 0 → kV 8 t = 0) : okV t = true := by
  unfold okV
  rw [List.getElem?_eq_getElem hk]
  simp only [Bool.and_eq_true, decide_eq_true_eq, Bool.not_eq_true', Bool.and_eq_false_iff, decide_eq_false_iff_not]
  refine ⟨h1, ?_⟩
  by_cases h0 : t[kV 8 t].toNat = 0
  · right; have := h2 h0; omega
  · left; exact h0
theorem take_snoc {t : List UInt8} {k : Nat} (h : k < t.length) : t.take (k + 1) = t.take k ++ [t[k]] := by
  rw [List.take_add_one, List.getElem?_eq_getElem h]; rfl
theorem putV_getV {t : List UInt8} (h : okV t = true) : putV (getV t).1 = t.take (getV t).2 ∧ (getV t).2 ≠ 0 ∧ (getV t).2 ≤ t.length ∧ (getV t).1 < 9223372036854775808 := by
  obtain ⟨hk, h1, h2⟩ := okV_get h
  have hf := (kV_le 8 t).1
  unfold getV
  rw [if_pos h]
  simp only
  have hv := valL_lt (t.take (kV 8 t + 1))
  rw [take_snoc hk] at hv ⊢
  refine ⟨(putV_val (t.take (kV 8 t)) t[kV 8 t] ?_ h1 ?_).1, by omega, by omega, ?_⟩
  · intro x hx
    obtain ⟨j, hj, rfl⟩ := List.getElem_of_mem hx
    rw [List.length_take] at hj
    rw [List.getElem_take]
    exact kV_ge 8 t j (by omega) (by omega)
  · intro hn h0
    apply hn
    rw [h2 h0]; rfl
  · refine Nat.lt_of_lt_of_le hv ?_
    rw [List.length_append, List.length_take]
    show 128 ^ (min (kV 8 t) t.length + 1) ≤ 9223372036854775808
    calc 128 ^ (min (kV 8 t) t.length + 1) ≤ 128 ^ 9 := Nat.pow_le_pow_right (by omega) (by omega)
      _ = 9223372036854775808 := by decide
theorem getV_no {t : List UInt8} (h : okV t = false) : getV t = (0, 0) := by unfold getV; rw [h]; rfl
theorem getV_yes {t : List UInt8} (h : okV t = true) : getV t = (valL (t.take (kV 8 t + 1)), kV 8 t + 1) := by unfold getV; rw [if_pos h]
end Go.Proofs.Ythbijeicdjpbeaa
