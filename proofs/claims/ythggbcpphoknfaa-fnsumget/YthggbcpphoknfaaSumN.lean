/- Plain mathematics of the checksums, second part: linearity in the bytes, the residue, single errors. -/
import Derived.Test.YthggbcpphoknfaaSumH
namespace Go.Proofs.Ythggbcpphoknfaa

def xorL (l m : List UInt8) : List UInt8 := List.zipWith (· ^^^ ·) l m
theorem crcB_xor2 (p a b : Nat) (x y : UInt8) : crcB p (a ^^^ b) (x ^^^ y) = crcB p a x ^^^ crcB p b y := by
  unfold crcB
  rw [UInt8.toNat_xor, show a ^^^ b ^^^ (x.toNat ^^^ y.toNat) = (a ^^^ x.toNat) ^^^ (b ^^^ y.toNat) by
    rw [Nat.xor_assoc, Nat.xor_assoc, ← Nat.xor_assoc b, Nat.xor_comm b, Nat.xor_assoc], stpN_xor]
theorem crc_xor2 (p a b : Nat) (l m : List UInt8) (h : l.length = m.length) : crc p (a ^^^ b) (xorL l m) = crc p a l ^^^ crc p b m := by
  induction l generalizing a b m with
  | nil => cases m with | nil => rfl | cons y m => simp at h
  | cons x l ih =>
    cases m with
    | nil => simp at h
    | cons y m =>
      simp only [xorL, List.zipWith_cons_cons, crc, List.foldl_cons]
      rw [crcB_xor2]
      exact ih _ _ _ (by simpa using h)

/-- a step turns no register but nought into nought -/
theorem stp_ne {p n x : Nat} (hp : 2 ^ n ≤ p) (hx : x < 2 ^ (n + 1)) (h : stp p x = 0) : x = 0 := by
  unfold stp at h
  split at h
  · have h2 : x / 2 = p := by
      have := congrArg (· ^^^ p) h
      simpa [Nat.xor_assoc] using this
    rw [Nat.pow_succ] at hx
    omega
  · omega
theorem stpN_ne {p n : Nat} (hp : 2 ^ n ≤ p) (hp2 : p < 2 ^ (n + 1)) (k : Nat) {x : Nat} (hx : x < 2 ^ (n + 1)) (h : stpN p k x = 0) : x = 0 := by
  induction k with
  | zero => exact h
  | succ k ih => exact ih (stp_ne hp (stpN_lt hp2 hx k) h)
theorem stpN_add (p j k x : Nat) : stpN p (j + k) x = stpN p j (stpN p k x) := by
  induction j with
  | zero => simp [stpN]
  | succ j ih => rw [show j + 1 + k = (j + k) + 1 by omega, stpN, stpN, ih]
theorem crc_zeros (p r n : Nat) : crc p r (List.replicate n 0) = stpN p (8 * n) r := by
  induction n generalizing r with
  | zero => rfl
  | succ n ih =>
    have : crc p r (List.replicate (n + 1) 0) = crc p (crcB p r 0) (List.replicate n 0) := by simp [crc, List.replicate_succ]
    rw [this, ih, show 8 * (n + 1) = 8 * n + 8 by omega, stpN_add]
    unfold crcB
    rw [show (0 : UInt8).toNat = 0 from rfl, Nat.xor_zero]

theorem pow256 (i : Nat) : 256 ^ i = 2 ^ (8 * i) := by rw [show (256 : Nat) = 2 ^ 8 from rfl, ← Nat.pow_mul]
theorem leB_xor (x y k : Nat) : leB (x ^^^ y) k = xorL (leB x k) (leB y k) := by
  apply List.ext_getElem
  · simp [leB, xorL]
  · intro i h1 h2
    simp only [leB, xorL, List.getElem_map, List.getElem_range, List.getElem_zipWith]
    apply UInt8.toNat_inj.1
    rw [UInt8.toNat_xor]
    simp only [UInt8.toNat_ofNat']
    rw [pow256, ← Nat.shiftRight_eq_div_pow, ← Nat.shiftRight_eq_div_pow, ← Nat.shiftRight_eq_div_pow, Nat.shiftRight_xor_distrib, show (256 : Nat) = 2 ^ 8 from rfl, Nat.xor_mod_two_pow, Nat.xor_mod_two_pow]
theorem leB_cons (n k : Nat) : leB n (k + 1) = UInt8.ofNat (n % 256) :: leB (n / 256) k := by
  simp only [leB, List.range_succ_eq_map, List.map_cons, List.map_map, Nat.pow_zero, Nat.div_one]
  congr 1
  apply List.map_congr_left
  intro i _
  simp only [Function.comp]
  rw [Nat.pow_succ, Nat.mul_comm, Nat.div_div_eq_div_mul]
theorem crcB_low (p r : Nat) : crcB p r (UInt8.ofNat (r % 256)) = r / 256 := by
  unfold crcB
  have h : (UInt8.ofNat (r % 256)).toNat = r % 256 := by rw [UInt8.toNat_ofNat']; omega
  rw [h]
  have e : r ^^^ r % 256 = 2 ^ 8 * (r / 256) := by
    conv => lhs; lhs; rw [split8 r]
    rw [Nat.xor_assoc, Nat.xor_self, Nat.xor_zero]
  rw [e, stpN_shl]
/-- a register behind its own bytes is what is left of it -/
theorem crc_self (p r k : Nat) : crc p r (leB r k) = r / 256 ^ k := by
  induction k generalizing r with
  | zero => simp [leB, crc]
  | succ k ih =>
    rw [leB_cons]
    have : crc p r (UInt8.ofNat (r % 256) :: leB (r / 256) k) = crc p (crcB p r (UInt8.ofNat (r % 256))) (leB (r / 256) k) := rfl
    rw [this, crcB_low, ih, Nat.div_div_eq_div_mul, Nat.pow_succ, Nat.mul_comm]
theorem leB_zero (k : Nat) : leB 0 k = List.replicate k 0 := by
  apply List.ext_getElem
  · simp [leB]
  · intro i h1 h2
    simp [leB]
theorem crc_le {p r x k : Nat} (hr : r < 256 ^ k) : crc p r (leB x k) = crc p 0 (leB (r ^^^ x) k) := by
  have h := crc_xor2 p r 0 (leB r k) (leB (r ^^^ x) k) (by simp [leB])
  rw [← leB_xor, Nat.xor_zero, ← Nat.xor_assoc, Nat.xor_self, Nat.zero_xor, crc_self, Nat.div_eq_of_lt hr, Nat.zero_xor] at h
  exact h
/-- nothing but noughts leaves nought -/
theorem crc_le_ne {p n e k : Nat} (hp : 2 ^ n ≤ p) (hp2 : p < 2 ^ (n + 1)) (hk : 256 ^ k = 2 ^ (n + 1)) (he : e < 256 ^ k) (h : crc p 0 (leB e k) = 0) : e = 0 := by
  have h1 := crc_le (p := p) (r := e) (x := 0) (k := k) he
  rw [Nat.xor_zero, leB_zero, crc_zeros, h] at h1
  exact stpN_ne hp hp2 _ (by rw [← hk]; exact he) h1
theorem crc_le_inj {p n a b k : Nat} (hp : 2 ^ n ≤ p) (hp2 : p < 2 ^ (n + 1)) (hk : 256 ^ k = 2 ^ (n + 1)) (ha : a < 256 ^ k) (hb : b < 256 ^ k) (h : crc p 0 (leB a k) = crc p 0 (leB b k)) : a = b := by
  have h1 := crc_xor2 p 0 0 (leB a k) (leB b k) (by simp [leB])
  rw [← leB_xor, Nat.xor_self, h, Nat.xor_self] at h1
  have h2 : a ^^^ b < 256 ^ k := by rw [hk] at ha hb ⊢; exact Nat.xor_lt_two_pow ha hb
  have h3 := crc_le_ne hp hp2 hk h2 h1
  have := congrArg (· ^^^ b) h3
  simpa [Nat.xor_assoc] using this

/-- bytes as a number -/
def numB : List UInt8 → Nat
  | [] => 0
  | b :: l => b.toNat + 256 * numB l
theorem numB_lt (l : List UInt8) : numB l < 256 ^ l.length := by
  induction l with
  | nil => simp [numB]
  | cons b l ih =>
    have := UInt8.toNat_lt b
    simp only [numB, List.length_cons, Nat.pow_succ]
    omega
theorem leB_numB (l : List UInt8) : leB (numB l) l.length = l := by
  induction l with
  | nil => rfl
  | cons b l ih =>
    have hb := UInt8.toNat_lt b
    rw [List.length_cons, leB_cons, numB]
    congr 1
    · apply UInt8.toNat_inj.1
      rw [UInt8.toNat_ofNat']; omega
    · rw [show (b.toNat + 256 * numB l) / 256 = numB l by omega, ih]
theorem leB_inj {a b k : Nat} (ha : a < 256 ^ k) (hb : b < 256 ^ k) (h : leB a k = leB b k) : a = b := by
  induction k generalizing a b with
  | zero => simp at ha hb; omega
  | succ k ih =>
    rw [leB_cons, leB_cons] at h
    injection h with h1 h2
    have e1 : a % 256 = b % 256 := by
      have := congrArg UInt8.toNat h1
      rw [UInt8.toNat_ofNat', UInt8.toNat_ofNat'] at this
      omega
    rw [Nat.pow_succ] at ha hb
    have e2 := ih (a := a / 256) (b := b / 256) (by omega) (by omega) h2
    omega

theorem bend_pow : ∀ j, j < 8 → ((2 : Int) ^ j % 256 = ((2 ^ j : Nat) : Int) ∧ (UInt8.ofNat (2 ^ j)).toNat = 2 ^ j ∧ UInt8.ofNat (2 ^ j) ≠ 0) := by decide
theorem bend_byte (B : UInt8) (m : Nat) : bits .xor .u8 (B.toNat : Int) ((2 : Int) ^ (m % 8) % 256) = ((B ^^^ UInt8.ofNat (2 ^ (m % 8))).toNat : Int) := by
  obtain ⟨h1, h2, _⟩ := bend_pow (m % 8) (Nat.mod_lt _ (by omega))
  rw [h1, UInt8.toNat_xor, h2]
  refine u8_xor_nat _ _ (UInt8.toNat_lt B) ?_
  rw [← h2]; exact UInt8.toNat_lt _

/-- what is known of a kind: its polynomial has its highest bit, its registers just so many bytes -/
theorem kind_facts {kd : Int} (hk : kindB kd = true) : ∃ n, 256 ^ kd.toNat = 2 ^ (n + 1) ∧ 2 ^ n ≤ polyN kd ∧ polyN kd < 2 ^ (n + 1) ∧ (allOf kd).toNat < 2 ^ (n + 1) ∧ 8 ≤ n + 1 := by
  rcases kind_or hk with rfl | rfl
  · exact ⟨15, by decide, by decide, by decide, by decide, by omega⟩
  · exact ⟨31, by decide, by decide, by decide, by decide, by omega⟩
theorem good_eq {kd : Int} (hk : kindB kd = true) : goodN kd = crc (polyN kd) 0 (leB (allOf kd).toNat kd.toNat) := by
  obtain ⟨n, h1, h2, h3, h4, h5⟩ := kind_facts hk
  unfold goodN putL
  rw [List.nil_append, crc_le (by rw [h1]; exact h4)]
  unfold sumN
  rw [crc_nil, Nat.xor_self, Nat.xor_zero]
theorem residue {kd : Int} (hk : kindB kd = true) (l : List UInt8) : crc (polyN kd) (allOf kd).toNat (putL kd l) = goodN kd := by
  obtain ⟨n, h1, h2, h3, h4, h5⟩ := kind_facts hk
  unfold putL
  rw [crc_append, crc_le (by rw [h1]; exact crc_lt h3 h5 l h4), good_eq hk]
  unfold sumN
  rw [← Nat.xor_assoc, Nat.xor_self, Nat.zero_xor]
theorem cut_put {kd : Int} (l : List UInt8) : cutL kd (putL kd l) = l := by
  unfold cutL putL
  rw [List.length_append, leB_length, Nat.add_sub_cancel, List.take_left]
theorem sumN_lt256 {kd : Int} (hk : kindB kd = true) (l : List UInt8) : sumN kd l < 256 ^ kd.toNat := by
  obtain ⟨n, h1, h2, h3, h4, h5⟩ := kind_facts hk
  rw [h1]
  exact Nat.xor_lt_two_pow (crc_lt h3 h5 l h4) h4
/-- what is read is just what runs to the residue -/
theorem getB_iff {kd : Int} (hk : kindB kd = true) (l : List UInt8) : getB kd l = (decide (kd.toNat ≤ l.length) && (crc (polyN kd) (allOf kd).toNat l == goodN kd)) := by
  obtain ⟨n, h1, h2, h3, h4, h5⟩ := kind_facts hk
  unfold getB
  rw [hk, Bool.true_and]
  by_cases hl : kd.toNat ≤ l.length
  · rw [decide_eq_true hl, Bool.true_and, Bool.true_and, Bool.eq_iff_iff, beq_iff_eq, beq_iff_eq]
    constructor
    · intro h
      rw [← h]; exact residue hk _
    · intro h
      have hsp : l = cutL kd l ++ l.drop (l.length - kd.toNat) := (List.take_append_drop _ _).symm
      have hdl : (l.drop (l.length - kd.toNat)).length = kd.toNat := by simp; omega
      have hR : crc (polyN kd) (allOf kd).toNat (cutL kd l) < 2 ^ (n + 1) := crc_lt h3 h5 _ h4
      have hD : numB (l.drop (l.length - kd.toNat)) < 256 ^ kd.toNat := by have := numB_lt (l.drop (l.length - kd.toNat)); rwa [hdl] at this
      have hle : leB (numB (l.drop (l.length - kd.toNat))) kd.toNat = l.drop (l.length - kd.toNat) := by
        have := leB_numB (l.drop (l.length - kd.toNat)); rwa [hdl] at this
      rw [hsp, crc_append, ← hle, crc_le (by rw [h1]; exact hR), good_eq hk] at h
      have hx := crc_le_inj h2 h3 h1 (by rw [h1] at hD ⊢; exact Nat.xor_lt_two_pow hR hD) (by rw [h1]; exact h4) h
      have hnum : numB (l.drop (l.length - kd.toNat)) = sumN kd (cutL kd l) := by
        have hx3 : ∀ R D A : Nat, R ^^^ D = A → D = R ^^^ A := fun R D A h => by rw [← h, ← Nat.xor_assoc, Nat.xor_self, Nat.zero_xor]
        exact hx3 _ _ _ hx
      unfold putL
      rw [← hnum, hle]
      exact hsp.symm
  · rw [decide_eq_false hl]; rfl
theorem getB_put {kd : Int} (hk : kindB kd = true) (l : List UInt8) : getB kd (putL kd l) = true := by
  rw [getB_iff hk, residue hk]
  simp [putL, leB_length]
theorem xorL_zero (l : List UInt8) : xorL l (List.replicate l.length 0) = l := by
  apply List.ext_getElem
  · simp [xorL]
  · intro i h1 h2; simp [xorL]
/-- with one byte turned nothing is read -/
theorem getB_bent {kd : Int} (hk : kindB kd = true) (l : List UInt8) (h : crc (polyN kd) (allOf kd).toNat l = goodN kd) (i : Nat) (hi : i < l.length) (e : UInt8) (he : e ≠ 0) : getB kd (l.set i (l[i] ^^^ e)) = false := by
  obtain ⟨n, h1, h2, h3, h4, h5⟩ := kind_facts hk
  have hd : l.set i (l[i] ^^^ e) = xorL l (List.replicate i 0 ++ e :: List.replicate (l.length - 1 - i) 0) := by
    apply List.ext_getElem
    · simp [xorL]; omega
    · intro j a1 a2
      simp only [xorL, List.getElem_zipWith, List.getElem_set]
      by_cases hj : i = j
      · subst hj; simp
      · rw [if_neg hj]
        have : (List.replicate i 0 ++ e :: List.replicate (l.length - 1 - i) 0)[j]'(by simp [xorL] at a2; simp; omega) = (0 : UInt8) := by
          rw [List.getElem_append]
          split
          · simp
          · rw [List.getElem_cons]
            split
            · rename_i hnl h; simp at hnl h; omega
            · simp
        rw [this]; simp
  have hx := crc_xor2 (polyN kd) (allOf kd).toNat 0 l (List.replicate i 0 ++ e :: List.replicate (l.length - 1 - i) 0) (by simp; omega)
  rw [← hd, Nat.xor_zero, h] at hx
  rw [getB_iff hk, hx]
  have hne : crc (polyN kd) 0 (List.replicate i 0 ++ e :: List.replicate (l.length - 1 - i) 0) ≠ 0 := by
    rw [crc_append, crc_zero]
    have : crc (polyN kd) 0 (e :: List.replicate (l.length - 1 - i) 0) = crc (polyN kd) (crcB (polyN kd) 0 e) (List.replicate (l.length - 1 - i) 0) := rfl
    rw [this, crc_zeros]
    have he2 : e.toNat < 2 ^ (n + 1) := Nat.lt_of_lt_of_le (UInt8.toNat_lt e) (Nat.pow_le_pow_right (by omega) h5)
    have hcb : crcB (polyN kd) 0 e = stpN (polyN kd) 8 e.toNat := by unfold crcB; rw [Nat.zero_xor]
    intro h0
    have r1 := stpN_ne h2 h3 _ (by rw [hcb]; exact stpN_lt h3 he2 8) h0
    rw [hcb] at r1
    have r2 := stpN_ne h2 h3 _ he2 r1
    exact he (UInt8.toNat_inj.1 r2)
  have : (goodN kd ^^^ crc (polyN kd) 0 (List.replicate i 0 ++ e :: List.replicate (l.length - 1 - i) 0) == goodN kd) = false := by
    rw [beq_eq_false_iff_ne]
    intro h0
    have := congrArg (goodN kd ^^^ ·) h0
    simp only [← Nat.xor_assoc, Nat.xor_self, Nat.zero_xor] at this
    exact hne this
  rw [this, Bool.and_false]
end Go.Proofs.Ythggbcpphoknfaa
