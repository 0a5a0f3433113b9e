/- Plain mathematics of the checksums: one step of the register, eight steps, linearity, the table. -/
namespace Go.Proofs.Ythggbcpphoknfaa
def stp (p x : Nat) : Nat := if x % 2 = 1 then (x / 2) ^^^ p else x / 2
def stpN (p : Nat) : Nat → Nat → Nat
  | 0, x => x
  | n + 1, x => stp p (stpN p n x)
def crcB (p r : Nat) (b : UInt8) : Nat := stpN p 8 (r ^^^ b.toNat)
def crc (p r : Nat) (l : List UInt8) : Nat := l.foldl (crcB p) r

theorem crc_nil (p r : Nat) : crc p r [] = r := rfl
theorem crc_snoc (p r : Nat) (l : List UInt8) (b : UInt8) : crc p r (l ++ [b]) = stpN p 8 (crc p r l ^^^ b.toNat) := by
  simp [crc, crcB, List.foldl_append]
theorem crc_append (p r : Nat) (l m : List UInt8) : crc p r (l ++ m) = crc p (crc p r l) m := by
  simp [crc, List.foldl_append]

theorem stp_lt {p x n : Nat} (hp : p < 2 ^ n) (hx : x < 2 ^ n) : stp p x < 2 ^ n := by
  unfold stp
  split
  · exact Nat.xor_lt_two_pow (by omega) hp
  · omega
theorem stpN_lt {p x n : Nat} (hp : p < 2 ^ n) (hx : x < 2 ^ n) (k : Nat) : stpN p k x < 2 ^ n := by
  induction k with
  | zero => exact hx
  | succ k ih => exact stp_lt hp ih
theorem crc_lt {p r n : Nat} (hp : p < 2 ^ n) (hn : 8 ≤ n) (l : List UInt8) (hr : r < 2 ^ n) : crc p r l < 2 ^ n := by
  induction l generalizing r with
  | nil => exact hr
  | cons b l ih =>
    refine ih (stpN_lt hp (Nat.xor_lt_two_pow hr ?_) 8)
    have := UInt8.toNat_lt b
    exact Nat.lt_of_lt_of_le this (Nat.pow_le_pow_right (by omega) hn)

theorem mod2_xor (x y : Nat) : (x ^^^ y) % 2 = (x % 2 + y % 2) % 2 := by
  have h := Nat.xor_mod_two_pow (a := x) (b := y) (n := 1)
  rw [Nat.pow_one] at h
  rw [h]
  rcases Nat.mod_two_eq_zero_or_one x with hx | hx <;> rcases Nat.mod_two_eq_zero_or_one y with hy | hy <;> simp [hx, hy]
theorem div2_xor (x y : Nat) : (x ^^^ y) / 2 = x / 2 ^^^ y / 2 := by
  have := Nat.shiftRight_xor_distrib (a := x) (b := y) (i := 1)
  simpa [Nat.shiftRight_succ] using this
theorem stp_xor (p x y : Nat) : stp p (x ^^^ y) = stp p x ^^^ stp p y := by
  unfold stp
  rw [mod2_xor, div2_xor]
  rcases Nat.mod_two_eq_zero_or_one x with hx | hx <;> rcases Nat.mod_two_eq_zero_or_one y with hy | hy <;> simp only [hx, hy]
  · simp
  · simp only [ite_true, Nat.zero_ne_one, ite_false]; rw [Nat.xor_assoc]
  · simp only [ite_true, Nat.zero_ne_one, ite_false]; rw [Nat.xor_assoc, Nat.xor_assoc, Nat.xor_comm (y / 2) p]
  · simp only [Nat.reduceAdd, Nat.reduceMod, Nat.zero_ne_one, ite_false, ite_true]
    rw [Nat.xor_assoc, ← Nat.xor_assoc p, Nat.xor_comm p (y / 2), Nat.xor_assoc (y/2) p p, Nat.xor_self, Nat.xor_zero]
theorem stpN_xor (p k x y : Nat) : stpN p k (x ^^^ y) = stpN p k x ^^^ stpN p k y := by
  induction k with
  | zero => rfl
  | succ k ih => simp only [stpN, ih, stp_xor]
theorem stp_even (p h : Nat) : stp p (2 * h) = h := by
  unfold stp
  rw [if_neg (by omega)]; omega
theorem stpN_shl (p k h : Nat) : stpN p k (2 ^ k * h) = h := by
  induction k generalizing h with
  | zero => simp [stpN]
  | succ k ih => rw [stpN, show 2 ^ (k + 1) * h = 2 ^ k * (2 * h) from by rw [Nat.pow_succ, Nat.mul_assoc], ih, stp_even]
theorem split8 (x : Nat) : x = (2 ^ 8 * (x / 256)) ^^^ (x % 256) := by
  have h := Nat.two_pow_add_eq_or_of_lt (i := 8) (b := x % 256) (Nat.mod_lt _ (by omega)) (x / 256)
  have h2 : 2 ^ 8 * (x / 256) + x % 256 = x := by have := Nat.div_add_mod x 256; omega
  apply Nat.eq_of_testBit_eq
  intro i
  rw [Nat.testBit_xor, Nat.testBit_two_pow_mul, show (256 : Nat) = 2 ^ 8 from rfl, Nat.testBit_mod_two_pow, Nat.testBit_div_two_pow]
  by_cases hi : 8 ≤ i
  · simp [hi, Nat.not_lt.2 hi]
  · simp [hi, Nat.lt_of_not_le hi]
/-- eight steps by the table -/
theorem stpN_table (p x : Nat) : stpN p 8 x = x / 256 ^^^ stpN p 8 (x % 256) := by
  conv => lhs; rw [split8 x]
  rw [stpN_xor, stpN_shl]
theorem div256_xor (r b : Nat) (hb : b < 256) : (r ^^^ b) / 256 = r / 256 := by
  apply Nat.eq_of_testBit_eq
  intro i
  rw [show (256 : Nat) = 2 ^ 8 from rfl, Nat.testBit_div_two_pow, Nat.testBit_div_two_pow, Nat.testBit_xor]
  have : b.testBit (i + 8) = false := Nat.testBit_lt_two_pow (Nat.lt_of_lt_of_le hb (by rw [show (256 : Nat) = 2 ^ 8 from rfl]; exact Nat.pow_le_pow_right (by omega) (by omega)))
  simp [this]
theorem mod256_xor (r b : Nat) (hb : b < 256) : (r ^^^ b) % 256 = (r % 256) ^^^ b := by
  rw [show (256 : Nat) = 2 ^ 8 from rfl, Nat.xor_mod_two_pow, Nat.mod_eq_of_lt (a := b) hb]
theorem crcB_table (p r : Nat) (b : UInt8) : crcB p r b = r / 256 ^^^ stpN p 8 ((r % 256) ^^^ b.toNat) := by
  have hb : b.toNat < 256 := UInt8.toNat_lt b
  unfold crcB
  rw [stpN_table, div256_xor _ _ hb, mod256_xor _ _ hb]

theorem stpN_zero (p k : Nat) : stpN p k 0 = 0 := by
  induction k with
  | zero => rfl
  | succ k ih => rw [stpN, ih]; rfl
theorem crcB_xor (p a b : Nat) (x : UInt8) : crcB p (a ^^^ b) x = crcB p a x ^^^ crcB p b 0 := by
  unfold crcB
  rw [show (0 : UInt8).toNat = 0 from rfl, Nat.xor_zero, Nat.xor_assoc, Nat.xor_comm b, ← Nat.xor_assoc, stpN_xor]
theorem crc_linear (p a b : Nat) (l : List UInt8) : crc p (a ^^^ b) l = crc p a l ^^^ crc p b (List.replicate l.length 0) := by
  induction l generalizing a b with
  | nil => rfl
  | cons x l ih => simp only [crc, List.foldl_cons, List.length_cons, List.replicate_succ] at ih ⊢; rw [crcB_xor, ih]
theorem crc_zero (p n : Nat) : crc p 0 (List.replicate n 0) = 0 := by
  induction n with
  | zero => rfl
  | succ n ih =>
    simp only [crc, List.replicate_succ, List.foldl_cons] at ih ⊢
    have : crcB p 0 0 = 0 := by unfold crcB; exact stpN_zero p 8
    rw [this, ih]
end Go.Proofs.Ythggbcpphoknfaa
