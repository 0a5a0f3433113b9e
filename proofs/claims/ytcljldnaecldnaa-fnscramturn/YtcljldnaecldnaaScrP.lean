/- Plainly (no program in this text). -/
import Derived.Test.YtcljldnaecldnaaWavP
namespace Go.Proofs.Ytcljldnaecldnaa
/-- what a state adds -/
def tapB (s : Nat) : Bool := (s / 8 % 2 == 1) != (s / 64 % 2 == 1)
def nextS (s : Nat) (b : Bool) : Nat := (2 * s + if b then 1 else 0) % 128
def scP (s : Nat) (b : Bool) : Nat × Bool := (nextS s (b != tapB s), b != tapB s)
def scG (s : Nat) (b : Bool) : Nat × Bool := (nextS s b, b != tapB s)
theorem nextS_lt (s : Nat) (b : Bool) : nextS s b < 128 := Nat.mod_lt _ (by omega)
theorem scG_scP (s : Nat) (b : Bool) : scG s (scP s b).2 = ((scP s b).1, b) := by
  unfold scG scP
  simp only
  cases b <;> cases tapB s <;> rfl
theorem mealy_lt (f : Nat → Bool → Nat × Bool) (hf : ∀ s b, (f s b).1 < 128) (s : Nat) (l : List UInt8) (h : s < 128) : (mealy f s l).1 < 128 := by
  induction l generalizing s with
  | nil => exact h
  | cons b l ih => rw [mealy_cons]; exact ih _ (hf _ _)
theorem scP_lt (s : Nat) (b : Bool) : (scP s b).1 < 128 := nextS_lt _ _
theorem scG_lt (s : Nat) (b : Bool) : (scG s b).1 < 128 := nextS_lt _ _
/-- seven bits on, whatever the state was is gone -/
theorem scG_seven (s u : Nat) (a b c d e f g : UInt8) : (mealy scG s [a, b, c, d, e, f, g]).1 = (mealy scG u [a, b, c, d, e, f, g]).1 := by
  simp only [mealy, scG, nextS]
  omega
theorem scG_sync (s u : Nat) (l : List UInt8) (h : 7 ≤ l.length) : (mealy scG s l).1 = (mealy scG u l).1 ∧ (mealy scG s l).2.drop 7 = (mealy scG u l).2.drop 7 := by
  match l, h with
  | a :: b :: c :: d :: e :: f :: g :: r, _ =>
    have e1 : a :: b :: c :: d :: e :: f :: g :: r = [a, b, c, d, e, f, g] ++ r := rfl
    have h7 := scG_seven s u a b c d e f g
    rw [e1, mealy_append, mealy_append, h7]
    refine ⟨rfl, ?_⟩
    simp only
    rw [List.drop_append_of_le_length (by rw [mealy_len]; exact Nat.le_refl _), List.drop_append_of_le_length (by rw [mealy_len]; exact Nat.le_refl _)]
    rw [List.drop_of_length_le (by rw [mealy_len]; exact Nat.le_refl _), List.drop_of_length_le (by rw [mealy_len]; exact Nat.le_refl _)]
/-- how many of what is still to come differ where bit j of the state does -/
def lateN (j : Nat) : Nat := if j ≤ 3 then 2 else if j ≤ 6 then 1 else 0
def turnB (j s u : Nat) : Bool := decide (u = s ^^^ 2 ^ j)
theorem turn_all : ((List.range 128).all fun s => (List.range 7).all fun j => ((tapB s != tapB (s ^^^ 2 ^ j)) == (j == 3 || j == 6)) && (List.range 2).all fun b => if j = 6 then nextS s (b == 1) == nextS (s ^^^ 2 ^ j) (b == 1) else nextS (s ^^^ 2 ^ j) (b == 1) == nextS s (b == 1) ^^^ 2 ^ (j + 1)) = true := by decide +kernel
theorem turn_one {s j : Nat} (hs : s < 128) (hj : j < 7) : ((tapB s != tapB (s ^^^ 2 ^ j)) = (j == 3 || j == 6)) ∧ ∀ b : Bool, if j = 6 then nextS s b = nextS (s ^^^ 2 ^ j) b else nextS (s ^^^ 2 ^ j) b = nextS s b ^^^ 2 ^ (j + 1) := by
  have h := turn_all
  rw [List.all_eq_true] at h
  have h := h s (List.mem_range.2 hs)
  rw [List.all_eq_true] at h
  have h := h j (List.mem_range.2 hj)
  rw [Bool.and_eq_true, beq_iff_eq, List.all_eq_true] at h
  refine ⟨h.1, fun b => ?_⟩
  have h := h.2 (if b then 1 else 0) (by cases b <;> simp)
  have e : ((if b then 1 else 0 : Nat) == 1) = b := by cases b <;> rfl
  rw [e] at h
  by_cases h6 : j = 6
  · rw [if_pos h6] at h ⊢; simpa using h
  · rw [if_neg h6] at h ⊢; simpa using h
theorem far_same (l : List UInt8) : farN l l = 0 := (far_zero l l rfl).2 rfl
theorem scG_late (l : List UInt8) : ∀ (s j : Nat), s < 128 → j < 7 → farN (mealy scG s l).2 (mealy scG (s ^^^ 2 ^ j) l).2 ≤ lateN j := by
  induction l with
  | nil => intro s j _ _; simp [mealy, farN]
  | cons b l ih =>
    intro s j hs hj
    obtain ⟨h1, h2⟩ := turn_one hs hj
    have h2 := h2 (decide (b = 49))
    rw [mealy_cons, mealy_cons]
    simp only
    rw [farN_cons]
    have e : (if bitC (scG s (decide (b = 49))).2 ≠ bitC (scG (s ^^^ 2 ^ j) (decide (b = 49))).2 then 1 else 0) = (if (j == 3 || j == 6) = true then 1 else 0 : Nat) := by
      rw [← h1]
      unfold scG
      simp only
      generalize decide (b = 49) = x
      cases x <;> cases tapB s <;> cases tapB (s ^^^ 2 ^ j) <;> rfl
    rw [e]
    have e1 : (scG s (decide (b = 49))).1 = nextS s (decide (b = 49)) := rfl
    have e2 : (scG (s ^^^ 2 ^ j) (decide (b = 49))).1 = nextS (s ^^^ 2 ^ j) (decide (b = 49)) := rfl
    rw [e1, e2]
    by_cases h6 : j = 6
    · rw [if_pos h6] at h2
      rw [h2, far_same, h6]
      decide
    · rw [if_neg h6] at h2
      rw [h2]
      have h3 := ih (nextS s (decide (b = 49))) (j + 1) (nextS_lt _ _) (by omega)
      have h4 : (if (j == 3 || j == 6) = true then 1 else 0 : Nat) + lateN (j + 1) ≤ lateN j := by
        have : ∀ j, j < 6 → (if (j == 3 || j == 6) = true then 1 else 0 : Nat) + lateN (j + 1) ≤ lateN j := by decide
        exact this j (by omega)
      omega
/-- a bit that is turned on its way -/
theorem scG_turn (s : Nat) (a l : List UInt8) (b : UInt8) (hs : s < 128) (hb : bitB b = true) :
    1 ≤ farN (mealy scG s (a ++ b :: l)).2 (mealy scG s (a ++ flipB b :: l)).2 ∧ farN (mealy scG s (a ++ b :: l)).2 (mealy scG s (a ++ flipB b :: l)).2 ≤ 3 := by
  have happ : ∀ (u x y : List UInt8), farN (u ++ x) (u ++ y) = farN x y := by
    intro u x y
    induction u with
    | nil => rfl
    | cons c u ih => rw [List.cons_append, List.cons_append, farN_cons, ih]; simp
  rw [mealy_append, mealy_append]
  simp only
  rw [happ]
  have hlt := mealy_lt scG scG_lt s a hs
  generalize (mealy scG s a).1 = u at hlt
  rw [mealy_cons, mealy_cons]
  simp only
  rw [farN_cons]
  have hfl : decide (flipB b = 49) = !decide (b = 49) := by
    unfold bitB at hb
    simp only [Bool.or_eq_true, beq_iff_eq] at hb
    rcases hb with rfl | rfl <;> rfl
  rw [hfl]
  generalize decide (b = 49) = x
  have e : (if bitC (scG u x).2 ≠ bitC (scG u (!x)).2 then 1 else 0 : Nat) = 1 := by
    unfold scG
    simp only
    cases x <;> cases tapB u <;> rfl
  rw [e]
  have e1 : (scG u (!x)).1 = (scG u x).1 ^^^ 2 ^ 0 := by
    have H : ((List.range 128).all fun u => (nextS u true == nextS u false ^^^ 1) && (nextS u false == nextS u true ^^^ 1)) = true := by decide +kernel
    rw [List.all_eq_true] at H
    have H := H u (List.mem_range.2 hlt)
    simp only [Bool.and_eq_true, beq_iff_eq] at H
    cases x
    · exact H.1
    · exact H.2
  rw [e1]
  have h3 := scG_late l (scG u x).1 0 (scG_lt _ _) (by omega)
  have : lateN 0 = 2 := rfl
  omega
/-- a state's next one where noughts come -/
def zS (s : Nat) : Nat := nextS s (tapB s)
def itS : Nat → Nat → Nat
  | 0, s => s
  | n + 1, s => itS n (zS s)
theorem itS_succ (n s : Nat) : itS (n + 1) s = zS (itS n s) := by
  induction n generalizing s with
  | zero => rfl
  | succ n ih => rw [itS, ih (zS s)]; rfl
theorem itS_add (n m s : Nat) : itS (n + m) s = itS n (itS m s) := by
  induction m generalizing s with
  | zero => rfl
  | succ m ih => rw [← Nat.add_assoc, itS, ih]; rfl
theorem zS_lt (s : Nat) : zS s < 128 := nextS_lt _ _
theorem period_all : ((List.range 128).all fun s => itS 127 s == s) = true := by decide +kernel
theorem period {s : Nat} (h : s < 128) : itS 127 s = s := by
  have H := period_all
  rw [List.all_eq_true] at H
  simpa using H s (List.mem_range.2 h)
/-- what noughts are written as -/
def onesL (s n : Nat) : List UInt8 := (mealy scP s (List.replicate n 48)).2
theorem onesL_state (s n : Nat) : (mealy scP s (List.replicate n 48)).1 = itS n s := by
  induction n generalizing s with
  | zero => rfl
  | succ n ih =>
    rw [List.replicate_succ, mealy_cons]
    simp only
    rw [ih, itS]
    congr 1
    show nextS s (false != tapB s) = zS s
    rw [Bool.false_bne]
    rfl
theorem onesL_succ (s n : Nat) : onesL s (n + 1) = onesL s n ++ [bitC (tapB (itS n s))] := by
  unfold onesL
  rw [List.replicate_succ', mealy_snoc, onesL_state]
  simp only
  congr 2
  show bitC (false != _) = _
  rw [Bool.false_bne]
theorem onesL_len (s n : Nat) : (onesL s n).length = n := by unfold onesL; rw [mealy_len, List.length_replicate]
theorem onesL_at (s n i : Nat) (h : i < n) : (onesL s n)[i]'(by rw [onesL_len]; exact h) = bitC (tapB (itS i s)) := by
  induction n with
  | zero => omega
  | succ n ih =>
    have e := onesL_succ s n
    rcases Nat.lt_or_ge i n with h1 | h1
    · rw [List.getElem_of_eq e, List.getElem_append_left (by rw [onesL_len]; exact h1)]; exact ih h1
    · obtain rfl : i = n := by omega
      rw [List.getElem_of_eq e, List.getElem_append_right (by rw [onesL_len]; exact Nat.le_refl _)]
      simp [onesL_len]
theorem onesL_again {s n i : Nat} (hs : s < 128) (h : i < n) (hi : 127 ≤ i) : (onesL s n)[i]'(by rw [onesL_len]; exact h) = (onesL s n)[i - 127]'(by rw [onesL_len]; omega) := by
  rw [onesL_at s n i h, onesL_at s n (i - 127) (by omega)]
  have : itS i s = itS (i - 127) s := by
    have e := itS_add (i - 127) 127 s
    rw [Nat.sub_add_cancel hi, period hs] at e
    exact e
  rw [this]
theorem ones_nought (n : Nat) : (onesL 0 n).count 49 = 0 := by
  have h0 : ∀ n, itS n 0 = 0 := by
    intro n
    induction n with
    | zero => rfl
    | succ n ih => rw [itS_succ, ih]; rfl
  induction n with
  | zero => rfl
  | succ n ih => rw [onesL_succ, List.count_append, ih, h0]; rfl
theorem ones_all : ((List.range 128).all fun s => s == 0 || (onesL s 127).count 49 == 64) = true := by decide +kernel
theorem ones_sum {s : Nat} (h : s < 128) (h0 : s ≠ 0) : (onesL s 127).count 49 = 64 := by
  have H := ones_all
  rw [List.all_eq_true] at H
  have H := H s (List.mem_range.2 h)
  simpa [h0] using H
end Go.Proofs.Ytcljldnaecldnaa
