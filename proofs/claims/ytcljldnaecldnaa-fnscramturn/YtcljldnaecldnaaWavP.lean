/- Line codes, plainly (no program in this text). -/
import Derived.Test.YtcljldnaecldnaaKitBits
namespace Go.Proofs.Ytcljldnaecldnaa
/-- a bit as it is written -/
def bitC (b : Bool) : UInt8 := if b then 49 else 48
def flipB (b : UInt8) : UInt8 := if b = 48 then 49 else 48
theorem bitC_bit (b : Bool) : bitB (bitC b) = true := by cases b <;> rfl
theorem bitC_one (b : Bool) : decide (bitC b = 49) = b := by cases b <;> rfl
theorem bitC_of {b : UInt8} (h : bitB b = true) : bitC (decide (b = 49)) = b := by
  unfold bitB at h
  simp only [Bool.or_eq_true, beq_iff_eq] at h
  rcases h with rfl | rfl <;> rfl
theorem bitC_inj {a b : Bool} (h : bitC a = bitC b) : a = b := by cases a <;> cases b <;> first | rfl | (exact absurd h (by decide))
/-- two for one -/
def manL (l : List UInt8) : List UInt8 := l.flatMap fun b => [b, flipB b]
theorem manL_cons (b : UInt8) (l : List UInt8) : manL (b :: l) = b :: flipB b :: manL l := rfl
theorem manL_snoc (l : List UInt8) (b : UInt8) : manL (l ++ [b]) = manL l ++ [b, flipB b] := by simp [manL]
theorem manL_len (l : List UInt8) : (manL l).length = 2 * l.length := by
  induction l with
  | nil => rfl
  | cons b l ih => rw [manL_cons]; simp only [List.length_cons, ih]; omega
theorem flipB_bit (b : UInt8) : bitB (flipB b) = true := by unfold flipB; split <;> rfl
theorem flipB_ne {b : UInt8} : b ≠ flipB b := by
  unfold flipB
  split
  · rename_i h; rw [h]; decide
  · rename_i h; exact h
theorem okB_iff {l : List UInt8} : okB l = true ↔ (∀ x ∈ l, bitB x = true) ∧ l.length ≤ 1200 := by
  unfold okB; rw [Bool.and_eq_true, List.all_eq_true, decide_eq_true_iff]
theorem manL_bits {l : List UInt8} (h : ∀ x ∈ l, bitB x = true) : ∀ x ∈ manL l, bitB x = true := by
  induction l with
  | nil => intro x hx; cases hx
  | cons b l ih =>
    intro x hx
    rw [manL_cons, List.mem_cons, List.mem_cons] at hx
    rcases hx with rfl | rfl | hx
    · exact h _ (by simp)
    · exact flipB_bit _
    · exact ih (fun y hy => h y (by simp [hy])) x hx
def manOkB (l : List UInt8) : Bool := okB l && decide (l.length ≤ 600)
def putM (l : List UInt8) : List UInt8 := if manOkB l = true then manL l else []
/-- each second one -/
def evens : List UInt8 → List UInt8
  | [] => []
  | [a] => [a]
  | a :: _ :: r => a :: evens r
theorem evens_len : ∀ l : List UInt8, (evens l).length = (l.length + 1) / 2
  | [] => rfl
  | [a] => by simp [evens]
  | a :: b :: r => by have := evens_len r; simp only [evens, List.length_cons]; omega
theorem evens_manL (l : List UInt8) : evens (manL l) = l := by
  induction l with
  | nil => rfl
  | cons b l ih => rw [manL_cons, evens, ih]
theorem evens_mem : ∀ (l : List UInt8) (x : UInt8), x ∈ evens l → x ∈ l
  | [], x, h => h
  | [a], x, h => h
  | a :: b :: r, x, h => by
    rw [evens, List.mem_cons] at h
    rcases h with rfl | h
    · simp
    · have := evens_mem r x h; simp [this]
theorem evens_take : ∀ (l : List UInt8) (k : Nat) (h : 2 * k < l.length), evens (l.take (2 * (k + 1))) = evens (l.take (2 * k)) ++ [l[2 * k]]
  | [], k, h => by simp at h
  | [a], k, h => by
    obtain rfl : k = 0 := by simp at h; omega
    rfl
  | a :: b :: r, 0, h => by simp [evens]
  | a :: b :: r, k + 1, h => by
    have ih := evens_take r k (by simp at h; omega)
    rw [show 2 * (k + 1 + 1) = 2 * (k + 1) + 1 + 1 by omega, List.take_succ_cons, List.take_succ_cons, evens, ih]
    have e : evens (List.take (2 * (k + 1)) (a :: b :: r)) = a :: evens (r.take (2 * k)) := by
      rw [show 2 * (k + 1) = 2 * k + 1 + 1 by omega, List.take_succ_cons, List.take_succ_cons, evens]
    have e2 : (a :: b :: r)[2 * (k + 1)] = r[2 * k]'(by simp at h; omega) := by
      simp only [show 2 * (k + 1) = 2 * k + 1 + 1 by omega, List.getElem_cons_succ]
    rw [e, e2, List.cons_append]
def okM (t : List UInt8) : Bool := decide (putM (evens t) = t)
def getM (t : List UInt8) : List UInt8 := if okM t = true then evens t else []
/-- the two of each pair are not the same -/
def pairsB : List UInt8 → Bool
  | [] => true
  | [_] => false
  | a :: b :: r => decide (a ≠ b) && pairsB r
theorem pairs_even : ∀ t : List UInt8, pairsB t = true → t.length % 2 = 0
  | [], _ => rfl
  | [_], h => by simp [pairsB] at h
  | a :: b :: r, h => by
    rw [pairsB, Bool.and_eq_true] at h
    have := pairs_even r h.2
    simp only [List.length_cons]; omega
theorem flip_of {a b : UInt8} (ha : bitB a = true) (hb : bitB b = true) (h : a ≠ b) : flipB a = b := by
  unfold bitB at ha hb
  simp only [Bool.or_eq_true, beq_iff_eq] at ha hb
  rcases ha with rfl | rfl <;> rcases hb with rfl | rfl <;> first | rfl | exact absurd rfl h
theorem man_evens : ∀ t : List UInt8, (∀ x ∈ t, bitB x = true) → pairsB t = true → manL (evens t) = t
  | [], _, _ => rfl
  | [_], _, h => by simp [pairsB] at h
  | a :: b :: r, hb, h => by
    rw [pairsB, Bool.and_eq_true, decide_eq_true_iff] at h
    rw [evens, manL_cons, flip_of (hb a (by simp)) (hb b (by simp)) h.1, man_evens r (fun x hx => hb x (by simp [hx])) h.2]
theorem pairs_man (l : List UInt8) : pairsB (manL l) = true := by
  induction l with
  | nil => rfl
  | cons b l ih => rw [manL_cons, pairsB, ih, decide_eq_true (flipB_ne)]; rfl
theorem okM_yes {t : List UInt8} (h : okB t = true) (hp : pairsB t = true) : okM t = true := by
  rw [okB_iff] at h
  unfold okM
  rw [decide_eq_true_iff]
  unfold putM
  have h1 : manOkB (evens t) = true := by
    unfold manOkB
    rw [Bool.and_eq_true, okB_iff, decide_eq_true_iff, evens_len]
    exact ⟨⟨fun x hx => h.1 x (evens_mem t x hx), by omega⟩, by omega⟩
  rw [if_pos h1, man_evens t h.1 hp]
theorem okM_parts {t : List UInt8} (h : okM t = true) : okB t = true ∧ pairsB t = true ∧ t = manL (evens t) ∧ manOkB (evens t) = true := by
  unfold okM at h
  rw [decide_eq_true_iff] at h
  unfold putM at h
  by_cases h1 : manOkB (evens t) = true
  · rw [if_pos h1] at h
    have h2 := h1
    unfold manOkB at h2
    rw [Bool.and_eq_true, okB_iff, decide_eq_true_iff] at h2
    refine ⟨okB_iff.2 ⟨?_, ?_⟩, ?_, h.symm, h1⟩
    · rw [← h]; exact manL_bits h2.1.1
    · rw [← h, manL_len]; omega
    · rw [← h]; exact pairs_man _
  · rw [if_neg h1] at h
    exfalso; apply h1; rw [← h]; rfl
theorem okM_no {t : List UInt8} (h : okB t = false ∨ t.length % 2 ≠ 0 ∨ pairsB t = false) : okM t = false := by
  cases hk : okM t with
  | false => rfl
  | true =>
    obtain ⟨h1, h2, _⟩ := okM_parts hk
    rcases h with h | h | h
    · rw [h1] at h; cases h
    · exact absurd (pairs_even t h2) h
    · rw [h2] at h; cases h
theorem getM_putM {l : List UInt8} (h : manOkB l = true) : okM (manL l) = true ∧ getM (manL l) = l := by
  have h1 : okM (manL l) = true := by unfold okM putM; rw [evens_manL, if_pos h, decide_eq_true rfl]
  exact ⟨h1, by unfold getM; rw [if_pos h1, evens_manL]⟩
/-- after k rounds of the model all pairs so far are not the same -/
theorem pairs_step {t : List UInt8} : ∀ (k : Nat) (h : 2 * k + 1 < t.length), pairsB (t.take (2 * k)) = true → t[2 * k] ≠ t[2 * k + 1] → pairsB (t.take (2 * (k + 1))) = true := by
  suffices H : ∀ (k : Nat) (t : List UInt8) (h : 2 * k + 1 < t.length), pairsB (t.take (2 * k)) = true → t[2 * k] ≠ t[2 * k + 1] → pairsB (t.take (2 * (k + 1))) = true from fun k h => H k t h
  intro k
  induction k with
  | zero =>
    intro t h _ hne
    match t, h with
    | a :: b :: r, h =>
      have : a ≠ b := hne
      simp [pairsB, this]
  | succ k ih =>
    intro t h hp hne
    match t, h with
    | a :: b :: r, h =>
      rw [show 2 * (k + 1 + 1) = 2 * (k + 1) + 1 + 1 by omega, List.take_succ_cons, List.take_succ_cons, pairsB]
      rw [show 2 * (k + 1) = 2 * k + 1 + 1 by omega, List.take_succ_cons, List.take_succ_cons, pairsB, Bool.and_eq_true] at hp
      rw [Bool.and_eq_true]
      refine ⟨hp.1, ih r (by simp at h; omega) hp.2 ?_⟩
      have e1 : (a :: b :: r)[2 * (k + 1)] = r[2 * k]'(by simp at h; omega) := by simp only [show 2 * (k + 1) = 2 * k + 1 + 1 by omega, List.getElem_cons_succ]
      have e2 : (a :: b :: r)[2 * (k + 1) + 1] = r[2 * k + 1]'(by simp at h; omega) := by simp only [show 2 * (k + 1) + 1 = 2 * k + 1 + 1 + 1 by omega, List.getElem_cons_succ]
      rw [e1, e2] at hne
      exact hne
theorem pairs_stop {t : List UInt8} : ∀ (k : Nat) (h : 2 * k + 1 < t.length), t[2 * k] = t[2 * k + 1] → pairsB t = false := by
  suffices H : ∀ (k : Nat) (t : List UInt8) (h : 2 * k + 1 < t.length), t[2 * k] = t[2 * k + 1] → pairsB t = false from fun k h => H k t h
  intro k
  induction k with
  | zero =>
    intro t h he
    match t, h with
    | a :: b :: r, h =>
      have : a = b := he
      simp [pairsB, this]
  | succ k ih =>
    intro t h he
    match t, h with
    | a :: b :: r, h =>
      have e1 : (a :: b :: r)[2 * (k + 1)] = r[2 * k]'(by simp at h; omega) := by simp only [show 2 * (k + 1) = 2 * k + 1 + 1 by omega, List.getElem_cons_succ]
      have e2 : (a :: b :: r)[2 * (k + 1) + 1] = r[2 * k + 1]'(by simp at h; omega) := by simp only [show 2 * (k + 1) + 1 = 2 * k + 1 + 1 + 1 by omega, List.getElem_cons_succ]
      rw [e1, e2] at he
      have := ih r (by simp at h; omega) he
      rw [pairsB, this, Bool.and_false]
/-- a machine that takes bits and writes bits -/
def mealy {σ : Type} (f : σ → Bool → σ × Bool) (s : σ) : List UInt8 → σ × List UInt8
  | [] => (s, [])
  | b :: l => ((mealy f (f s (decide (b = 49))).1 l).1, bitC (f s (decide (b = 49))).2 :: (mealy f (f s (decide (b = 49))).1 l).2)
theorem mealy_cons {σ : Type} (f : σ → Bool → σ × Bool) (s : σ) (b : UInt8) (l : List UInt8) : mealy f s (b :: l) = ((mealy f (f s (decide (b = 49))).1 l).1, bitC (f s (decide (b = 49))).2 :: (mealy f (f s (decide (b = 49))).1 l).2) := rfl
theorem mealy_append {σ : Type} (f : σ → Bool → σ × Bool) (a b : List UInt8) (s : σ) : mealy f s (a ++ b) = ((mealy f (mealy f s a).1 b).1, (mealy f s a).2 ++ (mealy f (mealy f s a).1 b).2) := by
  induction a generalizing s with
  | nil => rfl
  | cons x a ih => rw [List.cons_append, mealy_cons, ih, mealy_cons]; rfl
theorem mealy_snoc {σ : Type} (f : σ → Bool → σ × Bool) (a : List UInt8) (b : UInt8) (s : σ) : mealy f s (a ++ [b]) = ((f (mealy f s a).1 (decide (b = 49))).1, (mealy f s a).2 ++ [bitC (f (mealy f s a).1 (decide (b = 49))).2]) := by
  rw [mealy_append]; rfl
theorem mealy_len {σ : Type} (f : σ → Bool → σ × Bool) (s : σ) (l : List UInt8) : (mealy f s l).2.length = l.length := by
  induction l generalizing s with
  | nil => rfl
  | cons b l ih => rw [mealy_cons]; simp [ih]
theorem mealy_bits {σ : Type} (f : σ → Bool → σ × Bool) (s : σ) (l : List UInt8) : ∀ x ∈ (mealy f s l).2, bitB x = true := by
  induction l generalizing s with
  | nil => intro x hx; cases hx
  | cons b l ih =>
    intro x hx
    rw [mealy_cons, List.mem_cons] at hx
    rcases hx with rfl | hx
    · exact bitC_bit _
    · exact ih _ x hx
theorem mealy_ok {σ : Type} (f : σ → Bool → σ × Bool) (s : σ) {l : List UInt8} (h : okB l = true) : okB (mealy f s l).2 = true :=
  okB_iff.2 ⟨mealy_bits f s l, by rw [mealy_len]; exact (okB_iff.1 h).2⟩
/-- a machine that takes back what another wrote, from the same state on -/
theorem mealy_back {σ : Type} {f g : σ → Bool → σ × Bool} (h : ∀ s b, g s (f s b).2 = ((f s b).1, b)) (s : σ) {l : List UInt8} (hl : ∀ x ∈ l, bitB x = true) : mealy g s (mealy f s l).2 = ((mealy f s l).1, l) := by
  induction l generalizing s with
  | nil => rfl
  | cons b l ih =>
    rw [mealy_cons, mealy_cons]
    simp only
    rw [bitC_one, h, ih _ (fun x hx => hl x (by simp [hx]))]
    simp only
    rw [bitC_of (hl b (by simp))]
/-- levels: a nought turns, a one leaves -/
def edP (lv : Bool) (one : Bool) : Bool × Bool := (if one then lv else !lv, if one then lv else !lv)
def edG (lv : Bool) (now : Bool) : Bool × Bool := (now, now == lv)
theorem edG_edP (s b : Bool) : edG s (edP s b).2 = ((edP s b).1, b) := by cases s <;> cases b <;> rfl
theorem edP_edG (s b : Bool) : edP s (edG s b).2 = ((edG s b).1, b) := by cases s <;> cases b <;> rfl
/-- from the other level all is turned -/
theorem edP_other (l : List UInt8) (s : Bool) : mealy edP (!s) l = (!(mealy edP s l).1, (mealy edP s l).2.map flipB) := by
  induction l generalizing s with
  | nil => rfl
  | cons b l ih =>
    rw [mealy_cons, mealy_cons]
    have e : (edP (!s) (decide (b = 49))) = (!(edP s (decide (b = 49))).1, !(edP s (decide (b = 49))).2) := by unfold edP; split <;> rfl
    rw [e, ih]
    simp only [List.map_cons]
    congr 2
    cases (edP s (decide (b = 49))).2 <;> rfl
/-- how often bits turn -/
def waveN : List UInt8 → Nat
  | a :: b :: r => (if a ≠ b then 1 else 0) + waveN (b :: r)
  | _ => 0
theorem waveN_two (a b : UInt8) (r : List UInt8) : waveN (a :: b :: r) = (if a ≠ b then 1 else 0) + waveN (b :: r) := rfl
/-- the noughts behind the first -/
def noughts (l : List UInt8) : Nat := l.count 48
theorem wave_edP (l : List UInt8) (s : Bool) (b : UInt8) (hl : ∀ x ∈ l, bitB x = true) : waveN (mealy edP s (b :: l)).2 = noughts l := by
  induction l generalizing s b with
  | nil => rfl
  | cons c l ih =>
    rw [mealy_cons, mealy_cons]
    simp only
    rw [waveN_two]
    have ih := ih (edP s (decide (b = 49))).1 c (fun x hx => hl x (by simp [hx]))
    rw [mealy_cons] at ih
    simp only at ih
    rw [ih]
    unfold noughts
    rw [List.count_cons]
    have hc := hl c (by simp)
    unfold bitB at hc
    simp only [Bool.or_eq_true, beq_iff_eq] at hc
    have e : ∀ x : Bool, (edP x (decide (b = 49))).2 = (edP x (decide (b = 49))).1 := fun x => rfl
    rw [e]
    generalize (edP s (decide (b = 49))).1 = u
    rcases hc with rfl | rfl <;> cases u <;> simp [edP, bitC] <;> omega
/-- what the model and the program count: noughts of what is read from the first level on -/
theorem wave_edG (l : List UInt8) (hl : ∀ x ∈ l, bitB x = true) : waveN l = noughts (mealy edG (decide (l.head? = some 49)) l).2 := by
  have H : ∀ (l : List UInt8) (b : UInt8), (∀ x ∈ b :: l, bitB x = true) → waveN (b :: l) = noughts (mealy edG (decide (b = 49)) l).2 := by
    intro l
    induction l with
    | nil => intro b _; rfl
    | cons c l ih =>
      intro b hb
      rw [waveN_two, ih c (fun x hx => hb x (by simp [hx])), mealy_cons]
      unfold noughts
      rw [List.count_cons]
      have h1 := hb b (by simp)
      have h2 := hb c (by simp)
      unfold bitB at h1 h2
      simp only [Bool.or_eq_true, beq_iff_eq] at h1 h2
      rcases h1 with rfl | rfl <;> rcases h2 with rfl | rfl <;> simp [edG, bitC] <;> omega
  cases l with
  | nil => rfl
  | cons b l =>
    rw [H l b hl, mealy_cons]
    unfold noughts
    rw [List.count_cons]
    have h1 := hl b (by simp)
    unfold bitB at h1
    simp only [Bool.or_eq_true, beq_iff_eq] at h1
    rcases h1 with rfl | rfl <;> simp [edG, bitC]
theorem waveN_le (l : List UInt8) : waveN l ≤ l.length := by
  induction l with
  | nil => exact Nat.le_refl _
  | cons a l ih =>
    cases l with
    | nil => simp [waveN]
    | cons b r => rw [waveN_two]; simp only [List.length_cons] at ih ⊢; split <;> omega
/-- one more -/
theorem waveN_snoc (l : List UInt8) (a b : UInt8) : waveN (l ++ [a] ++ [b]) = waveN (l ++ [a]) + (if a ≠ b then 1 else 0) := by
  induction l with
  | nil => simp [waveN]
  | cons c l ih =>
    cases l with
    | nil => simp [waveN]
    | cons d l =>
      simp only [List.cons_append] at ih ⊢
      rw [waveN_two, ih, waveN_two]; omega
theorem waveN_append (a b : List UInt8) (x y : UInt8) : waveN ((a ++ [x]) ++ (y :: b)) = waveN (a ++ [x]) + waveN (y :: b) + (if x ≠ y then 1 else 0) := by
  induction a with
  | nil => simp [waveN]; omega
  | cons c a ih =>
    cases a with
    | nil => simp only [List.cons_append, List.nil_append] at ih ⊢; rw [waveN_two, ih, waveN_two]; omega
    | cons d a => simp only [List.cons_append] at ih ⊢; rw [waveN_two, ih, waveN_two]; omega
/-- a code of halves turns at each of its bits -/
theorem wave_man (l : List UInt8) : l.length ≤ waveN (manL l) := by
  induction l with
  | nil => exact Nat.le_refl _
  | cons b l ih =>
    rw [manL_cons]
    cases hl : manL l with
    | nil =>
      rw [hl] at ih
      have : waveN [] = 0 := rfl
      rw [waveN_two, if_pos flipB_ne]
      simp only [List.length_cons]; omega
    | cons c r =>
      rw [hl] at ih
      rw [waveN_two, if_pos flipB_ne, waveN_two]
      simp only [List.length_cons]; omega
/-- no three ones stand together in it -/
theorem run_man (l : List UInt8) (hl : ∀ x ∈ l, bitB x = true) : runN (manL l) ≤ 2 := by
  have H : ∀ (l : List UInt8) (p : Nat × Nat), (∀ x ∈ l, bitB x = true) → p.1 ≤ 2 → p.2 ≤ 1 → ((manL l).foldl runStep p).1 ≤ 2 := by
    intro l
    induction l with
    | nil => intro p _ h _; exact h
    | cons b l ih =>
      intro p hb h1 h2
      rw [manL_cons, List.foldl_cons, List.foldl_cons]
      refine ih _ (fun x hx => hb x (by simp [hx])) ?_ ?_
      · have hc := hb b (by simp)
        unfold bitB at hc
        simp only [Bool.or_eq_true, beq_iff_eq] at hc
        rcases hc with rfl | rfl
        · show (runStep (runStep p 48) (flipB 48)).1 ≤ 2
          simp [runStep, flipB]; omega
        · show (runStep (runStep p 49) (flipB 49)).1 ≤ 2
          simp [runStep, flipB]; omega
      · have hc := hb b (by simp)
        unfold bitB at hc
        simp only [Bool.or_eq_true, beq_iff_eq] at hc
        rcases hc with rfl | rfl
        · show (runStep (runStep p 48) (flipB 48)).2 ≤ 1
          simp [runStep, flipB]
        · show (runStep (runStep p 49) (flipB 49)).2 ≤ 1
          simp [runStep, flipB]
  exact H l (0, 0) hl (by simp) (by simp)
/-- at how many places they are not the same -/
def farN (a b : List UInt8) : Nat := ((a.zip b).filter fun p => decide (p.1 ≠ p.2)).length
theorem farN_nil : farN [] [] = 0 := rfl
theorem farN_cons (x y : UInt8) (a b : List UInt8) : farN (x :: a) (y :: b) = (if x ≠ y then 1 else 0) + farN a b := by
  unfold farN
  rw [List.zip_cons_cons, List.filter_cons]
  by_cases h : x = y
  · simp [h]
  · simp [h]; omega
theorem farN_snoc (a b : List UInt8) (h : a.length = b.length) (x y : UInt8) : farN (a ++ [x]) (b ++ [y]) = farN a b + (if x ≠ y then 1 else 0) := by
  induction a generalizing b with
  | nil =>
    cases b with
    | nil => simp [farN_cons, farN_nil]
    | cons c b => simp at h
  | cons c a ih =>
    cases b with
    | nil => simp at h
    | cons d b => rw [List.cons_append, List.cons_append, farN_cons, ih b (by simpa using h), farN_cons]; omega
theorem farN_le (a b : List UInt8) : farN a b ≤ a.length := by
  induction a generalizing b with
  | nil => simp [farN]
  | cons x a ih =>
    cases b with
    | nil => simp [farN]
    | cons y b => rw [farN_cons]; have := ih b; simp only [List.length_cons]; split <;> omega
theorem far_flip (l : List UInt8) (hl : ∀ x ∈ l, bitB x = true) : farN l (l.map flipB) = l.length := by
  induction l with
  | nil => rfl
  | cons b l ih => rw [List.map_cons, farN_cons, if_pos flipB_ne, ih (fun x hx => hl x (by simp [hx])), List.length_cons]; omega
theorem far_comm (a b : List UInt8) : farN a b = farN b a := by
  induction a generalizing b with
  | nil => cases b <;> simp [farN]
  | cons x a ih =>
    cases b with
    | nil => simp [farN]
    | cons y b => rw [farN_cons, farN_cons, ih b]; congr 1; simp only [ne_comm (a := x)]
theorem far_zero (a b : List UInt8) (h : a.length = b.length) : farN a b = 0 ↔ a = b := by
  induction a generalizing b with
  | nil => cases b with
    | nil => simp [farN]
    | cons y b => simp at h
  | cons x a ih =>
    cases b with
    | nil => simp at h
    | cons y b =>
      rw [farN_cons, List.cons.injEq, ← ih b (by simpa using h)]
      by_cases e : x = y <;> simp [e]
theorem far_tri (a b c : List UInt8) (h1 : a.length = c.length) (h2 : c.length = b.length) : farN a b ≤ farN a c + farN c b := by
  induction a generalizing b c with
  | nil => simp [farN]
  | cons x a ih =>
    cases c with
    | nil => simp at h1
    | cons z c =>
      cases b with
      | nil => simp at h2
      | cons y b =>
        have := ih b c (by simpa using h1) (by simpa using h2)
        rw [farN_cons, farN_cons, farN_cons]
        by_cases e1 : x = y <;> by_cases e2 : x = z <;> by_cases e3 : z = y <;> simp [e1, e2, e3] <;> first | omega | (exfalso; subst_vars; simp_all)
end Go.Proofs.Ytcljldnaecldnaa
