/- Nets, plainly: figures, numbers, bytes behind how many they are (no program in this text). -/
import Derived.Test.YtcegpcggdcgjbaaGreatDoorSlpA
import Derived.Lib.ItoaNum
import Derived.Lib.ItoaMem
import Derived.Lib.AtoiAll
namespace Go.Proofs.YtcegpcggdcgjbaaGreatDoor
open Go.Lib (decDigits itoa)
def digB (c : UInt8) : Bool := decide (48 ≤ c.toNat ∧ c.toNat ≤ 57)
def numV (w : List UInt8) : Nat := w.foldl (fun a c => a * 10 + (c.toNat - 48)) 0
theorem numV_snoc (w : List UInt8) (c : UInt8) : numV (w ++ [c]) = numV w * 10 + (c.toNat - 48) := by simp [numV, List.foldl_append]
def numOkB (w : List UInt8) : Bool := w.all digB && decide (1 ≤ w.length ∧ w.length ≤ 6) && !(decide (1 < w.length ∧ w.headD 0 = 48))
def numL (w : List UInt8) : Int := if numOkB w = true then (numV w : Int) else -1
theorem fig_toNat {d : Nat} (h : d < 10) : (UInt8.ofNat (48 + d)).toNat = 48 + d := by rw [UInt8.toNat_ofNat']; omega
theorem fig_dig {d : Nat} (h : d < 10) : digB (UInt8.ofNat (48 + d)) = true := by unfold digB; rw [fig_toNat h]; exact decide_eq_true (by omega)
theorem dec_small {n : Nat} (h : n < 10) : decDigits n = [UInt8.ofNat (48 + n)] := by rw [decDigits, dif_pos h]
theorem dec_big {n : Nat} (h : ¬ n < 10) : decDigits n = decDigits (n / 10) ++ [UInt8.ofNat (48 + n % 10)] := by rw [decDigits, dif_neg h]
theorem dec_val (n : Nat) : numV (decDigits n) = n := by
  induction n using Nat.strongRecOn with
  | ind n ih =>
    by_cases h : n < 10
    · rw [dec_small h]
      show 0 * 10 + ((UInt8.ofNat (48 + n)).toNat - 48) = n
      rw [fig_toNat h]; omega
    · rw [dec_big h, numV_snoc, ih (n / 10) (by omega), fig_toNat (by omega)]; omega
theorem dec_all (n : Nat) : (decDigits n).all digB = true := by
  induction n using Nat.strongRecOn with
  | ind n ih =>
    by_cases h : n < 10
    · rw [dec_small h, List.all_cons, fig_dig h]; rfl
    · rw [dec_big h, List.all_append, ih (n / 10) (by omega), List.all_cons, fig_dig (by omega)]; rfl
theorem dec_ne (n : Nat) : 1 ≤ (decDigits n).length := by
  by_cases h : n < 10
  · rw [dec_small h]; simp
  · rw [dec_big h]; simp
theorem dec_len : ∀ (k n : Nat), n < 10 ^ (k + 1) → (decDigits n).length ≤ k + 1
  | 0, n, h => by rw [dec_small (by omega)]; simp
  | k + 1, n, h => by
    by_cases h1 : n < 10
    · rw [dec_small h1]; simp
    · rw [dec_big h1, List.length_append]
      have := dec_len k (n / 10) (by rw [Nat.pow_succ] at h; omega)
      simp only [List.length_cons, List.length_nil]; omega
theorem headD_append {l m : List UInt8} (h : 1 ≤ l.length) : (l ++ m).headD 0 = l.headD 0 := by
  cases l with
  | nil => simp at h
  | cons a l => rfl
theorem dec_head (n : Nat) (h0 : 1 ≤ n) : (decDigits n).headD 0 ≠ 48 := by
  induction n using Nat.strongRecOn with
  | ind n ih =>
    by_cases h : n < 10
    · rw [dec_small h]
      show UInt8.ofNat (48 + n) ≠ 48
      intro e
      have := congrArg UInt8.toNat e
      rw [fig_toNat h] at this
      have h48 : (48 : UInt8).toNat = 48 := rfl
      omega
    · rw [dec_big h, headD_append (dec_ne _)]; exact ih (n / 10) (by omega) (by omega)
theorem dec_ok {n : Nat} (h : n ≤ 999999) : numOkB (decDigits n) = true := by
  unfold numOkB
  have h1 := dec_ne n
  have h2 := dec_len 5 n (by omega)
  rw [dec_all, decide_eq_true ⟨h1, h2⟩]
  simp only [Bool.true_and, Bool.not_eq_true', decide_eq_false_iff_not]
  rintro ⟨h3, h4⟩
  by_cases h0 : n < 10
  · rw [dec_small h0] at h3; simp at h3
  · exact dec_head n (by omega) h4
theorem dig_le {c : UInt8} (h : digB c = true) : 48 ≤ c.toNat ∧ c.toNat ≤ 57 := of_decide_eq_true h
theorem fig_of {c : UInt8} (h : digB c = true) : UInt8.ofNat (48 + (c.toNat - 48)) = c := by
  have := dig_le h
  apply UInt8.toNat_inj.1
  rw [fig_toNat (by omega)]; omega
theorem list_snoc {l : List UInt8} (h : 1 ≤ l.length) : ∃ a c, l = a ++ [c] := by
  have hn : l ≠ [] := fun e => by rw [e] at h; simp at h
  exact ⟨l.dropLast, l.getLast hn, (List.dropLast_concat_getLast hn).symm⟩
theorem dec_of' : ∀ (k : Nat) (l : List UInt8), l.length = k + 1 → l.all digB = true → l.headD 0 ≠ 48 → 1 ≤ numV l ∧ decDigits (numV l) = l
  | 0, l, hl, hd, h0 => by
    match l, hl with
    | [c], _ =>
      rw [List.all_cons, Bool.and_eq_true] at hd
      have h1 := dig_le hd.1
      have hc : c.toNat ≠ 48 := fun e => h0 (UInt8.toNat_inj.1 (by rw [show ([c] : List UInt8).headD 0 = c from rfl, e]; rfl))
      have e : numV [c] = c.toNat - 48 := by show 0 * 10 + (c.toNat - 48) = _; omega
      rw [e, dec_small (by omega), fig_of hd.1]
      exact ⟨by omega, rfl⟩
  | k + 1, l, hl, hd, h0 => by
    obtain ⟨a, c, rfl⟩ := list_snoc (l := l) (by omega)
    rw [List.length_append] at hl
    simp only [List.length_cons, List.length_nil] at hl
    rw [List.all_append, Bool.and_eq_true, List.all_cons, Bool.and_eq_true] at hd
    rw [headD_append (by omega)] at h0
    obtain ⟨i1, i2⟩ := dec_of' k a (by omega) hd.1 h0
    have h1 := dig_le hd.2.1
    rw [numV_snoc]
    refine ⟨by omega, ?_⟩
    rw [dec_big (by omega), show (numV a * 10 + (c.toNat - 48)) / 10 = numV a by omega, i2, show (numV a * 10 + (c.toNat - 48)) % 10 = c.toNat - 48 by omega, fig_of hd.2.1]
theorem num_parts {w : List UInt8} (h : numOkB w = true) : w.all digB = true ∧ 1 ≤ w.length ∧ w.length ≤ 6 ∧ ¬ (1 < w.length ∧ w.headD 0 = 48) := by
  unfold numOkB at h
  rw [Bool.and_eq_true, Bool.and_eq_true, decide_eq_true_iff, Bool.not_eq_true', decide_eq_false_iff_not] at h
  exact ⟨h.1.1, h.1.2.1, h.1.2.2, h.2⟩
theorem dec_of {w : List UInt8} (h : numOkB w = true) : decDigits (numV w) = w := by
  obtain ⟨hd, h1, _, h4⟩ := num_parts h
  by_cases h0 : w.headD 0 = 48
  · match w, h1, h0 with
    | [c], _, h0 =>
      have e : c = 48 := h0
      subst e
      rw [show numV [48] = 0 from rfl, dec_small (by omega)]; rfl
    | c :: d :: w, _, h0 => exact absurd ⟨by simp, h0⟩ h4
  · exact (dec_of' (w.length - 1) w (by omega) hd h0).2
theorem numV_lt : ∀ (k : Nat) (l : List UInt8), l.length = k → l.all digB = true → numV l < 10 ^ k
  | 0, l, hl, hd => by rw [List.eq_nil_of_length_eq_zero hl]; decide
  | k + 1, l, hl, hd => by
    obtain ⟨a, c, rfl⟩ := list_snoc (l := l) (by omega)
    rw [List.length_append] at hl
    simp only [List.length_cons, List.length_nil] at hl
    rw [List.all_append, Bool.and_eq_true, List.all_cons, Bool.and_eq_true] at hd
    have := numV_lt k a (by omega) hd.1
    have h1 := dig_le hd.2.1
    rw [numV_snoc, Nat.pow_succ]; omega
theorem numV_le {w : List UInt8} (h : numOkB w = true) : numV w ≤ 999999 := by
  obtain ⟨hd, h1, h2, _⟩ := num_parts h
  have h3 := numV_lt _ w rfl hd
  have h4 : 10 ^ w.length ≤ 10 ^ 6 := Nat.pow_le_pow_right (by omega) h2
  omega
/-- what the library reads of a word of figures -/
theorem parse_dig : ∀ (l : List UInt8) (j acc : Nat), l.all digB = true → acc < 10 ^ j → j + l.length ≤ 6 → Go.Lib.parseUint10 acc l = .ok (l.foldl (fun a c => a * 10 + (c.toNat - 48)) acc)
  | [], j, acc, _, _, _ => rfl
  | c :: r, j, acc, hd, ha, hl => by
    rw [List.all_cons, Bool.and_eq_true] at hd
    rw [List.length_cons] at hl
    have h1 := dig_le hd.1
    have h2 : 10 ^ j ≤ 10 ^ 6 := Nat.pow_le_pow_right (by omega) (by omega)
    rw [Go.Lib.parseUint10, if_pos h1, if_neg (by omega), if_neg (by omega), List.foldl_cons]
    exact parse_dig r (j + 1) _ hd.2 (by rw [Nat.pow_succ]; omega) (by omega)
theorem atoi_ok {w : List UInt8} (h : numOkB w = true) : Go.Lib.atoiAll w = .ok (numV w : Int) := by
  obtain ⟨hd, h1, h2, _⟩ := num_parts h
  have h9 := numV_le h
  match w, h1 with
  | c :: r, _ =>
    have hc := dig_le (show digB c = true by rw [List.all_cons, Bool.and_eq_true] at hd; exact hd.1)
    have hp : Go.Lib.parseMag (c :: r) = .ok (numV (c :: r)) := by
      unfold Go.Lib.parseMag
      rw [if_neg (by simp)]
      exact parse_dig (c :: r) 0 0 hd (by omega) (by omega)
    unfold Go.Lib.atoiAll
    simp only
    rw [if_neg (by omega), hp]
    simp only
    rw [if_neg (by omega), if_neg (by omega), if_neg (by omega)]
/-- the program's number of a word -/
theorem num_of {w : List UInt8} {v : Int} (hv : 0 ≤ v) (h9 : v ≤ 999999) (h : itoa v = w) : numL w = v := by
  obtain ⟨n, rfl⟩ := Int.eq_ofNat_of_zero_le hv
  have e : itoa (n : Int) = decDigits n := Go.Lib.itoa_nonneg n
  rw [e] at h
  subst h
  unfold numL
  rw [if_pos (dec_ok (by omega)), dec_val]
theorem num_no {w : List UInt8} (h : ∀ v : Int, Go.Lib.atoiAll w = .ok v → ¬ (0 ≤ v ∧ v ≤ 999999 ∧ itoa v = w)) : numL w = -1 := by
  unfold numL
  rw [if_neg]
  intro hk
  refine h _ (atoi_ok hk) ⟨by omega, by have := numV_le hk; omega, ?_⟩
  rw [show itoa (numV w : Int) = decDigits (numV w) from Go.Lib.itoa_nonneg _, dec_of hk]
theorem num_lt (w : List UInt8) : -1 ≤ numL w ∧ numL w ≤ 999999 := by
  unfold numL
  split
  · rename_i h; have := numV_le h; omega
  · omega
/-- what the law's own loop reads: the figures so far -/
theorem num_take {w : List UInt8} {k : Nat} (h : k < w.length) : numV (w.take (k + 1)) = numV (w.take k) * 10 + (w[k].toNat - 48) := by
  rw [List.take_succ_eq_append_getElem h, numV_snoc]
theorem num_bad {w : List UInt8} {k : Nat} (h : k < w.length) (hb : digB w[k] = false ∨ 6 ≤ k) : numL w = -1 := by
  unfold numL
  rw [if_neg]
  intro hk
  obtain ⟨hd, h1, h2, _⟩ := num_parts hk
  rcases hb with hb | hb
  · rw [List.all_eq_true.1 hd _ (List.getElem_mem h)] at hb; cases hb
  · omega
theorem num_all {w : List UInt8} (h : ∀ k (hk : k < w.length), digB w[k] = true) : w.all digB = true := by
  rw [List.all_eq_true]
  intro x hx
  obtain ⟨i, hi, rfl⟩ := List.mem_iff_getElem.1 hx
  exact h i hi
/-- bytes behind how many they are -/
def netPutL (s : List UInt8) : List UInt8 := if 600 < s.length then [] else decDigits s.length ++ [58] ++ s ++ [44]
def wordL (t : List UInt8) : List UInt8 := t.takeWhile (fun c => c != 58)
def restL (t : List UInt8) : List UInt8 := (t.dropWhile (fun c => c != 58)).drop 1
def netOkB (t : List UInt8) : Bool := decide (0 ≤ numL (wordL t) ∧ numL (wordL t) ≤ 600 ∧ numL (wordL t) < (restL t).length ∧ (restL t).getD (numL (wordL t)).toNat 0 = 44)
def netGetL (t : List UInt8) : List UInt8 × Nat := if netOkB t = true then ((restL t).take (numL (wordL t)).toNat, (wordL t).length + 1 + (numL (wordL t)).toNat + 1) else ([], 0)
theorem word_of {d r : List UInt8} (h : ∀ c ∈ d, c ≠ 58) : wordL (d ++ 58 :: r) = d ∧ restL (d ++ 58 :: r) = r := by
  unfold wordL restL
  induction d with
  | nil => simp
  | cons c d ih =>
    have hc : (c != 58) = true := bne_iff_ne.2 (h c (by simp))
    obtain ⟨i1, i2⟩ := ih (fun x hx => h x (by simp [hx]))
    rw [List.cons_append, List.takeWhile_cons_of_pos (p := fun c => c != 58) hc, List.dropWhile_cons_of_pos (p := fun c => c != 58) hc, i1]
    exact ⟨rfl, i2⟩
theorem word_none {t : List UInt8} (h : 58 ∉ t) : wordL t = t ∧ restL t = [] := by
  unfold wordL restL
  induction t with
  | nil => exact ⟨rfl, rfl⟩
  | cons c d ih =>
    have hc : (c != 58) = true := bne_iff_ne.2 (fun e => h (by rw [e]; simp))
    obtain ⟨i1, i2⟩ := ih (fun hx => h (by simp [hx]))
    rw [List.takeWhile_cons_of_pos (p := fun c => c != 58) hc, List.dropWhile_cons_of_pos (p := fun c => c != 58) hc, i1]
    exact ⟨rfl, i2⟩
/-- a list with a colon is its word, the colon and the rest -/
theorem word_split {t : List UInt8} (h : 58 ∈ t) : t = wordL t ++ 58 :: restL t ∧ 58 ∉ wordL t := by
  unfold wordL restL
  induction t with
  | nil => simp at h
  | cons c d ih =>
    by_cases hc : c = 58
    · subst hc; simp
    · have hb : (c != 58) = true := bne_iff_ne.2 hc
      obtain ⟨i1, i2⟩ := ih (by rcases List.mem_cons.1 h with h | h; exact absurd h.symm hc; exact h)
      rw [List.takeWhile_cons_of_pos (p := fun c => c != 58) hb, List.dropWhile_cons_of_pos (p := fun c => c != 58) hb]
      refine ⟨by rw [List.cons_append, ← i1], ?_⟩
      intro hm
      rcases List.mem_cons.1 hm with h | h
      · exact hc h.symm
      · exact i2 h
theorem dig_ne {c : UInt8} (h : digB c = true) : c ≠ 58 := by
  intro e
  have := dig_le h
  rw [e] at this
  have h58 : (58 : UInt8).toNat = 58 := rfl
  omega
theorem dec_ne58 (n : Nat) : ∀ c ∈ decDigits n, c ≠ 58 := fun c hc => dig_ne (List.all_eq_true.1 (dec_all n) c hc)
theorem put_len {s : List UInt8} (h : s.length ≤ 600) : (netPutL s).length = (decDigits s.length).length + s.length + 2 := by
  unfold netPutL
  rw [if_neg (by omega)]
  simp only [List.length_append, List.length_cons, List.length_nil]; omega
theorem put_short (s : List UInt8) : (netPutL s).length ≤ 606 := by
  unfold netPutL
  split
  · simp
  · have := dec_len 3 s.length (by omega)
    simp only [List.length_append, List.length_cons, List.length_nil]; omega
theorem put_nil {s : List UInt8} : netPutL s = [] ↔ 600 < s.length := by
  constructor
  · intro h
    refine Nat.lt_of_not_le fun hl => ?_
    have := put_len hl
    rw [h] at this
    simp at this
  · intro h; unfold netPutL; rw [if_pos h]
/-- bytes are read back from behind how many they are, whatever stands behind -/
theorem net_back {s : List UInt8} (h : s.length ≤ 600) (u : List UInt8) : netGetL (netPutL s ++ u) = (s, (netPutL s).length) := by
  have e : netPutL s ++ u = decDigits s.length ++ 58 :: (s ++ 44 :: u) := by
    unfold netPutL; rw [if_neg (by omega)]; simp
  obtain ⟨e1, e2⟩ := word_of (d := decDigits s.length) (r := s ++ 44 :: u) (dec_ne58 _)
  have hn : numL (decDigits s.length) = (s.length : Int) := by
    unfold numL; rw [if_pos (dec_ok (by omega)), dec_val]
  rw [e]
  unfold netGetL
  have hok : netOkB (decDigits s.length ++ 58 :: (s ++ 44 :: u)) = true := by
    unfold netOkB
    rw [e1, e2, hn]
    refine decide_eq_true ⟨by omega, by omega, ?_, ?_⟩
    · simp only [List.length_append, List.length_cons]; omega
    · rw [Int.toNat_natCast, List.getD_eq_getElem?_getD, List.getElem?_append_right (Nat.le_refl _), Nat.sub_self]; rfl
  rw [if_pos hok, e1, e2, hn, Int.toNat_natCast, List.take_left, put_len h]
  exact congrArg (Prod.mk s) (by omega)
theorem net_parts {t : List UInt8} (h : netOkB t = true) : ∃ m : Nat, numL (wordL t) = (m : Int) ∧ m ≤ 600 ∧ m < (restL t).length ∧ (restL t).getD m 0 = 44 ∧ numOkB (wordL t) = true ∧ numV (wordL t) = m ∧ 58 ∈ t := by
  have h1 := of_decide_eq_true h
  obtain ⟨m, hm⟩ := Int.eq_ofNat_of_zero_le h1.1
  have hk : numOkB (wordL t) = true := by
    cases hk : numOkB (wordL t) with
    | true => rfl
    | false => unfold numL at hm; rw [hk, if_neg (by decide)] at hm; omega
  have hv : numL (wordL t) = (numV (wordL t) : Int) := by unfold numL; rw [if_pos hk]
  rw [hm] at h1
  refine ⟨m, hm, by omega, by omega, by simpa using h1.2.2.2, hk, by omega, ?_⟩
  refine Classical.byContradiction fun hc => ?_
  have := (word_none hc).2
  rw [this] at h1
  simp at h1
/-- what is read so is written just so -/
theorem net_again {t : List UInt8} (h : (netGetL t).2 ≠ 0) : netPutL (netGetL t).1 = t.take (netGetL t).2 ∧ (netGetL t).2 ≤ t.length := by
  have hok : netOkB t = true := by
    cases hk : netOkB t with
    | true => rfl
    | false => unfold netGetL at h; rw [hk, if_neg (by decide)] at h; exact absurd rfl h
  obtain ⟨m, hm, h6, hl, h44, hk, hv, hin⟩ := net_parts hok
  obtain ⟨es, hno⟩ := word_split hin
  have e1 : netGetL t = ((restL t).take m, (wordL t).length + 1 + m + 1) := by
    unfold netGetL; rw [if_pos hok, hm, Int.toNat_natCast]
  rw [e1]
  simp only
  have ed : decDigits m = wordL t := by rw [← hv]; exact dec_of hk
  have er : (restL t).take (m + 1) = (restL t).take m ++ [44] := by
    rw [List.take_succ_eq_append_getElem hl]
    congr 2
    rw [List.getD_eq_getElem?_getD, List.getElem?_eq_getElem hl] at h44
    exact h44
  generalize wordL t = W at *
  generalize restL t = R at *
  subst es
  constructor
  · unfold netPutL
    rw [if_neg (by rw [List.length_take]; omega), List.length_take, Nat.min_eq_left (by omega), ed]
    rw [List.take_append, List.take_of_length_le (l := W) (by omega), show W.length + 1 + m + 1 - W.length = (m + 1) + 1 by omega, List.take_succ_cons, er]
    simp
  · simp only [List.length_append, List.length_cons]
    omega
theorem netGet_le (t : List UInt8) : (netGetL t).2 ≤ t.length := by
  by_cases h : (netGetL t).2 = 0
  · omega
  · exact (net_again h).2
/-- all, one behind the other: at most twelve -/
def netAllL (t : List UInt8) : List (List UInt8) × Bool := if (curRun netGetL 12 t).2 = [] then ((curRun netGetL 12 t).1, true) else ([], false)
theorem netGet_nil : (netGetL []).2 = 0 := by
  have := netGet_le []
  simpa using this
/-- all that is read is written again -/
theorem run_again : ∀ (n : Nat) (t : List UInt8), ((curRun netGetL n t).1.flatMap netPutL) ++ (curRun netGetL n t).2 = t
  | 0, t => by simp [curRun]
  | n + 1, t => by
    by_cases h : (netGetL t).2 = 0
    · rw [curRun_stop netGetL _ t h]; simp
    · rw [curRun_go netGetL n t h]
      have ih := run_again n (t.drop (netGetL t).2)
      simp only [List.flatMap_cons, List.append_assoc]
      rw [ih, (net_again h).1, List.take_append_drop]
end Go.Proofs.YtcegpcggdcgjbaaGreatDoor
