/- Slips and numbers in bytes, plainly: how they are written and read (no program in this text). -/
import Derived.Test.YtcegpcggdcgjbaaGreatDoorKitA
namespace Go.Proofs.YtcegpcggdcgjbaaGreatDoor
/-- what a cursor reads, value by value, at most so many: the values, and what is left -/
def curRun {α : Type} (R : List UInt8 → α × Nat) : Nat → List UInt8 → List α × List UInt8
  | 0, t => ([], t)
  | n + 1, t => if (R t).2 = 0 then ([], t) else ((R t).1 :: (curRun R n (t.drop (R t).2)).1, (curRun R n (t.drop (R t).2)).2)
theorem curRun_zero {α : Type} (R : List UInt8 → α × Nat) (t : List UInt8) : curRun R 0 t = ([], t) := rfl
theorem curRun_stop {α : Type} (R : List UInt8 → α × Nat) (n : Nat) (t : List UInt8) (h : (R t).2 = 0) : curRun R n t = ([], t) := by
  cases n with
  | zero => rfl
  | succ n => rw [curRun, if_pos h]
theorem curRun_go {α : Type} (R : List UInt8 → α × Nat) (n : Nat) (t : List UInt8) (h : (R t).2 ≠ 0) : curRun R (n + 1) t = ((R t).1 :: (curRun R n (t.drop (R t).2)).1, (curRun R n (t.drop (R t).2)).2) := by
  rw [curRun, if_neg h]
/-- after some rounds: ys are read, r is left -/
def CurAt {α : Type} (R : List UInt8 → α × Nat) (n : Nat) (t : List UInt8) (ys : List α) (r : List UInt8) : Prop :=
  ys.length ≤ n ∧ curRun R n t = (ys ++ (curRun R (n - ys.length) r).1, (curRun R (n - ys.length) r).2)
theorem CurAt.start {α : Type} (R : List UInt8 → α × Nat) (n : Nat) (t : List UInt8) : CurAt R n t [] t := ⟨by simp, by simp⟩
theorem CurAt.step {α : Type} {R : List UInt8 → α × Nat} {n : Nat} {t r : List UInt8} {ys : List α} (h : CurAt R n t ys r) (hl : ys.length < n) (h0 : (R r).2 ≠ 0) : CurAt R n t (ys ++ [(R r).1]) (r.drop (R r).2) := by
  obtain ⟨_, h2⟩ := h
  refine ⟨by simp; omega, ?_⟩
  obtain ⟨m, hm⟩ : ∃ m, n - ys.length = m + 1 := ⟨n - ys.length - 1, by omega⟩
  rw [h2, hm, curRun_go R m r h0, show n - (ys ++ [(R r).1]).length = m by simp; omega]
  simp
theorem CurAt.full {α : Type} {R : List UInt8 → α × Nat} {n : Nat} {t r : List UInt8} {ys : List α} (h : CurAt R n t ys r) (hl : ys.length = n) : curRun R n t = (ys, r) := by
  rw [h.2, hl, Nat.sub_self, curRun_zero]; simp
theorem CurAt.done {α : Type} {R : List UInt8 → α × Nat} {n : Nat} {t r : List UInt8} {ys : List α} (h : CurAt R n t ys r) (h0 : (R r).2 = 0) : curRun R n t = (ys, r) := by
  rw [h.2, curRun_stop R _ r h0]; simp
theorem curRun_len {α : Type} (R : List UInt8 → α × Nat) : ∀ (n : Nat) (t : List UInt8), (curRun R n t).1.length ≤ n ∧ (curRun R n t).2.length ≤ t.length
  | 0, t => ⟨Nat.le_refl _, Nat.le_refl _⟩
  | n + 1, t => by
    by_cases h : (R t).2 = 0
    · rw [curRun_stop R _ t h]; simp
    · rw [curRun_go R n t h]
      have ih := curRun_len R n (t.drop (R t).2)
      rw [List.length_drop] at ih
      simp only [List.length_cons]
      omega
/-- a byte as a slip has it -/
def sl1 (b : UInt8) : List UInt8 := if b = 192 then [219, 220] else if b = 219 then [219, 221] else [b]
def slipL (l : List UInt8) : List UInt8 := l.flatMap sl1
theorem slipL_cons (b : UInt8) (l : List UInt8) : slipL (b :: l) = sl1 b ++ slipL l := rfl
theorem slipL_snoc (l : List UInt8) (b : UInt8) : slipL (l ++ [b]) = slipL l ++ sl1 b := by simp [slipL]
theorem slipL_len (l : List UInt8) : l.length ≤ (slipL l).length ∧ (slipL l).length ≤ 2 * l.length := by
  induction l with
  | nil => exact ⟨Nat.le_refl _, Nat.le_refl _⟩
  | cons b l ih =>
    have h1 : 1 ≤ (sl1 b).length ∧ (sl1 b).length ≤ 2 := by unfold sl1; split <;> (try split) <;> simp
    rw [slipL_cons, List.length_append, List.length_cons]
    omega
def putS (l : List UInt8) : List UInt8 := if 600 < l.length then [] else slipL l ++ [192]
theorem putS_len (l : List UInt8) : (putS l).length ≤ 1201 := by
  unfold putS
  split
  · simp
  · have := slipL_len l
    simp only [List.length_append, List.length_cons, List.length_nil]; omega
theorem putS_nil {l : List UInt8} : putS l = [] ↔ 600 < l.length := by
  unfold putS
  split
  · simp [*]
  · rename_i h; simp; omega
def slRead (t : List UInt8) : UInt8 × Nat :=
  match t with
  | [] => (0, 0)
  | b :: r => if b = 192 then (0, 0) else if b ≠ 219 then (b, 1) else if r.head? = some 220 then (192, 2) else if r.head? = some 221 then (219, 2) else (0, 0)
theorem slRead_put (b : UInt8) (r : List UInt8) : slRead (sl1 b ++ r) = (b, (sl1 b).length) := by
  unfold sl1
  split
  · rename_i h; subst h; rfl
  · split
    · rename_i h; subst h; rfl
    · rename_i h1 h2
      show (if b = 192 then _ else _) = _
      rw [if_neg h1, if_pos h2]
      rfl
theorem slRead_lt (t : List UInt8) : (slRead t).2 ≤ t.length ∧ (slRead t).2 ≤ 2 := by
  unfold slRead
  split
  · simp
  · rename_i b r
    split
    · simp
    · split
      · simp
      · cases r with
        | nil => simp
        | cons c r => split <;> (try split) <;> simp
theorem slRead_eq {t : List UInt8} (h : (slRead t).2 ≠ 0) : t = sl1 (slRead t).1 ++ t.drop (slRead t).2 := by
  unfold slRead at h ⊢
  cases t with
  | nil => simp at h
  | cons b r =>
    simp only at h ⊢
    by_cases h1 : b = 192
    · rw [if_pos h1] at h; simp at h
    rw [if_neg h1] at h ⊢
    by_cases h2 : b ≠ 219
    · rw [if_pos h2]
      have h3 : b ≠ 219 := h2
      simp [sl1, h1, h3]
    rw [if_neg h2] at h ⊢
    have h3 : b = 219 := by simpa using h2
    cases r with
    | nil => simp at h
    | cons c r =>
      simp only [List.head?_cons, Option.some.injEq] at h ⊢
      by_cases h4 : c = 220
      · rw [if_pos h4]; subst h4 h3; rfl
      · rw [if_neg h4] at h ⊢
        by_cases h5 : c = 221
        · rw [if_pos h5]; subst h5 h3; rfl
        · rw [if_neg h5] at h; simp at h
theorem slRun_put : ∀ (s : List UInt8) (n : Nat), s.length ≤ n → curRun slRead n (slipL s ++ [192]) = (s, [192])
  | [], n, _ => by rw [show slipL [] ++ [192] = [192] from rfl]; exact curRun_stop slRead n [192] rfl
  | b :: s, n, h => by
    obtain ⟨m, rfl⟩ : ∃ m, n = m + 1 := ⟨n - 1, by simp at h; omega⟩
    have h1 := slRead_put b (slipL s ++ [192])
    have h2 : 1 ≤ (sl1 b).length := by unfold sl1; split <;> (try split) <;> simp
    rw [slipL_cons, List.append_assoc, curRun_go slRead m _ (by rw [h1]; simp only; omega), h1]
    simp only [List.drop_left]
    rw [slRun_put s m (by simp at h; omega)]
theorem slRun_get : ∀ (n : Nat) (t : List UInt8), t = slipL (curRun slRead n t).1 ++ (curRun slRead n t).2
  | 0, t => rfl
  | n + 1, t => by
    by_cases h : (slRead t).2 = 0
    · rw [curRun_stop slRead _ t h]; rfl
    · rw [curRun_go slRead n t h]
      simp only
      rw [slipL_cons, List.append_assoc, ← slRun_get n (t.drop (slRead t).2)]
      exact slRead_eq h
def okS (t : List UInt8) : Bool := decide ((curRun slRead 600 t).2 = [192])
def getS (t : List UInt8) : List UInt8 := if okS t = true then (curRun slRead 600 t).1 else []
theorem okS_put {s : List UInt8} (h : s.length ≤ 600) : okS (slipL s ++ [192]) = true ∧ getS (slipL s ++ [192]) = s := by
  have h1 := slRun_put s 600 h
  have h2 : okS (slipL s ++ [192]) = true := by unfold okS; rw [h1]; rfl
  refine ⟨h2, ?_⟩
  unfold getS
  rw [if_pos h2, h1]
theorem okS_get {t : List UInt8} (h : okS t = true) : t = slipL (getS t) ++ [192] ∧ (getS t).length ≤ 600 := by
  have h1 : (curRun slRead 600 t).2 = [192] := of_decide_eq_true h
  unfold getS
  rw [if_pos h]
  have h2 := slRun_get 600 t
  rw [h1] at h2
  exact ⟨h2, (curRun_len slRead 600 t).1⟩
theorem okS_iff (t : List UInt8) : okS t = true ↔ ∃ s : List UInt8, s.length ≤ 600 ∧ t = slipL s ++ [192] := by
  constructor
  · intro h; exact ⟨getS t, (okS_get h).2, (okS_get h).1⟩
  · rintro ⟨s, h, rfl⟩; exact (okS_put h).1
theorem putS_getS {t : List UInt8} (h : okS t = true) : putS (getS t) = t := by
  obtain ⟨h1, h2⟩ := okS_get h
  unfold putS
  rw [if_neg (by omega), ← h1]
theorem getS_putS {s : List UInt8} (h : s.length ≤ 600) : okS (putS s) = true ∧ getS (putS s) = s := by
  unfold putS
  rw [if_neg (by omega)]
  exact okS_put h
theorem getS_len (t : List UInt8) : (getS t).length ≤ 600 := by
  cases h : okS t with
  | true => exact (okS_get h).2
  | false => unfold getS; rw [h]; simp
/-- how the model reads: whatever stands there -/
def lenD : List UInt8 → List UInt8
  | [] => []
  | [_] => []
  | a :: b :: r => if a = 219 ∧ b = 220 then 192 :: lenD r else if a = 219 ∧ b = 221 then 219 :: lenD r else a :: lenD (b :: r)
theorem lenD_put : ∀ s : List UInt8, lenD (slipL s ++ [192]) = s
  | [] => rfl
  | b :: s => by
    have ih := lenD_put s
    rw [slipL_cons, List.append_assoc]
    unfold sl1
    by_cases h1 : b = 192
    · rw [if_pos h1, h1]
      show lenD (219 :: 220 :: (slipL s ++ [192])) = _
      rw [lenD, if_pos ⟨rfl, rfl⟩, ih]
    rw [if_neg h1]
    by_cases h2 : b = 219
    · rw [if_pos h2, h2]
      show lenD (219 :: 221 :: (slipL s ++ [192])) = _
      rw [lenD, if_neg (by decide), if_pos ⟨rfl, rfl⟩, ih]
    rw [if_neg h2]
    obtain ⟨c, r, hr⟩ : ∃ c r, slipL s ++ [192] = c :: r := by
      cases h : slipL s ++ [192] with
      | nil => simp at h
      | cons c r => exact ⟨c, r, rfl⟩
    rw [hr] at ih ⊢
    show lenD (b :: c :: r) = _
    rw [lenD, if_neg (by intro h; exact h2 h.1), if_neg (by intro h; exact h2 h.1), ih]
/-- what the model says -/
theorem model_ok {t : List UInt8} (h : (lenD t).length ≤ 600) (h2 : slipL (lenD t) ++ [192] = t) : okS t = true ∧ getS t = lenD t := by
  have h3 := okS_put h
  rw [h2] at h3
  exact h3
theorem model_no {t : List UInt8} (h : 1201 < t.length ∨ 600 < (lenD t).length ∨ slipL (lenD t) ++ [192] ≠ t) : okS t = false ∧ getS t = [] := by
  have h1 : okS t = false := by
    cases hk : okS t with
    | false => rfl
    | true =>
      obtain ⟨h1, h2⟩ := okS_get hk
      have h3 : lenD t = getS t := by
        have := lenD_put (getS t)
        rwa [← h1] at this
      have h4 := putS_len (getS t)
      rw [putS_getS hk] at h4
      rcases h with h | h | h
      · omega
      · rw [h3] at h; omega
      · rw [h3] at h; exact absurd h1.symm h
  exact ⟨h1, by unfold getS; rw [h1]; rfl⟩
/-- after some steps of the model: i bytes are read -/
def LenAt (t : List UInt8) (i : Nat) (out : List UInt8) : Prop := lenD t = out ++ lenD (t.drop i) ∧ out.length ≤ i
theorem LenAt.start (t : List UInt8) : LenAt t 0 [] := ⟨by simp, Nat.le_refl _⟩
theorem drop_two {t : List UInt8} {i : Nat} (h : i + 1 < t.length) : t.drop i = t[i] :: t[i + 1] :: t.drop (i + 2) := by
  rw [List.drop_eq_getElem_cons (by omega), List.drop_eq_getElem_cons h]
theorem LenAt.two {t : List UInt8} {i : Nat} {out : List UInt8} (h : LenAt t i out) (hi : i + 1 < t.length) (ha : t[i] = 219) {b : UInt8} (hb : t[i + 1] = 220 ∧ b = 192 ∨ t[i + 1] = 221 ∧ b = 219) : LenAt t (i + 2) (out ++ [b]) := by
  obtain ⟨h1, h2⟩ := h
  refine ⟨?_, by simp; omega⟩
  rw [h1, drop_two hi, lenD]
  rcases hb with ⟨hb, rfl⟩ | ⟨hb, rfl⟩
  · rw [if_pos ⟨ha, hb⟩]; simp
  · rw [if_neg (by rw [hb]; rintro ⟨_, h⟩; exact absurd h (by decide)), if_pos ⟨ha, hb⟩]; simp
theorem LenAt.one {t : List UInt8} {i : Nat} {out : List UInt8} (h : LenAt t i out) (hi : i + 1 < t.length) (ha : ¬ (t[i] = 219 ∧ (t[i + 1] = 220 ∨ t[i + 1] = 221))) : LenAt t (i + 1) (out ++ [t[i]]) := by
  obtain ⟨h1, h2⟩ := h
  refine ⟨?_, by simp; omega⟩
  rw [h1, drop_two hi, lenD, if_neg (fun h => ha ⟨h.1, .inl h.2⟩), if_neg (fun h => ha ⟨h.1, .inr h.2⟩), ← List.drop_eq_getElem_cons hi]
  simp
theorem LenAt.done {t : List UInt8} {i : Nat} {out : List UInt8} (h : LenAt t i out) (hi : t.length ≤ i + 1) : out = lenD t := by
  have h2 : lenD (t.drop i) = [] := by
    have hl : (t.drop i).length ≤ 1 := by rw [List.length_drop]; omega
    match hd : t.drop i, hl with
    | [], _ => rfl
    | [_], _ => rfl
    | _ :: _ :: _, hl => simp at hl
  rw [h.1, h2, List.append_nil]
/-- the ends in a slip -/
def ends (l : List UInt8) : Nat := l.count 192
theorem ends_slipL (l : List UInt8) : ends (slipL l) = 0 := by
  induction l with
  | nil => rfl
  | cons b l ih =>
    unfold ends at ih ⊢
    rw [slipL_cons, List.count_append, ih]
    unfold sl1
    split
    · rfl
    · split
      · rfl
      · rename_i h _
        simp [h]
theorem ends_putS {l : List UInt8} (h : l.length ≤ 600) : ends (putS l) = 1 := by
  unfold putS
  rw [if_neg (by omega)]
  have := ends_slipL l
  unfold ends at *
  rw [List.count_append, this]
  rfl
end Go.Proofs.YtcegpcggdcgjbaaGreatDoor
