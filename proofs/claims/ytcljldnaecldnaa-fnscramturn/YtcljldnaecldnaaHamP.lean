/- Plainly (no program in this text). -/
import Derived.Test.YtcljldnaecldnaaWavP
namespace Go.Proofs.Ytcljldnaecldnaa
/-- three bits together -/
def x3 (p q r : UInt8) : UInt8 := bitC ((decide (p = 49) != decide (q = 49)) != decide (r = 49))
def ham7 (a b c d : UInt8) : List UInt8 := [x3 a b d, x3 a c d, a, x3 b c d, b, c, d]
def hamL : List UInt8 → List UInt8
  | a :: b :: c :: d :: r => ham7 a b c d ++ hamL r
  | _ => []
theorem hamL_four (a b c d : UInt8) (r : List UInt8) : hamL (a :: b :: c :: d :: r) = ham7 a b c d ++ hamL r := rfl
theorem x3_bit (p q r : UInt8) : bitB (x3 p q r) = true := bitC_bit _
/-- at which place a bit is turned; 0: at none -/
def placeN (s : List UInt8) : Nat := (s.zipIdx 1).foldl (fun n p => if p.1 = 49 then n ^^^ p.2 else n) 0
def mend (s : List UInt8) : List UInt8 := if placeN s = 0 then s else s.set (placeN s - 1) (flipB (s.getD (placeN s - 1) 48))
def data4 (s : List UInt8) : List UInt8 := [s.getD 2 48, s.getD 4 48, s.getD 5 48, s.getD 6 48]
def wrongN (s : List UInt8) : Nat := if placeN s = 0 then 0 else 1
def unhamL : List UInt8 → List UInt8 × Nat
  | a :: b :: c :: d :: e :: f :: g :: r => (data4 (mend [a, b, c, d, e, f, g]) ++ (unhamL r).1, wrongN [a, b, c, d, e, f, g] + (unhamL r).2)
  | _ => ([], 0)
theorem unhamL_seven (a b c d e f g : UInt8) (r : List UInt8) : unhamL (a :: b :: c :: d :: e :: f :: g :: r) = (data4 (mend [a, b, c, d, e, f, g]) ++ (unhamL r).1, wrongN [a, b, c, d, e, f, g] + (unhamL r).2) := rfl
theorem four_of (l : List UInt8) (h : l ≠ []) (h4 : l.length % 4 = 0) : ∃ a b c d r, l = a :: b :: c :: d :: r := by
  match l, h, h4 with
  | a :: b :: c :: d :: r, _, _ => exact ⟨a, b, c, d, r, rfl⟩
  | [a], _, h => simp at h
  | [a, b], _, h => simp at h
  | [a, b, c], _, h => simp at h
theorem seven_of (l : List UInt8) (h : l ≠ []) (h4 : l.length % 7 = 0) : ∃ a b c d e f g r, l = a :: b :: c :: d :: e :: f :: g :: r := by
  match l, h, h4 with
  | a :: b :: c :: d :: e :: f :: g :: r, _, _ => exact ⟨a, b, c, d, e, f, g, r, rfl⟩
  | [a], _, h => simp at h
  | [a, b], _, h => simp at h
  | [a, b, c], _, h => simp at h
  | [a, b, c, d], _, h => simp at h
  | [a, b, c, d, e], _, h => simp at h
  | [a, b, c, d, e, f], _, h => simp at h
/-- induction four at a time -/
theorem by_fours {P : List UInt8 → Prop} (h0 : P []) (h1 : ∀ a b c d r, r.length % 4 = 0 → P r → P (a :: b :: c :: d :: r)) : ∀ l : List UInt8, l.length % 4 = 0 → P l := by
  intro l
  suffices H : ∀ n (l : List UInt8), l.length ≤ n → l.length % 4 = 0 → P l from H l.length l (Nat.le_refl _)
  intro n
  induction n with
  | zero => intro l hl _; have : l = [] := List.length_eq_zero_iff.1 (by omega); rw [this]; exact h0
  | succ n ih =>
    intro l hl h4
    by_cases h : l = []
    · rw [h]; exact h0
    · obtain ⟨a, b, c, d, r, rfl⟩ := four_of l h h4
      simp only [List.length_cons] at hl h4
      exact h1 a b c d r (by omega) (ih r (by omega) (by omega))
theorem by_sevens {P : List UInt8 → Prop} (h0 : P []) (h1 : ∀ a b c d e f g r, r.length % 7 = 0 → P r → P (a :: b :: c :: d :: e :: f :: g :: r)) : ∀ l : List UInt8, l.length % 7 = 0 → P l := by
  intro l
  suffices H : ∀ n (l : List UInt8), l.length ≤ n → l.length % 7 = 0 → P l from H l.length l (Nat.le_refl _)
  intro n
  induction n with
  | zero => intro l hl _; have : l = [] := List.length_eq_zero_iff.1 (by omega); rw [this]; exact h0
  | succ n ih =>
    intro l hl h4
    by_cases h : l = []
    · rw [h]; exact h0
    · obtain ⟨a, b, c, d, e, f, g, r, rfl⟩ := seven_of l h h4
      simp only [List.length_cons] at hl h4
      exact h1 a b c d e f g r (by omega) (ih r (by omega) (by omega))
theorem hamL_len : ∀ l : List UInt8, l.length % 4 = 0 → (hamL l).length = l.length / 4 * 7 :=
  by_fours rfl fun a b c d r hr ih => by
    rw [hamL_four, List.length_append, ih]
    simp only [List.length_cons]
    have : (ham7 a b c d).length = 7 := rfl
    omega
theorem hamL_bits : ∀ l : List UInt8, l.length % 4 = 0 → (∀ x ∈ l, bitB x = true) → ∀ x ∈ hamL l, bitB x = true :=
  by_fours (fun _ x hx => by cases hx) fun a b c d r hr ih hb x hx => by
    rw [hamL_four, List.mem_append] at hx
    rcases hx with hx | hx
    · simp only [ham7, List.mem_cons, List.not_mem_nil, or_false] at hx
      rcases hx with rfl | rfl | rfl | rfl | rfl | rfl | rfl
      · exact x3_bit _ _ _
      · exact x3_bit _ _ _
      · exact hb _ (by simp)
      · exact x3_bit _ _ _
      · exact hb _ (by simp)
      · exact hb _ (by simp)
      · exact hb _ (by simp)
    · exact ih (fun y hy => hb y (by simp [hy])) x hx
theorem hamL_append : ∀ (a b : List UInt8), a.length % 4 = 0 → hamL (a ++ b) = hamL a ++ hamL b := fun a b h =>
  by_fours (P := fun a => hamL (a ++ b) = hamL a ++ hamL b) rfl (fun x y z u r hr ih => by rw [show x :: y :: z :: u :: r ++ b = x :: y :: z :: u :: (r ++ b) from rfl, hamL_four, hamL_four, ih, List.append_assoc]) a h
theorem unhamL_append : ∀ (a b : List UInt8), a.length % 7 = 0 → unhamL (a ++ b) = ((unhamL a).1 ++ (unhamL b).1, (unhamL a).2 + (unhamL b).2) := fun a b h =>
  by_sevens (P := fun a => unhamL (a ++ b) = ((unhamL a).1 ++ (unhamL b).1, (unhamL a).2 + (unhamL b).2)) (by simp [unhamL]) (fun x y z u v w t r hr ih => by
    rw [show x :: y :: z :: u :: v :: w :: t :: r ++ b = x :: y :: z :: u :: v :: w :: t :: (r ++ b) from rfl, unhamL_seven, unhamL_seven, ih, List.append_assoc, Nat.add_assoc]) a h
theorem unhamL_len : ∀ l : List UInt8, l.length % 7 = 0 → (unhamL l).1.length = l.length / 7 * 4 ∧ (unhamL l).2 ≤ l.length / 7 :=
  by_sevens ⟨rfl, Nat.le_refl _⟩ fun a b c d e f g r hr ih => by
    rw [unhamL_seven]
    simp only [List.length_append, List.length_cons]
    have h1 : ∀ s, (data4 s).length = 4 := fun _ => rfl
    have h2 : wrongN [a, b, c, d, e, f, g] ≤ 1 := by unfold wrongN; split <;> omega
    rw [h1, ih.1]
    omega
/-- bits of truth values -/
theorem bits_are {b : UInt8} (h : bitB b = true) : ∃ x : Bool, b = bitC x := ⟨decide (b = 49), (bitC_of h).symm⟩
theorem seven_facts : ∀ a b c d e f g : Bool, let s := [bitC a, bitC b, bitC c, bitC d, bitC e, bitC f, bitC g]
    placeN s ≤ 7 ∧ (∀ x ∈ data4 (mend s), bitB x = true) ∧ farN (ham7 ((data4 (mend s)).getD 0 48) ((data4 (mend s)).getD 1 48) ((data4 (mend s)).getD 2 48) ((data4 (mend s)).getD 3 48)) s = wrongN s := by decide +kernel
theorem four_facts : ∀ a b c d : Bool, (let s := ham7 (bitC a) (bitC b) (bitC c) (bitC d); data4 (mend s) = [bitC a, bitC b, bitC c, bitC d] ∧ wrongN s = 0 ∧
    ∀ k, k < 7 → data4 (mend (s.set k (flipB (s.getD k 48)))) = [bitC a, bitC b, bitC c, bitC d] ∧ wrongN (s.set k (flipB (s.getD k 48))) = 1) := by decide +kernel
theorem far_append (a b c d : List UInt8) (h : a.length = c.length) : farN (a ++ b) (c ++ d) = farN a c + farN b d := by
  induction a generalizing c with
  | nil => cases c with
    | nil => simp [farN_nil]
    | cons y c => simp at h
  | cons x a ih =>
    cases c with
    | nil => simp at h
    | cons y c => rw [List.cons_append, List.cons_append, farN_cons, ih c (by simpa using h), farN_cons]; omega
theorem unham_ham : ∀ l : List UInt8, l.length % 4 = 0 → (∀ x ∈ l, bitB x = true) → unhamL (hamL l) = (l, 0) :=
  by_fours (fun _ => rfl) fun a b c d r hr ih hb => by
    obtain ⟨xa, rfl⟩ := bits_are (hb a (by simp))
    obtain ⟨xb, rfl⟩ := bits_are (hb b (by simp))
    obtain ⟨xc, rfl⟩ := bits_are (hb c (by simp))
    obtain ⟨xd, rfl⟩ := bits_are (hb d (by simp))
    have h := four_facts xa xb xc xd
    have e : hamL (bitC xa :: bitC xb :: bitC xc :: bitC xd :: r) = ham7 (bitC xa) (bitC xb) (bitC xc) (bitC xd) ++ hamL r := hamL_four _ _ _ _ _
    rw [e, unhamL_append _ _ (by simp [ham7]), ih (fun y hy => hb y (by simp [hy]))]
    have e2 : unhamL (ham7 (bitC xa) (bitC xb) (bitC xc) (bitC xd)) = (data4 (mend (ham7 (bitC xa) (bitC xb) (bitC xc) (bitC xd))), wrongN (ham7 (bitC xa) (bitC xb) (bitC xc) (bitC xd))) := by
      unfold ham7; rw [unhamL_seven]; simp [unhamL]
    rw [e2, h.1, h.2.1]; rfl
/-- a bit turned in each group: at place f j of group j -/
def bendL (f : Nat → Nat) : Nat → List UInt8 → List UInt8
  | j, a :: b :: c :: d :: e :: g :: h :: r => ([a, b, c, d, e, g, h].set (f j) (flipB ([a, b, c, d, e, g, h].getD (f j) 48))) ++ bendL f (j + 1) r
  | _, _ => []
theorem unham_bend (f : Nat → Nat) (hf : ∀ j, f j < 7) (l : List UInt8) (h4 : l.length % 4 = 0) (hl : ∀ x ∈ l, bitB x = true) : ∀ j, unhamL (bendL f j (hamL l)) = (l, l.length / 4) := by
  revert hl
  refine by_fours (P := fun l => (∀ x ∈ l, bitB x = true) → ∀ j, unhamL (bendL f j (hamL l)) = (l, l.length / 4)) (fun _ _ => rfl) (fun a b c d r hr ih hb j => ?_) l h4
  obtain ⟨xa, rfl⟩ := bits_are (hb a (by simp))
  obtain ⟨xb, rfl⟩ := bits_are (hb b (by simp))
  obtain ⟨xc, rfl⟩ := bits_are (hb c (by simp))
  obtain ⟨xd, rfl⟩ := bits_are (hb d (by simp))
  have h := (four_facts xa xb xc xd).2.2 (f j) (hf j)
  have e : bendL f j (hamL (bitC xa :: bitC xb :: bitC xc :: bitC xd :: r)) = ((ham7 (bitC xa) (bitC xb) (bitC xc) (bitC xd)).set (f j) (flipB ((ham7 (bitC xa) (bitC xb) (bitC xc) (bitC xd)).getD (f j) 48))) ++ bendL f (j + 1) (hamL r) := by
    rw [hamL_four]; rfl
  have h7 : ((ham7 (bitC xa) (bitC xb) (bitC xc) (bitC xd)).set (f j) (flipB ((ham7 (bitC xa) (bitC xb) (bitC xc) (bitC xd)).getD (f j) 48))).length = 7 := by rw [List.length_set]; rfl
  rw [e, unhamL_append _ _ (by rw [h7]), ih (fun y hy => hb y (by simp [hy]))]
  generalize (ham7 (bitC xa) (bitC xb) (bitC xc) (bitC xd)).set (f j) (flipB ((ham7 (bitC xa) (bitC xb) (bitC xc) (bitC xd)).getD (f j) 48)) = s at h h7
  obtain ⟨a', b', c', d', e', f', g', r', rfl⟩ := seven_of s (by intro h0; rw [h0] at h7; simp at h7) (by rw [h7])
  obtain rfl : r' = [] := List.length_eq_zero_iff.1 (by simp only [List.length_cons] at h7; omega)
  rw [unhamL_seven, h.1, h.2]
  simp only [unhamL, List.append_nil, List.length_cons, List.cons_append, List.nil_append, Nat.add_zero]
  congr 1
  omega
/-- what is read is as far from what it was read of as bits were turned back -/
theorem ham_near : ∀ t : List UInt8, t.length % 7 = 0 → (∀ x ∈ t, bitB x = true) → farN (hamL (unhamL t).1) t = (unhamL t).2 ∧ ∀ x ∈ (unhamL t).1, bitB x = true :=
  by_sevens (fun _ => ⟨rfl, fun x hx => by cases hx⟩) fun a b c d e f g r hr ih hb => by
    have ih := ih (fun y hy => hb y (by simp [hy]))
    obtain ⟨xa, rfl⟩ := bits_are (hb a (by simp))
    obtain ⟨xb, rfl⟩ := bits_are (hb b (by simp))
    obtain ⟨xc, rfl⟩ := bits_are (hb c (by simp))
    obtain ⟨xd, rfl⟩ := bits_are (hb d (by simp))
    obtain ⟨xe, rfl⟩ := bits_are (hb e (by simp))
    obtain ⟨xf, rfl⟩ := bits_are (hb f (by simp))
    obtain ⟨xg, rfl⟩ := bits_are (hb g (by simp))
    have h := seven_facts xa xb xc xd xe xf xg
    simp only at h
    obtain ⟨_, h1, h2⟩ := h
    rw [unhamL_seven]
    simp only
    have hd : ∀ s, data4 s = [(data4 s).getD 0 48, (data4 s).getD 1 48, (data4 s).getD 2 48, (data4 s).getD 3 48] := fun _ => rfl
    refine ⟨?_, fun x hx => ?_⟩
    · rw [hd, List.cons_append, List.cons_append, List.cons_append, List.cons_append, List.nil_append, hamL_four]
      rw [show bitC xa :: bitC xb :: bitC xc :: bitC xd :: bitC xe :: bitC xf :: bitC xg :: r = [bitC xa, bitC xb, bitC xc, bitC xd, bitC xe, bitC xf, bitC xg] ++ r from rfl, far_append _ _ _ _ (by rfl), h2, ih.1]
    · rw [List.mem_append] at hx
      rcases hx with hx | hx
      · exact h1 x hx
      · exact ih.2 x hx
/-- a bit turned -/
def turnL (l : List UInt8) (k : Nat) : List UInt8 := l.set k (flipB (l.getD k 48))
theorem turn_facts : ∀ a b c d : Bool, ∀ k, k < 4 → (let q := [bitC a, bitC b, bitC c, bitC d].set k (flipB ([bitC a, bitC b, bitC c, bitC d].getD k 48)); let n := farN (ham7 (q.getD 0 48) (q.getD 1 48) (q.getD 2 48) (q.getD 3 48)) (ham7 (bitC a) (bitC b) (bitC c) (bitC d)); n = 3 ∨ n = 4) := by decide +kernel
theorem far_self (l : List UInt8) : farN l l = 0 := (far_zero l l rfl).2 rfl
theorem ham_apart : ∀ l : List UInt8, l.length % 4 = 0 → (∀ x ∈ l, bitB x = true) → ∀ k, k < l.length → farN (hamL (turnL l k)) (hamL l) = 3 ∨ farN (hamL (turnL l k)) (hamL l) = 4 :=
  by_fours (fun _ k hk => by simp at hk) fun a b c d r hr ih hb k hk => by
    by_cases h4 : k < 4
    · obtain ⟨xa, rfl⟩ := bits_are (hb a (by simp))
      obtain ⟨xb, rfl⟩ := bits_are (hb b (by simp))
      obtain ⟨xc, rfl⟩ := bits_are (hb c (by simp))
      obtain ⟨xd, rfl⟩ := bits_are (hb d (by simp))
      have h := turn_facts xa xb xc xd k h4
      simp only at h
      have e : turnL (bitC xa :: bitC xb :: bitC xc :: bitC xd :: r) k = ([bitC xa, bitC xb, bitC xc, bitC xd].set k (flipB ([bitC xa, bitC xb, bitC xc, bitC xd].getD k 48))) ++ r := by
        match k, h4 with
        | 0, _ => rfl
        | 1, _ => rfl
        | 2, _ => rfl
        | 3, _ => rfl
      rw [e]
      generalize hq : ([bitC xa, bitC xb, bitC xc, bitC xd].set k (flipB ([bitC xa, bitC xb, bitC xc, bitC xd].getD k 48))) = q at h
      have hl : q.length = 4 := by rw [← hq, List.length_set]; rfl
      obtain ⟨a', b', c', d', r', rfl⟩ := four_of q (by intro h0; rw [h0] at hl; simp at hl) (by rw [hl])
      obtain rfl : r' = [] := List.length_eq_zero_iff.1 (by simp only [List.length_cons] at hl; omega)
      rw [show [a', b', c', d'] ++ r = a' :: b' :: c' :: d' :: r from rfl, hamL_four, hamL_four, far_append _ _ _ _ (by rfl), far_self]
      exact h
    · have e : turnL (a :: b :: c :: d :: r) k = a :: b :: c :: d :: turnL r (k - 4) := by
        obtain ⟨m, rfl⟩ : ∃ m, k = m + 4 := ⟨k - 4, by omega⟩
        rfl
      have := ih (fun y hy => hb y (by simp [hy])) (k - 4) (by simp only [List.length_cons] at hk; omega)
      rw [e, hamL_four, hamL_four, far_append _ _ _ _ (by rfl), far_self, Nat.zero_add]
      exact this
end Go.Proofs.Ytcljldnaecldnaa
