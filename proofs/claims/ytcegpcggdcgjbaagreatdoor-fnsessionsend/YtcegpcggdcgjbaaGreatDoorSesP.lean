/- A session, plainly: words of a line, what a line comes to, what lines come to. -/
import Derived.Test.YtcegpcggdcgjbaaGreatDoorKitFindB
import Derived.Test.YtcegpcggdcgjbaaGreatDoorNetP
import Derived.Test.YtcegpcggdcgjbaaGreatDoorHexB
import Derived.Test.YtcegpcggdcgjbaaGreatDoorHdlcQ
import Derived.Lib.Split
import Derived.Lib.SplitLaws
namespace Go.Proofs.YtcegpcggdcgjbaaGreatDoor
open Go.Lib (decDigits itoa)
def wSet : List UInt8 := [115, 101, 116]
def wHeld : List UInt8 := [104, 101, 108, 100]
def wSend : List UInt8 := [115, 101, 110, 100]
def wFeed : List UInt8 := [102, 101, 101, 100]
def wShort : List UInt8 := [115, 104, 111, 114, 116]
def wLong : List UInt8 := [108, 111, 110, 103]
def wCobs : List UInt8 := [99, 111, 98, 115]
def wLess : List UInt8 := [108, 101, 115, 115]
def wBits : List UInt8 := [98, 105, 116, 115]
def wEscape : List UInt8 := [101, 115, 99, 97, 112, 101]
def aNo : List UInt8 := [110, 111]
def aOk : List UInt8 := [111, 107]
def aWhat : List UInt8 := [119, 104, 97, 116]
def evNm (k : Int) : List UInt8 := if k = 1 then [102, 114, 97, 109, 101] else if k = 2 then [115, 117, 109] else if k = 3 then [97, 98, 111, 114, 116] else if k = 4 then [114, 117, 110, 116] else if k = 5 then [108, 111, 110, 103] else if k = 6 then [119, 114, 111, 110, 103] else []
/-- the words of a line: what stands between spaces -/
def wordsL (l : List UInt8) : List (List UInt8) := (cutS 32 l).1 ++ [(cutS 32 l).2]
/-- what the lines so far have set -/
structure St where
  cf : Cf
  fd : Fd
def St.fresh : St := ⟨⟨0, 0, 0, 0⟩, ⟨[], false⟩⟩
def St.Ok (s : St) : Prop := s = St.fresh ∨ okF s.cf s.fd = true
theorem St.Ok.new : St.fresh.Ok := .inl rfl
theorem fresh_no : confB St.fresh.cf = false := by decide
theorem St.Ok.find {s : St} (h : s.Ok) (hc : confB s.cf = true) : okF s.cf s.fd = true := by
  rcases h with rfl | h
  · rw [fresh_no] at hc; cases hc
  · exact h
theorem St.Ok.held {s : St} (h : s.Ok) : s.fd.held.length ≤ 92 := by
  rcases h with rfl | h
  · show 0 ≤ 92; omega
  · obtain ⟨h1, h2, _⟩ := okF_yes h
    have := hold_pos h1
    omega
def codecN (w : List UInt8) : Int := if w = wEscape then 1 else if w = wCobs then 2 else if w = wLess then 3 else 0
def confW (a b c d : List UInt8) : Cf := ⟨codecN a, numL b, numL c, numL d⟩
def setS (s : St) (c : Cf) : St × List UInt8 := if confB c = true then (⟨c, ⟨[], false⟩⟩, aOk) else (s, aNo)
def sendS (s : St) (t : List UInt8) : List UInt8 := if sendOk s.cf t = true then hexL (sendL s.cf t) else aNo
/-- an event, told -/
def evB (e : Ev) : List UInt8 := evNm e.kind ++ (if e.kind = 1 then 32 :: putH e.text else []) ++ [44]
def evsB (es : List Ev) : List UInt8 := es.flatMap evB
def feedS (s : St) (t : List UInt8) : St × List UInt8 := if confB s.cf = true then (⟨s.cf, (ffeed s.cf s.fd t).1⟩, evsB (ffeed s.cf s.fd t).2) else (s, aNo)
def bitsS (t : List UInt8) : List UInt8 := if t.length ≤ 24 then framesL 2 [t] else aNo
def twoS (s : St) (nm t : List UInt8) : St × List UInt8 :=
  if nm = wSend then (s, sendS s t) else if nm = wFeed then feedS s t else if nm = wShort then (s, decDigits (sumN 2 t)) else if nm = wLong then (s, decDigits (sumN 4 t))
  else if nm = wCobs then (s, hexL (cob t)) else if nm = wLess then (s, hexL (less t)) else if nm = wBits then (s, bitsS t) else (s, aWhat)
/-- what words come to -/
def ansS (s : St) : List (List UInt8) → St × List UInt8
  | [a, b, c, d, e] => if a = wSet then setS s (confW b c d e) else (s, aWhat)
  | [a] => if a = wHeld then (s, decDigits s.fd.held.length) else (s, aWhat)
  | [a, b] => if getHOk b = true then twoS s a (getH b) else (s, aWhat)
  | _ => (s, aWhat)
def lineS (s : St) (l : List UInt8) : St × List UInt8 := ansS s (wordsL l)
def goS (p : St × List UInt8) (l : List UInt8) : St × List UInt8 := ((lineS p.1 l).1, p.2 ++ ((lineS p.1 l).2 ++ [10]))
def sessS (ls : List (List UInt8)) : St × List UInt8 := ls.foldl goS (St.fresh, [])
theorem sessS_snoc (ls : List (List UInt8)) (l : List UInt8) : sessS (ls ++ [l]) = goS (sessS ls) l := by simp [sessS, List.foldl_append]
theorem sessS_append (ls ms : List (List UInt8)) : sessS (ls ++ ms) = ms.foldl goS (sessS ls) := by simp [sessS, List.foldl_append]
theorem go_pre (ms : List (List UInt8)) : ∀ p : St × List UInt8, ∃ r, (ms.foldl goS p).2 = p.2 ++ r := by
  induction ms with
  | nil => exact fun p => ⟨[], by simp⟩
  | cons m ms ih =>
    intro p
    obtain ⟨r, h⟩ := ih (goS p m)
    exact ⟨(lineS p.1 m).2 ++ [10] ++ r, by rw [List.foldl_cons, h]; simp [goS]⟩
/-- what was told of the first lines is told first -/
theorem sessS_pre (ls : List (List UInt8)) (k : Nat) : ∃ r, (sessS ls).2 = (sessS (ls.take k)).2 ++ r := by
  have h := go_pre (ls.drop k) (sessS (ls.take k))
  rw [← sessS_append, List.take_append_drop] at h
  exact h
theorem setS_ok (s : St) (c : Cf) (h : s.Ok) : (setS s c).1.Ok := by
  unfold setS
  split
  · rename_i hc; exact .inr (new_ok hc)
  · exact h
theorem feedS_ok (s : St) (t : List UInt8) (h : s.Ok) : (feedS s t).1.Ok := by
  unfold feedS
  split
  · rename_i hc; exact .inr (ffeed_ok t (h.find hc))
  · exact h
theorem twoS_ok (s : St) (nm t : List UInt8) (h : s.Ok) : (twoS s nm t).1.Ok := by
  unfold twoS
  split
  · exact h
  split
  · exact feedS_ok s t h
  split
  · exact h
  split
  · exact h
  split
  · exact h
  split
  · exact h
  split
  · exact h
  · exact h
theorem ansS_ok (s : St) (ws : List (List UInt8)) (h : s.Ok) : (ansS s ws).1.Ok := by
  unfold ansS
  split
  · split
    · exact setS_ok _ _ h
    · exact h
  · split
    · exact h
    · exact h
  · split
    · exact twoS_ok _ _ _ h
    · exact h
  · exact h
theorem lineS_ok (s : St) (l : List UInt8) (h : s.Ok) : (lineS s l).1.Ok := ansS_ok s _ h
theorem sessS_ok (ls : List (List UInt8)) : (sessS ls).1.Ok := by
  have : ∀ p : St × List UInt8, p.1.Ok → (ls.foldl goS p).1.Ok := by
    induction ls with
    | nil => exact fun p h => h
    | cons l ls ih => exact fun p h => ih _ (lineS_ok p.1 l h)
  exact this _ St.Ok.new
theorem evNm_len (k : Int) : (evNm k).length ≤ 6 := by
  unfold evNm
  repeat' split
  all_goals decide
theorem evB_len (e : Ev) : (evB e).length ≤ 88 := by
  unfold evB
  have h1 := evNm_len e.kind
  have h2 := putH_len e.text
  rw [List.length_append, List.length_append]
  split
  · simp only [List.length_cons, List.length_nil]; omega
  · simp only [List.length_cons, List.length_nil]; omega
theorem evsB_len (es : List Ev) : (evsB es).length ≤ 88 * es.length := by
  induction es with
  | nil => simp [evsB]
  | cons e es ih =>
    have h := evB_len e
    simp only [evsB, List.flatMap_cons, List.length_append, List.length_cons] at ih ⊢
    omega
theorem sendS_len (s : St) (t : List UInt8) : (sendS s t).length ≤ 2000 := by
  unfold sendS
  split
  · rename_i h
    simp only [sendOk, Bool.and_eq_true, decide_eq_true_eq] at h
    obtain ⟨_, h2, h3, _⟩ := confB_yes h.1
    have h4 := kind_or h2
    have h5 := putL_len s.cf.sum t
    have h6 := writeL_len s.cf (putL s.cf.sum t) (by omega)
    rw [hexL_len, sendL, List.length_append]
    simp only [List.length_cons, List.length_nil]
    omega
  · decide
theorem dec_len10 (n : Nat) (h : n < 2 ^ 32) : (decDigits n).length ≤ 10 := dec_len 9 n (by omega)
theorem twoS_len (s : St) (nm t : List UInt8) (ht : t.length ≤ 40) : (twoS s nm t).2.length ≤ 4000 := by
  unfold twoS
  split
  · have := sendS_len s t; show (sendS s t).length ≤ 4000; omega
  split
  · unfold feedS
    split
    · have h1 := evsB_len (ffeed s.cf s.fd t).2
      have h2 := ffeed_len s.cf t s.fd
      show (evsB (ffeed s.cf s.fd t).2).length ≤ 4000
      omega
    · show aNo.length ≤ 4000; decide
  split
  · have := dec_len10 _ (sumN_lt 2 t); show (decDigits (sumN 2 t)).length ≤ 4000; omega
  split
  · have := dec_len10 _ (sumN_lt 4 t); show (decDigits (sumN 4 t)).length ≤ 4000; omega
  split
  · have := writeL_len ⟨2, 2, 0, 0⟩ t (by omega)
    have e : writeL ⟨2, 2, 0, 0⟩ t = cob t := rfl
    rw [e] at this
    show (hexL (cob t)).length ≤ 4000
    rw [hexL_len]; omega
  split
  · have := writeL_len ⟨3, 2, 0, 0⟩ t (by omega)
    have e : writeL ⟨3, 2, 0, 0⟩ t = less t := rfl
    rw [e] at this
    show (hexL (less t)).length ≤ 4000
    rw [hexL_len]; omega
  split
  · show (bitsS t).length ≤ 4000
    unfold bitsS
    split
    · have h1 := framesL_len 2 rfl [⟨t.toArray⟩] (by simp [roomB]; rw [show (⟨t.toArray⟩ : ByteArray).size = t.length from by simp [ByteArray.size]]; assumption)
      have e : bitsL [(⟨t.toArray⟩ : ByteArray)] = [t] := by simp [bitsL]
      rw [e] at h1
      simp at h1
      omega
    · decide
  · show aWhat.length ≤ 4000; decide
theorem held_len (s : St) (h : s.Ok) : (decDigits s.fd.held.length).length ≤ 10 := dec_len10 _ (by have := h.held; omega)
theorem ansS_len (s : St) (ws : List (List UInt8)) (h : s.Ok) : (ansS s ws).2.length ≤ 4000 := by
  unfold ansS
  split
  · split
    · unfold setS
      split
      · show aOk.length ≤ 4000; decide
      · show aNo.length ≤ 4000; decide
    · show aWhat.length ≤ 4000; decide
  · split
    · have := held_len s h; show (decDigits s.fd.held.length).length ≤ 4000; omega
    · show aWhat.length ≤ 4000; decide
  · split
    · exact twoS_len _ _ _ (getH_len _)
    · show aWhat.length ≤ 4000; decide
  · show aWhat.length ≤ 4000; decide
theorem snoc_indL {α : Type} {P : List α → Prop} (h0 : P []) (h1 : ∀ l b, P l → P (l ++ [b])) (l : List α) : P l := by
  have : ∀ n (l : List α), l.length = n → P l := by
    intro n
    induction n with
    | zero => intro l hl; rw [List.eq_nil_of_length_eq_zero hl]; exact h0
    | succ n ih =>
      intro l hl
      have hne : l ≠ [] := by intro h; subst h; simp at hl
      have e := List.dropLast_concat_getLast hne
      rw [← e]
      exact h1 _ _ (ih _ (by rw [List.length_dropLast]; omega))
  exact this _ l rfl
theorem sessS_len (ls : List (List UInt8)) : (sessS ls).2.length ≤ 4001 * ls.length := by
  induction ls using snoc_indL with
  | h0 => simp [sessS]
  | h1 ls l ih =>
    rw [sessS_snoc, List.length_append]
    have h1 := ansS_len (sessS ls).1 (wordsL l) (sessS_ok ls)
    show ((sessS ls).2 ++ ((lineS (sessS ls).1 l).2 ++ [10])).length ≤ _
    rw [List.length_append, List.length_append]
    have e : (lineS (sessS ls).1 l).2 = (ansS (sessS ls).1 (wordsL l)).2 := rfl
    rw [e]
    simp only [List.length_cons, List.length_nil]
    omega
theorem word_len {l p : List UInt8} (h : p ∈ wordsL l) : p.length ≤ l.length := by
  have hh : ∀ l : List UInt8, (cutS 32 l).2.length ≤ l.length ∧ ∀ p ∈ (cutS 32 l).1, p.length ≤ l.length := by
    intro l
    induction l using snoc_ind with
    | h0 => simp [cutS]
    | h1 l b ih =>
      rw [cutS_snoc, List.length_append]
      unfold cutG
      split
      · refine ⟨by simp, fun p hp => ?_⟩
        simp only [List.mem_append, List.mem_singleton] at hp
        rcases hp with hp | hp
        · have := ih.2 p hp; omega
        · rw [hp]; have := ih.1; omega
      · refine ⟨by simp; exact ih.1, fun p hp => ?_⟩
        have := ih.2 p hp; omega
  unfold wordsL at h
  simp only [List.mem_append, List.mem_singleton] at h
  rcases h with h | h
  · exact (hh l).2 p h
  · rw [h]; exact (hh l).1
/-- a line that can be cut at all its spaces, five at most -/
def lineOk (l : List UInt8) : Prop := l.length ≤ 200 ∧ (cutS 32 l).1.length ≤ 4 ∧ ∀ p ∈ wordsL l, p ≠ []
instance (l : List UInt8) : Decidable (lineOk l) := by unfold lineOk; infer_instance
end Go.Proofs.YtcegpcggdcgjbaaGreatDoor
