/- Plain facts of the finder: what comes as events, what a flag does, frames found again. -/
import Derived.Test.YtekhakapmpdnaaaHdlcJ
import Derived.Test.YtekhakapmpdnaaaHdlcP
namespace Go.Proofs.Ytekhakapmpdnaaa
/-- an event as the document has them -/
def evGood (e : Ev) : Prop := 1 ≤ e.kind ∧ e.kind ≤ 6 ∧ (e.kind ≠ 1 → e.text = []) ∧ e.text.length ≤ 24
theorem evL_good {kd : Int} (hk : kindB kd = true) {m : List UInt8} {e : Ev} (h : evL kd m = some e) : evGood e := by
  unfold evL at h
  split at h
  · cases h
  split at h
  · injection h with h; subst h; simp [evGood]
  split at h
  · injection h with h; subst h; simp [evGood]
  split at h
  · injection h with h; subst h; simp [evGood]
  rename_i h1 h2 h3 h4
  injection h with h; subst h
  unfold evB
  split
  · have hkl := kind_le hk
    refine ⟨by simp, by simp, by simp, ?_⟩
    simp only [cutL, List.length_take, toL_len]
    omega
  · simp [evGood]
theorem hstep_good {kd : Int} (hk : kindB kd = true) {h : HS} {c : UInt8} {e : Ev} (he : (hstep kd h c).2 = some e) : evGood e := by
  unfold hstep at he
  split at he
  · split at he
    · unfold inOne at he
      split at he
      · injection he with he; subst he; simp [evGood]
      · split at he <;> cases he
    · cases he
  · split at he
    · unfold inNought at he
      split at he
      · cases he
      · split at he
        · exact evL_good hk he
        · cases he
    · cases he
theorem hfeed_good {kd : Int} (hk : kindB kd = true) (l : List UInt8) : ∀ (h : HS) (e : Ev), e ∈ (hfeed kd h l).2 → evGood e := by
  induction l with
  | nil => intro h e he; simp [hfeed_nil] at he
  | cons c l ih =>
    intro h e he
    rw [hfeed_cons] at he
    rcases List.mem_append.1 he with h1 | h1
    · exact hstep_good hk (h := h) (c := c) (by simpa [Option.mem_toList] using h1)
    · exact ih _ e h1
theorem feedA_good (kd : Int) (i : Bool) (n : Int) (b s : List UInt8) : ∀ e ∈ (feedA kd i n b s).2, evGood e := by
  unfold feedA
  split
  · rename_i h
    exact hfeed_good (valid_parts h).1 s _
  · intro e he; simp at he
theorem feedA_len (kd : Int) (i : Bool) (n : Int) (b s : List UInt8) : (feedA kd i n b s).2.length ≤ s.length ∧ (feedA kd i n b s).2.length ≤ 1200 := by
  unfold feedA
  split
  · rename_i h
    have h1 := hfeed_len kd s ⟨i, n.toNat, b⟩
    have h2 := ok_len (valid_parts h).2.2
    constructor <;> omega
  · simp
/-- six ones and a nought, in a frame -/
theorem six_in (kd : Int) (bs : List UInt8) : hfeed kd ⟨true, 0, bs⟩ [49, 49, 49, 49, 49, 49, 48] = (⟨true, 0, []⟩, (endL kd (holdL (holdL (holdL (holdL (holdL bs 49) 49) 49) 49) 49)).toList) := by
  simp [hfeed, hgo, hstep, inOne, inNought]
theorem six_out (kd : Int) : hfeed kd ⟨false, 0, []⟩ [49, 49, 49, 49, 49, 49, 48] = (⟨true, 0, []⟩, []) := by
  simp [hfeed, hgo, hstep, outOne, moreN, outNought]
theorem five_none (kd : Int) : endL kd (holdL (holdL (holdL (holdL (holdL [] 49) 49) 49) 49) 49) = none := by
  simp [endL, holdL, evL]
def sixL : List UInt8 := [49, 49, 49, 49, 49, 49, 48]
theorem flag_of {kd : Int} {h h1 : HS} {o : Option Ev} (e : hstep kd h 48 = (h1, o)) : hfeed kd h flagL = ((hfeed kd h1 sixL).1, o.toList ++ (hfeed kd h1 sixL).2) := by
  rw [show flagL = 48 :: sixL from rfl, hfeed_cons, e]
def fiveL (bs : List UInt8) : List UInt8 := holdL (holdL (holdL (holdL (holdL bs 49) 49) 49) 49) 49
theorem six_in' (kd : Int) (bs : List UInt8) : hfeed kd ⟨true, 0, bs⟩ sixL = (⟨true, 0, []⟩, (endL kd (fiveL bs)).toList) := six_in kd bs
theorem six_out' (kd : Int) : hfeed kd ⟨false, 0, []⟩ sixL = (⟨true, 0, []⟩, []) := six_out kd
theorem flag_in {kd : Int} {h : HS} {bs : List UInt8} {o : Option Ev} (e : hstep kd h 48 = (⟨true, 0, bs⟩, o)) : hfeed kd h flagL = (⟨true, 0, []⟩, o.toList ++ (endL kd (fiveL bs)).toList) := by
  rw [flag_of e, six_in']
theorem flag_out {kd : Int} {h : HS} (e : hstep kd h 48 = (⟨false, 0, []⟩, none)) : hfeed kd h flagL = (⟨true, 0, []⟩, []) := by
  rw [flag_of e, six_out']; rfl
theorem five_nil (kd : Int) : endL kd (fiveL []) = none := five_none kd
/-- behind a flag nothing of what was ahead is left -/
theorem flag_any (kd : Int) (h : HS) : (hfeed kd h flagL).1 = ⟨true, 0, []⟩ ∧ (hfeed kd h flagL).2.length ≤ 1 := by
  obtain ⟨inn, m, bs⟩ := h
  cases inn with
  | true =>
    have e : hstep kd ⟨true, m, bs⟩ 48 = inNought kd m bs := rfl
    by_cases h5 : m = 5
    · have e5 : hstep kd ⟨true, m, bs⟩ 48 = (⟨true, 0, bs⟩, none) := by rw [e]; unfold inNought; rw [if_pos h5]
      rw [flag_in e5]
      exact ⟨rfl, by simp⟩
    · by_cases h6 : m = 6
      · have e6 : hstep kd ⟨true, m, bs⟩ 48 = (⟨true, 0, []⟩, endL kd bs) := by rw [e]; unfold inNought; rw [if_neg h5, if_pos h6]
        rw [flag_in e6, five_nil]
        exact ⟨rfl, by simp⟩
      · have e7 : hstep kd ⟨true, m, bs⟩ 48 = (⟨true, 0, holdL bs 48⟩, none) := by rw [e]; unfold inNought; rw [if_neg h5, if_neg h6]
        rw [flag_in e7]
        exact ⟨rfl, by simp⟩
  | false =>
    have e : hstep kd ⟨false, m, bs⟩ 48 = (outNought m, none) := rfl
    by_cases h6 : m = 6
    · have e6 : hstep kd ⟨false, m, bs⟩ 48 = (⟨true, 0, []⟩, none) := by rw [e]; unfold outNought; rw [if_pos h6]
      rw [flag_in e6, five_nil]
      exact ⟨rfl, by simp⟩
    · have e7 : hstep kd ⟨false, m, bs⟩ 48 = (⟨false, 0, []⟩, none) := by rw [e]; unfold outNought; rw [if_neg h6]
      rw [flag_out e7]
      exact ⟨rfl, by simp⟩
theorem flag_again (kd : Int) : hfeed kd ⟨true, 0, []⟩ flagL = (⟨true, 0, []⟩, []) := by
  have e1 : hstep kd ⟨true, 0, []⟩ 48 = (⟨true, 0, [48]⟩, none) := rfl
  have e2 : endL kd (fiveL [48]) = none := by simp [fiveL, endL, holdL, evL]
  rw [flag_in e1, e2]; rfl
theorem flag_first (kd : Int) : hfeed kd ⟨false, 0, []⟩ flagL = (⟨true, 0, []⟩, []) := flag_out rfl
/-- stuffed bits are held as they were -/
theorem stuffed (kd : Int) (l : List UInt8) (hl : l.all bitB = true) : ∀ (n : Nat) (bs : List UInt8), n ≤ 4 → bs.length + l.length ≤ 240 → ∃ n', n' ≤ 4 ∧ hfeed kd ⟨true, n, bs⟩ (recS putStep n l) = (⟨true, n', bs ++ l⟩, []) := by
  induction l with
  | nil => intro n bs hn _; exact ⟨n, hn, by simp [recS, hfeed_nil]⟩
  | cons c l ih =>
    intro n bs hn hlen
    rw [List.all_cons, Bool.and_eq_true] at hl
    rw [List.length_cons] at hlen
    have hh : ∀ d, holdL bs d = bs ++ [d] := fun d => by unfold holdL; rw [if_neg (by omega)]
    rcases (bitB_iff c).1 hl.1 with rfl | rfl
    · obtain ⟨n', h1, h2⟩ := ih hl.2 0 (bs ++ [48]) (by omega) (by simp; omega)
      refine ⟨n', h1, ?_⟩
      rw [put_nought, hfeed_cons]
      have e : hstep kd ⟨true, n, bs⟩ 48 = (⟨true, 0, bs ++ [48]⟩, none) := by
        show inNought kd n bs = _
        unfold inNought; rw [if_neg (by omega), if_neg (by omega), hh]
      rw [e, h2]; simp
    · have e1 : hstep kd ⟨true, n, bs⟩ 49 = (⟨true, n + 1, bs ++ [49]⟩, none) := by
        show inOne n bs = _
        unfold inOne; rw [if_neg (by omega), if_pos hn, hh]
      by_cases h4 : n = 4
      · subst h4
        obtain ⟨n', h1, h2⟩ := ih hl.2 0 (bs ++ [49]) (by omega) (by simp; omega)
        refine ⟨n', h1, ?_⟩
        rw [put_five, hfeed_cons, e1, hfeed_cons]
        have e : hstep kd ⟨true, 4 + 1, bs ++ [49]⟩ 48 = (⟨true, 0, bs ++ [49]⟩, none) := rfl
        rw [e, h2]; simp
      · obtain ⟨n', h1, h2⟩ := ih hl.2 (n + 1) (bs ++ [49]) (by omega) (by simp; omega)
        refine ⟨n', h1, ?_⟩
        rw [put_one n (by omega), hfeed_cons, e1, h2]; simp
/-- one frame and a flag -/
theorem frame_found {kd : Int} (hk : kindB kd = true) (f : List UInt8) (hf : f.length ≤ 24) : hfeed kd ⟨true, 0, []⟩ (frameL kd f ++ flagL) = (⟨true, 0, []⟩, [⟨1, f⟩]) := by
  have hkl := kind_le hk
  have hpl := putL_len kd f
  have hok := ofL_ok (l := putL kd f) (by omega)
  have hol := ofL_len (putL kd f)
  obtain ⟨n', hn', hs⟩ := stuffed kd (ofL (putL kd f)) (ok_bits hok) 0 [] (by omega) (by simp; omega)
  have hs' : hfeed kd ⟨true, 0, []⟩ (frameL kd f) = (⟨true, n', ofL (putL kd f)⟩, []) := by unfold frameL; rw [List.nil_append] at hs; exact hs
  have hh : ∀ (t : List UInt8) (d : UInt8), t.length < 240 → holdL t d = t ++ [d] := fun t d ht => by unfold holdL; rw [if_neg (by omega)]
  generalize hO : ofL (putL kd f) = O at *
  have e : hstep kd ⟨true, n', O⟩ 48 = (⟨true, 0, O ++ [48]⟩, none) := by
    show inNought kd n' _ = _
    unfold inNought; rw [if_neg (by omega), if_neg (by omega), hh O 48 (by omega)]
  have e5 : fiveL (O ++ [48]) = O ++ [48] ++ [49] ++ [49] ++ [49] ++ [49] ++ [49] := by
    unfold fiveL
    rw [hh (O ++ [48]) 49 (by simp; omega), hh (O ++ [48] ++ [49]) 49 (by simp; omega), hh (O ++ [48] ++ [49] ++ [49]) 49 (by simp; omega), hh (O ++ [48] ++ [49] ++ [49] ++ [49]) 49 (by simp; omega), hh (O ++ [48] ++ [49] ++ [49] ++ [49] ++ [49]) 49 (by simp; omega)]
  have e2 : endL kd (O ++ [48] ++ [49] ++ [49] ++ [49] ++ [49] ++ [49]) = some ⟨1, f⟩ := by
    unfold endL
    have hlen : (O ++ [48] ++ [49] ++ [49] ++ [49] ++ [49] ++ [49]).length - 6 = O.length := by simp
    rw [hlen]
    simp only [List.append_assoc]
    rw [List.take_left]
    unfold evL
    rw [if_neg (by omega), if_neg (by omega), if_neg (by omega), if_neg (by omega), ← hO, toL_ofL]
    unfold evB
    rw [if_pos (getB_put hk f), cut_put]
  rw [hfeed_append, hs']
  simp only
  rw [flag_in e, e5, e2]; rfl
theorem frames_found {kd : Int} (hk : kindB kd = true) (ls : List (List UInt8)) (hl : ∀ f ∈ ls, f.length ≤ 24) : hfeed kd ⟨true, 0, []⟩ (ls.flatMap fun f => frameL kd f ++ flagL) = (⟨true, 0, []⟩, ls.map (Ev.mk 1)) := by
  induction ls with
  | nil => rfl
  | cons f ls ih =>
    rw [List.flatMap_cons, hfeed_append, frame_found hk f (hl f (by simp))]
    simp only
    rw [ih (fun g hg => hl g (by simp [hg]))]
    simp
theorem all_found {kd : Int} (hk : kindB kd = true) (ls : List (List UInt8)) (hl : ∀ f ∈ ls, f.length ≤ 24) : hfeed kd ⟨false, 0, []⟩ (framesL kd ls) = (⟨true, 0, []⟩, ls.map (Ev.mk 1)) := by
  unfold framesL
  rw [hfeed_append, flag_first]
  simp only
  rw [frames_found hk ls hl]
  simp
end Go.Proofs.Ytekhakapmpdnaaa
