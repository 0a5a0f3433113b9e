/- Plain: the finder of frames of bits, on lists. -/
import Derived.Test.YtekhakapmpdnaaaKitSum
import Derived.Test.YtekhakapmpdnaaaKitOf
import Derived.Test.YtekhakapmpdnaaaKitStuff
namespace Go.Proofs.Ytekhakapmpdnaaa
/-- a finder: in a frame, ones that came last, bits so far -/
structure HS where
  inn : Bool
  ones : Nat
  bits : List UInt8
/-- an event: its kind, its text -/
structure Ev where
  kind : Int
  text : List UInt8
def holdL (l : List UInt8) (c : UInt8) : List UInt8 := if 240 ≤ l.length then l else l ++ [c]
def evB (kd : Int) (b : List UInt8) : Ev := if getB kd b = true then ⟨1, cutL kd b⟩ else ⟨2, []⟩
/-- what bits of a frame come to -/
def evL (kd : Int) (m : List UInt8) : Option Ev :=
  if m.length = 0 then none
  else if 8 * (24 + kd) < (m.length : Int) then some ⟨5, []⟩
  else if m.length % 8 ≠ 0 then some ⟨6, []⟩
  else if (m.length : Int) < 8 * kd then some ⟨4, []⟩
  else some (evB kd (toL m))
def endL (kd : Int) (l : List UInt8) : Option Ev := evL kd (l.take (l.length - 6))
def inOne (n : Nat) (b : List UInt8) : HS × Option Ev :=
  if 6 ≤ n then (⟨false, 7, []⟩, some ⟨3, []⟩)
  else if n ≤ 4 then (⟨true, n + 1, holdL b 49⟩, none)
  else (⟨true, n + 1, b⟩, none)
def inNought (kd : Int) (n : Nat) (b : List UInt8) : HS × Option Ev :=
  if n = 5 then (⟨true, 0, b⟩, none)
  else if n = 6 then (⟨true, 0, []⟩, endL kd b)
  else (⟨true, 0, holdL b 48⟩, none)
def moreN (n : Nat) : Nat := if n ≤ 6 then n + 1 else 7
def outOne (n : Nat) : HS := ⟨false, moreN n, []⟩
def outNought (n : Nat) : HS := if n = 6 then ⟨true, 0, []⟩ else ⟨false, 0, []⟩
/-- a bit is taken -/
def hstep (kd : Int) (h : HS) (c : UInt8) : HS × Option Ev :=
  if c = 49 then (if h.inn then inOne h.ones h.bits else (outOne h.ones, none))
  else (if h.inn then inNought kd h.ones h.bits else (outNought h.ones, none))
def hgo (kd : Int) (p : HS × List Ev) (c : UInt8) : HS × List Ev := ((hstep kd p.1 c).1, p.2 ++ (hstep kd p.1 c).2.toList)
def hfeed (kd : Int) (h : HS) (l : List UInt8) : HS × List Ev := l.foldl (hgo kd) (h, [])
theorem hfeed_snoc (kd : Int) (h : HS) (l : List UInt8) (c : UInt8) : hfeed kd h (l ++ [c]) = hgo kd (hfeed kd h l) c := by simp [hfeed, List.foldl_append]
theorem hgo_fold (kd : Int) (l : List UInt8) : ∀ (h : HS) (es : List Ev), l.foldl (hgo kd) (h, es) = ((hfeed kd h l).1, es ++ (hfeed kd h l).2) := by
  unfold hfeed
  induction l with
  | nil => intro h es; simp
  | cons c l ih =>
    intro h es
    rw [List.foldl_cons, List.foldl_cons]
    have e1 : hgo kd (h, es) c = ((hstep kd h c).1, es ++ (hstep kd h c).2.toList) := rfl
    have e2 : hgo kd (h, []) c = ((hstep kd h c).1, [] ++ (hstep kd h c).2.toList) := rfl
    rw [e1, e2, ih, ih (hstep kd h c).1 ([] ++ _)]
    simp
theorem hfeed_append (kd : Int) (h : HS) (l m : List UInt8) : hfeed kd h (l ++ m) = ((hfeed kd (hfeed kd h l).1 m).1, (hfeed kd h l).2 ++ (hfeed kd (hfeed kd h l).1 m).2) := by
  show (l ++ m).foldl (hgo kd) (h, []) = _
  rw [List.foldl_append]
  have e : l.foldl (hgo kd) (h, []) = ((hfeed kd h l).1, (hfeed kd h l).2) := rfl
  rw [e, hgo_fold]
theorem hfeed_nil (kd : Int) (h : HS) : hfeed kd h [] = (h, []) := rfl
theorem hfeed_cons (kd : Int) (h : HS) (c : UInt8) (l : List UInt8) : hfeed kd h (c :: l) = ((hfeed kd (hstep kd h c).1 l).1, (hstep kd h c).2.toList ++ (hfeed kd (hstep kd h c).1 l).2) := by
  have := hfeed_append kd h [c] l
  rw [List.singleton_append] at this
  rw [this]
  have e : hfeed kd h [c] = ((hstep kd h c).1, (hstep kd h c).2.toList) := by simp [hfeed, hgo]
  rw [e]
/-- a finder that is ok -/
def hokB (h : HS) : Bool := decide (h.ones ≤ 7) && decide (h.bits.length ≤ 240) && h.bits.all bitB && (h.inn || h.bits.isEmpty)
theorem hok_iff (h : HS) : hokB h = true ↔ h.ones ≤ 7 ∧ h.bits.length ≤ 240 ∧ h.bits.all bitB = true ∧ (h.inn = false → h.bits = []) := by
  unfold hokB
  simp only [Bool.and_eq_true, decide_eq_true_eq, Bool.or_eq_true, List.isEmpty_iff]
  constructor
  · rintro ⟨⟨⟨h1, h2⟩, h3⟩, h4⟩
    refine ⟨h1, h2, h3, fun hf => ?_⟩
    rcases h4 with h4 | h4
    · rw [hf] at h4; cases h4
    · exact h4
  · rintro ⟨h1, h2, h3, h4⟩
    refine ⟨⟨⟨h1, h2⟩, h3⟩, ?_⟩
    cases hi : h.inn with
    | true => exact .inl rfl
    | false => exact .inr (h4 hi)
theorem holdL_len {l : List UInt8} {c : UInt8} (h : l.length ≤ 240) : (holdL l c).length ≤ 240 := by
  unfold holdL; split
  · exact h
  · simp; omega
theorem holdL_bits {l : List UInt8} {c : UInt8} (h : l.all bitB = true) (hc : bitB c = true) : (holdL l c).all bitB = true := by
  unfold holdL; split
  · exact h
  · rw [List.all_append, h]; simp [hc]
theorem hstep_ok (kd : Int) (h : HS) (c : UInt8) (hk : hokB h = true) : hokB (hstep kd h c).1 = true := by
  obtain ⟨h1, h2, h3, h4⟩ := (hok_iff h).1 hk
  rw [hok_iff]
  unfold hstep
  split
  · split
    · unfold inOne
      split
      · simp
      · split
        · exact ⟨by simp; omega, holdL_len h2, holdL_bits h3 (by decide), by simp⟩
        · exact ⟨by simp; omega, h2, h3, by simp⟩
    · unfold outOne
      refine ⟨?_, by simp, by simp, by simp⟩
      simp only; unfold moreN; split <;> omega
  · split
    · unfold inNought
      split
      · exact ⟨by simp, h2, h3, by simp⟩
      · split
        · simp
        · exact ⟨by simp, holdL_len h2, holdL_bits h3 (by decide), by simp⟩
    · unfold outNought
      split <;> simp
theorem hfeed_ok (kd : Int) (l : List UInt8) : ∀ (h : HS), hokB h = true → hokB (hfeed kd h l).1 = true := by
  induction l with
  | nil => intro h hk; exact hk
  | cons c l ih => intro h hk; rw [hfeed_cons]; exact ih _ (hstep_ok kd h c hk)
theorem hstep_ev_len (kd : Int) (h : HS) (c : UInt8) : (hstep kd h c).2.toList.length ≤ 1 := by
  cases (hstep kd h c).2 <;> simp
theorem hfeed_len (kd : Int) (l : List UInt8) : ∀ (h : HS), (hfeed kd h l).2.length ≤ l.length := by
  induction l with
  | nil => intro h; simp [hfeed_nil]
  | cons c l ih =>
    intro h
    have h1 := ih (hstep kd h c).1
    have h2 := hstep_ev_len kd h c
    rw [hfeed_cons, List.length_append, List.length_cons]; omega
end Go.Proofs.Ytekhakapmpdnaaa
