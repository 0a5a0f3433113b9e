/- Plain: how frames are written, a finder of frames among bytes, on lists. -/
import Derived.Test.YtfojlpnnhghcbaaKitSum
import Derived.Test.YtfojlpnnhghcbaaEscP
import Derived.Test.YtfojlpnnhghcbaaCobV
namespace Go.Proofs.Ytfojlpnnhghcbaa
/-- an event: its kind, its text -/
structure Ev where
  kind : Int
  text : List UInt8
structure Cf where
  codec : Int
  sum : Int
  most : Int
  map : Int
structure Fd where
  held : List UInt8
  over : Bool
def confB (c : Cf) : Bool := inB c.codec 1 3 && (kindB c.sum && (inB c.most 0 40 && (mapOkB c.map && (decide (c.codec = 1) || decide (c.map = 0)))))
theorem confB_yes {c : Cf} (h : confB c = true) : (c.codec = 1 ∨ c.codec = 2 ∨ c.codec = 3) ∧ kindB c.sum = true ∧ (0 ≤ c.most ∧ c.most ≤ 40) ∧ (0 ≤ c.map ∧ c.map ≤ 4294967295) ∧ (c.codec = 1 ∨ c.map = 0) := by
  simp only [confB, inB, mapOkB, Bool.and_eq_true, Bool.or_eq_true, decide_eq_true_eq] at h
  obtain ⟨h1, h2, h3, h4, h5⟩ := h
  exact ⟨by omega, h2, h3, h4, h5⟩
def endOf (c : Cf) : UInt8 := if c.codec = 1 then 126 else 0
def writeL (c : Cf) (l : List UInt8) : List UInt8 := if c.codec = 1 then escR c.map.toNat l else if c.codec = 2 then cob l else less l
def readL (c : Cf) (t : List UInt8) : List UInt8 × Bool := if c.codec = 1 then (unR c.map.toNat t, true) else if c.codec = 2 then getA t else lgetA t
def sendL (c : Cf) (l : List UInt8) : List UInt8 := writeL c (putL c.sum l) ++ [endOf c]
def sendOk (c : Cf) (l : List UInt8) : Bool := confB c && decide ((l.length : Int) ≤ c.most)
def sendA (c : Cf) (l : List UInt8) : List UInt8 := if sendOk c l = true then sendL c l else []
def holdN (c : Cf) : Int := 2 * (c.most + c.sum) + 4
/-- what a text that was read comes to -/
def evT (c : Cf) (x : List UInt8) : Ev :=
  if (x.length : Int) < c.sum then ⟨4, []⟩
  else if c.most + c.sum < (x.length : Int) then ⟨5, []⟩
  else if getB c.sum x = true then ⟨1, cutL c.sum x⟩ else ⟨2, []⟩
/-- what bytes between two ends come to -/
def evalL (c : Cf) (t : List UInt8) : Option Ev :=
  if t.length = 0 then none
  else if c.codec = 1 ∧ t.getLast? = some 125 then some ⟨3, []⟩
  else if (readL c t).2 = false then some ⟨6, []⟩
  else if c.codec = 1 ∧ (readL c t).1.length = 0 then none
  else some (evT c (readL c t).1)
def endE (c : Cf) (f : Fd) : Option Ev := if f.over = true then some ⟨5, []⟩ else evalL c f.held
def fstep (c : Cf) (f : Fd) (b : UInt8) : Fd × Option Ev :=
  if b = endOf c then (⟨[], false⟩, endE c f)
  else if f.over = true then (f, none)
  else if holdN c ≤ (f.held.length : Int) then (⟨[], true⟩, none)
  else (⟨f.held ++ [b], false⟩, none)
def fgo (c : Cf) (p : Fd × List Ev) (b : UInt8) : Fd × List Ev := ((fstep c p.1 b).1, p.2 ++ (fstep c p.1 b).2.toList)
def ffeed (c : Cf) (f : Fd) (l : List UInt8) : Fd × List Ev := l.foldl (fgo c) (f, [])
def okF (c : Cf) (f : Fd) : Bool := confB c && (decide ((f.held.length : Int) ≤ holdN c) && (!f.held.contains (endOf c) && (!f.over || decide (f.held.length = 0))))
theorem okF_yes {c : Cf} {f : Fd} (h : okF c f = true) : confB c = true ∧ (f.held.length : Int) ≤ holdN c ∧ endOf c ∉ f.held ∧ (f.over = true → f.held = []) := by
  simp only [okF, Bool.and_eq_true, Bool.or_eq_true, Bool.not_eq_true', decide_eq_true_eq] at h
  obtain ⟨h1, h2, h3, h4⟩ := h
  refine ⟨h1, h2, by simpa using h3, fun ho => ?_⟩
  rcases h4 with h4 | h4
  · rw [ho] at h4; cases h4
  · exact List.eq_nil_of_length_eq_zero h4
theorem okF_mk {c : Cf} {f : Fd} (h1 : confB c = true) (h2 : (f.held.length : Int) ≤ holdN c) (h3 : endOf c ∉ f.held) (h4 : f.over = true → f.held = []) : okF c f = true := by
  simp only [okF, Bool.and_eq_true, Bool.or_eq_true, Bool.not_eq_true', decide_eq_true_eq]
  refine ⟨h1, h2, by simpa using h3, ?_⟩
  cases ho : f.over with
  | false => exact .inl rfl
  | true => exact .inr (by rw [h4 ho]; rfl)
theorem hold_pos {c : Cf} (h : confB c = true) : 8 ≤ holdN c ∧ holdN c ≤ 92 ∧ 2 ≤ c.sum ∧ c.sum ≤ 4 := by
  obtain ⟨_, h2, h3, _⟩ := confB_yes h
  have := kind_or h2
  unfold holdN; omega
theorem ffeed_snoc (c : Cf) (f : Fd) (l : List UInt8) (b : UInt8) : ffeed c f (l ++ [b]) = fgo c (ffeed c f l) b := by simp [ffeed, List.foldl_append]
theorem fgo_fold (c : Cf) (l : List UInt8) : ∀ (f : Fd) (es : List Ev), l.foldl (fgo c) (f, es) = ((ffeed c f l).1, es ++ (ffeed c f l).2) := by
  unfold ffeed
  induction l with
  | nil => intro f es; simp
  | cons b l ih =>
    intro f es
    rw [List.foldl_cons, List.foldl_cons]
    have e1 : fgo c (f, es) b = ((fstep c f b).1, es ++ (fstep c f b).2.toList) := rfl
    have e2 : fgo c (f, []) b = ((fstep c f b).1, [] ++ (fstep c f b).2.toList) := rfl
    rw [e1, e2, ih, ih (fstep c f b).1 ([] ++ _)]
    simp
theorem ffeed_append (c : Cf) (f : Fd) (l m : List UInt8) : ffeed c f (l ++ m) = ((ffeed c (ffeed c f l).1 m).1, (ffeed c f l).2 ++ (ffeed c (ffeed c f l).1 m).2) := by
  show (l ++ m).foldl (fgo c) (f, []) = _
  rw [List.foldl_append]
  have e : l.foldl (fgo c) (f, []) = ((ffeed c f l).1, (ffeed c f l).2) := rfl
  rw [e, fgo_fold]
theorem ffeed_nil (c : Cf) (f : Fd) : ffeed c f [] = (f, []) := rfl
theorem ffeed_cons (c : Cf) (f : Fd) (b : UInt8) (l : List UInt8) : ffeed c f (b :: l) = ((ffeed c (fstep c f b).1 l).1, (fstep c f b).2.toList ++ (ffeed c (fstep c f b).1 l).2) := by
  have := ffeed_append c f [b] l
  simpa [ffeed, fgo] using this
theorem fstep_ok {c : Cf} {f : Fd} (b : UInt8) (h : okF c f = true) : okF c (fstep c f b).1 = true := by
  obtain ⟨h1, h2, h3, h4⟩ := okF_yes h
  have hp := hold_pos h1
  unfold fstep
  split
  · exact okF_mk h1 (by simp; omega) (by simp) (fun _ => rfl)
  · rename_i hb
    split
    · exact h
    · split
      · exact okF_mk h1 (by simp; omega) (by simp) (fun _ => rfl)
      · refine okF_mk h1 (by simp only [List.length_append, List.length_singleton]; omega) ?_ (fun h => by cases h)
        simp only [List.mem_append, List.mem_singleton, not_or]
        exact ⟨h3, fun e => hb e.symm⟩
theorem ffeed_ok {c : Cf} (l : List UInt8) : ∀ {f : Fd}, okF c f = true → okF c (ffeed c f l).1 = true := by
  induction l with
  | nil => intro f h; exact h
  | cons b l ih => intro f h; rw [ffeed_cons]; exact ih (fstep_ok b h)
theorem opt_len (o : Option Ev) : o.toList.length ≤ 1 := by cases o <;> simp
theorem ffeed_len (c : Cf) (l : List UInt8) : ∀ (f : Fd), (ffeed c f l).2.length ≤ l.length := by
  induction l with
  | nil => intro f; simp [ffeed]
  | cons b l ih =>
    intro f
    rw [ffeed_cons, List.length_append, List.length_cons]
    have := opt_len (fstep c f b).2
    have := ih (fstep c f b).1
    omega
theorem new_ok {c : Cf} (h : confB c = true) : okF c ⟨[], false⟩ = true := by
  have := hold_pos h
  exact okF_mk h (by simp; omega) (by simp) (fun h => by cases h)
theorem evT_kind (c : Cf) (x : List UInt8) : 1 ≤ (evT c x).kind ∧ (evT c x).kind ≤ 5 := by
  unfold evT
  split
  · simp
  · split
    · simp
    · split <;> simp
theorem evalL_kind {c : Cf} {t : List UInt8} {e : Ev} (h : evalL c t = some e) : 1 ≤ e.kind ∧ e.kind ≤ 6 := by
  unfold evalL at h
  split at h
  · cases h
  · split at h
    · cases h; simp
    · split at h
      · cases h; simp
      · split at h
        · cases h
        · cases h
          have := evT_kind c (readL c t).1
          omega
theorem fstep_kind {c : Cf} {f : Fd} {b : UInt8} {e : Ev} (h : (fstep c f b).2 = some e) : 1 ≤ e.kind ∧ e.kind ≤ 6 := by
  unfold fstep at h
  split at h
  · unfold endE at h
    split at h
    · cases h; simp
    · exact evalL_kind h
  · split at h
    · cases h
    · split at h <;> cases h
def feedF (c : Cf) (f : Fd) (l : List UInt8) : Fd × List Ev := if okF c f = true ∧ l.length ≤ 600 then ffeed c f l else (⟨[], false⟩, [])
/-- a text cut at its ends: the pieces ahead of each, and what is behind the last -/
def cutG (e : UInt8) (p : List (List UInt8) × List UInt8) (b : UInt8) : List (List UInt8) × List UInt8 := if b = e then (p.1 ++ [p.2], []) else (p.1, p.2 ++ [b])
def cutS (e : UInt8) (l : List UInt8) : List (List UInt8) × List UInt8 := l.foldl (cutG e) ([], [])
def pieceE (c : Cf) (p : List UInt8) : List Ev := if holdN c < (p.length : Int) then [⟨5, []⟩] else (evalL c p).toList
def allL (c : Cf) (l : List UInt8) : List Ev := (cutS (endOf c) l).1.flatMap (pieceE c)
def allF (c : Cf) (l : List UInt8) : List Ev := if confB c = true ∧ l.length ≤ 600 then allL c l else []
theorem cutS_snoc (e : UInt8) (l : List UInt8) (b : UInt8) : cutS e (l ++ [b]) = cutG e (cutS e l) b := by simp [cutS, List.foldl_append]
theorem snoc_ind {P : List UInt8 → Prop} (h0 : P []) (h1 : ∀ l b, P l → P (l ++ [b])) (l : List UInt8) : P l := by
  have : ∀ n (l : List UInt8), l.length = n → P l := by
    intro n
    induction n with
    | zero => intro l hl; rw [List.eq_nil_of_length_eq_zero hl]; exact h0
    | succ n ih =>
      intro l hl
      have hne : l ≠ [] := by intro h; subst h; simp at hl
      have e := List.dropLast_concat_getLast hne
      rw [← e]
      exact h1 _ _ (ih _ (by rw [List.length_dropLast]; omega))
  exact this _ l rfl
theorem cutS_len (e : UInt8) (l : List UInt8) : (cutS e l).1.length ≤ l.length := by
  induction l using snoc_ind with
  | h0 => simp [cutS]
  | h1 l b ih =>
    rw [cutS_snoc, List.length_append]
    unfold cutG
    split
    · simp; omega
    · simp; omega
theorem cutS_clean (e : UInt8) (l : List UInt8) : e ∉ (cutS e l).2 ∧ ∀ p ∈ (cutS e l).1, e ∉ p := by
  induction l using snoc_ind with
  | h0 => simp [cutS]
  | h1 l b ih =>
    rw [cutS_snoc]
    unfold cutG
    split
    · refine ⟨by simp, fun p hp => ?_⟩
      simp only [List.mem_append, List.mem_singleton] at hp
      rcases hp with hp | hp
      · exact ih.2 p hp
      · rw [hp]; exact ih.1
    · rename_i hb
      refine ⟨?_, ih.2⟩
      simp only [List.mem_append, List.mem_singleton, not_or]
      exact ⟨ih.1, fun h => hb h.symm⟩
def stOf (c : Cf) (q : List UInt8) : Fd := if holdN c < (q.length : Int) then ⟨[], true⟩ else ⟨q, false⟩
theorem step_end {c : Cf} (q : List UInt8) : fstep c (stOf c q) (endOf c) = (⟨[], false⟩, endE c (stOf c q)) ∧ (endE c (stOf c q)).toList = pieceE c q := by
  refine ⟨by unfold fstep; rw [if_pos rfl], ?_⟩
  unfold endE stOf pieceE
  by_cases h : holdN c < (q.length : Int)
  · rw [if_pos h, if_pos h]; rfl
  · rw [if_neg h, if_neg h]; rfl
theorem step_other {c : Cf} (q : List UInt8) {b : UInt8} (hb : b ≠ endOf c) : fstep c (stOf c q) b = (stOf c (q ++ [b]), none) := by
  unfold fstep
  rw [if_neg hb]
  unfold stOf
  by_cases h : holdN c < (q.length : Int)
  · rw [if_pos h, if_pos rfl, if_pos (by rw [List.length_append]; simp; omega)]
  · rw [if_neg h, if_neg Bool.false_ne_true]
    by_cases h2 : holdN c ≤ (q.length : Int)
    · rw [if_pos h2, if_pos (by rw [List.length_append]; simp; omega)]
    · rw [if_neg h2, if_neg (by rw [List.length_append]; simp; omega)]
/-- byte by byte is piece by piece -/
theorem feed_cut {c : Cf} (h : confB c = true) (l : List UInt8) : ffeed c ⟨[], false⟩ l = (stOf c (cutS (endOf c) l).2, allL c l) := by
  have hp := hold_pos h
  have h0 : stOf c [] = ⟨[], false⟩ := by unfold stOf; rw [if_neg (by simp; omega)]
  induction l using snoc_ind with
  | h0 => rw [show (cutS (endOf c) []).2 = [] from rfl, h0]; rfl
  | h1 l b ih =>
    have ea : allL c (l ++ [b]) = (cutG (endOf c) (cutS (endOf c) l) b).1.flatMap (pieceE c) := by unfold allL; rw [cutS_snoc]
    rw [ffeed_snoc, ih, cutS_snoc, ea]
    unfold fgo cutG
    by_cases hb : b = endOf c
    · subst hb
      obtain ⟨e1, e2⟩ := step_end (c := c) (cutS (endOf c) l).2
      rw [if_pos rfl, e1, e2, h0, List.flatMap_append]
      simp [allL]
    · rw [if_neg hb, step_other _ hb]
      simp [allL]
theorem allL_len (c : Cf) (l : List UInt8) : (allL c l).length ≤ l.length := by
  have h1 := cutS_len (endOf c) l
  have : ∀ ps : List (List UInt8), (ps.flatMap (pieceE c)).length ≤ ps.length := by
    intro ps
    induction ps with
    | nil => simp
    | cons p ps ih =>
      rw [List.flatMap_cons, List.length_append, List.length_cons]
      have : (pieceE c p).length ≤ 1 := by
        unfold pieceE
        split
        · simp
        · exact opt_len _
      omega
  have := this (cutS (endOf c) l).1
  unfold allL; omega
end Go.Proofs.Ytfojlpnnhghcbaa
