/- Plain: how frames are written, a finder of frames among bytes, on lists. -/
import Derived.Test.YtcegpcggdcgjbaaGreatDoorKitSum
import Derived.Test.YtcegpcggdcgjbaaGreatDoorKitEsc
import Derived.Test.YtcegpcggdcgjbaaGreatDoorKitCobT
import Derived.Test.YtcegpcggdcgjbaaGreatDoorKitA
import Derived.Maps.AppendAt
import Derived.Deep.RegionWith
import Derived.Deep.RegionHeld3
import Derived.RegionTactic
import Derived.Maps.OwnSet
import Derived.Test.YtcegpcggdcgjbaaGreatDoorIdx
namespace Go.Proofs.YtcegpcggdcgjbaaGreatDoor
/-- an event: its kind, its text -/
structure Ev where
  kind : Int
  text : List UInt8
structure Cf where
  codec : Int
  sum : Int
  most : Int
  map : Int
structure Fd where
  held : List UInt8
  over : Bool
def confB (c : Cf) : Bool := inB c.codec 1 3 && (kindB c.sum && (inB c.most 0 40 && (mapOkB c.map && (decide (c.codec = 1) || decide (c.map = 0)))))
theorem confB_yes {c : Cf} (h : confB c = true) : (c.codec = 1 ∨ c.codec = 2 ∨ c.codec = 3) ∧ kindB c.sum = true ∧ (0 ≤ c.most ∧ c.most ≤ 40) ∧ (0 ≤ c.map ∧ c.map ≤ 4294967295) ∧ (c.codec = 1 ∨ c.map = 0) := by
  simp only [confB, inB, mapOkB, Bool.and_eq_true, Bool.or_eq_true, decide_eq_true_eq] at h
  obtain ⟨h1, h2, h3, h4, h5⟩ := h
  exact ⟨by omega, h2, h3, h4, h5⟩
def endOf (c : Cf) : UInt8 := if c.codec = 1 then 126 else 0
def writeL (c : Cf) (l : List UInt8) : List UInt8 := if c.codec = 1 then escR c.map.toNat l else if c.codec = 2 then cob l else less l
def readL (c : Cf) (t : List UInt8) : List UInt8 × Bool := if c.codec = 1 then (unR c.map.toNat t, true) else if c.codec = 2 then getA t else lgetA t
def sendL (c : Cf) (l : List UInt8) : List UInt8 := writeL c (putL c.sum l) ++ [endOf c]
def sendOk (c : Cf) (l : List UInt8) : Bool := confB c && decide ((l.length : Int) ≤ c.most)
def sendA (c : Cf) (l : List UInt8) : List UInt8 := if sendOk c l = true then sendL c l else []
def holdN (c : Cf) : Int := 2 * (c.most + c.sum) + 4
/-- what a text that was read comes to -/
def evT (c : Cf) (x : List UInt8) : Ev :=
  if (x.length : Int) < c.sum then ⟨4, []⟩
  else if c.most + c.sum < (x.length : Int) then ⟨5, []⟩
  else if getB c.sum x = true then ⟨1, cutL c.sum x⟩ else ⟨2, []⟩
/-- what bytes between two ends come to -/
def evalL (c : Cf) (t : List UInt8) : Option Ev :=
  if t.length = 0 then none
  else if c.codec = 1 ∧ t.getLast? = some 125 then some ⟨3, []⟩
  else if (readL c t).2 = false then some ⟨6, []⟩
  else if c.codec = 1 ∧ (readL c t).1.length = 0 then none
  else some (evT c (readL c t).1)
def endE (c : Cf) (f : Fd) : Option Ev := if f.over = true then some ⟨5, []⟩ else evalL c f.held
def fstep (c : Cf) (f : Fd) (b : UInt8) : Fd × Option Ev :=
  if b = endOf c then (⟨[], false⟩, endE c f)
  else if f.over = true then (f, none)
  else if holdN c ≤ (f.held.length : Int) then (⟨[], true⟩, none)
  else (⟨f.held ++ [b], false⟩, none)
def fgo (c : Cf) (p : Fd × List Ev) (b : UInt8) : Fd × List Ev := ((fstep c p.1 b).1, p.2 ++ (fstep c p.1 b).2.toList)
def ffeed (c : Cf) (f : Fd) (l : List UInt8) : Fd × List Ev := l.foldl (fgo c) (f, [])
def okF (c : Cf) (f : Fd) : Bool := confB c && (decide ((f.held.length : Int) ≤ holdN c) && (!f.held.contains (endOf c) && (!f.over || decide (f.held.length = 0))))
theorem okF_yes {c : Cf} {f : Fd} (h : okF c f = true) : confB c = true ∧ (f.held.length : Int) ≤ holdN c ∧ endOf c ∉ f.held ∧ (f.over = true → f.held = []) := by
  simp only [okF, Bool.and_eq_true, Bool.or_eq_true, Bool.not_eq_true', decide_eq_true_eq] at h
  obtain ⟨h1, h2, h3, h4⟩ := h
  refine ⟨h1, h2, by simpa using h3, fun ho => ?_⟩
  rcases h4 with h4 | h4
  · rw [ho] at h4; cases h4
  · exact List.eq_nil_of_length_eq_zero h4
theorem okF_mk {c : Cf} {f : Fd} (h1 : confB c = true) (h2 : (f.held.length : Int) ≤ holdN c) (h3 : endOf c ∉ f.held) (h4 : f.over = true → f.held = []) : okF c f = true := by
  simp only [okF, Bool.and_eq_true, Bool.or_eq_true, Bool.not_eq_true', decide_eq_true_eq]
  refine ⟨h1, h2, by simpa using h3, ?_⟩
  cases ho : f.over with
  | false => exact .inl rfl
  | true => exact .inr (by rw [h4 ho]; rfl)
theorem hold_pos {c : Cf} (h : confB c = true) : 8 ≤ holdN c ∧ holdN c ≤ 92 ∧ 2 ≤ c.sum ∧ c.sum ≤ 4 := by
  obtain ⟨_, h2, h3, _⟩ := confB_yes h
  have := kind_or h2
  unfold holdN; omega
theorem ffeed_snoc (c : Cf) (f : Fd) (l : List UInt8) (b : UInt8) : ffeed c f (l ++ [b]) = fgo c (ffeed c f l) b := by simp [ffeed, List.foldl_append]
theorem fgo_fold (c : Cf) (l : List UInt8) : ∀ (f : Fd) (es : List Ev), l.foldl (fgo c) (f, es) = ((ffeed c f l).1, es ++ (ffeed c f l).2) := by
  unfold ffeed
  induction l with
  | nil => intro f es; simp
  | cons b l ih =>
    intro f es
    rw [List.foldl_cons, List.foldl_cons]
    have e1 : fgo c (f, es) b = ((fstep c f b).1, es ++ (fstep c f b).2.toList) := rfl
    have e2 : fgo c (f, []) b = ((fstep c f b).1, [] ++ (fstep c f b).2.toList) := rfl
    rw [e1, e2, ih, ih (fstep c f b).1 ([] ++ _)]
    simp
theorem ffeed_append (c : Cf) (f : Fd) (l m : List UInt8) : ffeed c f (l ++ m) = ((ffeed c (ffeed c f l).1 m).1, (ffeed c f l).2 ++ (ffeed c (ffeed c f l).1 m).2) := by
  show (l ++ m).foldl (fgo c) (f, []) = _
  rw [List.foldl_append]
  have e : l.foldl (fgo c) (f, []) = ((ffeed c f l).1, (ffeed c f l).2) := rfl
  rw [e, fgo_fold]
theorem ffeed_nil (c : Cf) (f : Fd) : ffeed c f [] = (f, []) := rfl
theorem ffeed_cons (c : Cf) (f : Fd) (b : UInt8) (l : List UInt8) : ffeed c f (b :: l) = ((ffeed c (fstep c f b).1 l).1, (fstep c f b).2.toList ++ (ffeed c (fstep c f b).1 l).2) := by
  have := ffeed_append c f [b] l
  simpa [ffeed, fgo] using this
theorem fstep_ok {c : Cf} {f : Fd} (b : UInt8) (h : okF c f = true) : okF c (fstep c f b).1 = true := by
  obtain ⟨h1, h2, h3, h4⟩ := okF_yes h
  have hp := hold_pos h1
  unfold fstep
  split
  · exact okF_mk h1 (by simp; omega) (by simp) (fun _ => rfl)
  · rename_i hb
    split
    · exact h
    · split
      · exact okF_mk h1 (by simp; omega) (by simp) (fun _ => rfl)
      · refine okF_mk h1 (by simp only [List.length_append, List.length_singleton]; omega) ?_ (fun h => by cases h)
        simp only [List.mem_append, List.mem_singleton, not_or]
        exact ⟨h3, fun e => hb e.symm⟩
theorem ffeed_ok {c : Cf} (l : List UInt8) : ∀ {f : Fd}, okF c f = true → okF c (ffeed c f l).1 = true := by
  induction l with
  | nil => intro f h; exact h
  | cons b l ih => intro f h; rw [ffeed_cons]; exact ih (fstep_ok b h)
theorem opt_len (o : Option Ev) : o.toList.length ≤ 1 := by cases o <;> simp
theorem ffeed_len (c : Cf) (l : List UInt8) : ∀ (f : Fd), (ffeed c f l).2.length ≤ l.length := by
  induction l with
  | nil => intro f; simp [ffeed]
  | cons b l ih =>
    intro f
    rw [ffeed_cons, List.length_append, List.length_cons]
    have := opt_len (fstep c f b).2
    have := ih (fstep c f b).1
    omega
theorem new_ok {c : Cf} (h : confB c = true) : okF c ⟨[], false⟩ = true := by
  have := hold_pos h
  exact okF_mk h (by simp; omega) (by simp) (fun h => by cases h)
theorem evT_kind (c : Cf) (x : List UInt8) : 1 ≤ (evT c x).kind ∧ (evT c x).kind ≤ 5 := by
  unfold evT
  split
  · simp
  · split
    · simp
    · split <;> simp
theorem evalL_kind {c : Cf} {t : List UInt8} {e : Ev} (h : evalL c t = some e) : 1 ≤ e.kind ∧ e.kind ≤ 6 := by
  unfold evalL at h
  split at h
  · cases h
  · split at h
    · cases h; simp
    · split at h
      · cases h; simp
      · split at h
        · cases h
        · cases h
          have := evT_kind c (readL c t).1
          omega
theorem fstep_kind {c : Cf} {f : Fd} {b : UInt8} {e : Ev} (h : (fstep c f b).2 = some e) : 1 ≤ e.kind ∧ e.kind ≤ 6 := by
  unfold fstep at h
  split at h
  · unfold endE at h
    split at h
    · cases h; simp
    · exact evalL_kind h
  · split at h
    · cases h
    · split at h <;> cases h
def feedF (c : Cf) (f : Fd) (l : List UInt8) : Fd × List Ev := if okF c f = true ∧ l.length ≤ 600 then ffeed c f l else (⟨[], false⟩, [])
/-- a text cut at its ends: the pieces ahead of each, and what is behind the last -/
def cutG (e : UInt8) (p : List (List UInt8) × List UInt8) (b : UInt8) : List (List UInt8) × List UInt8 := if b = e then (p.1 ++ [p.2], []) else (p.1, p.2 ++ [b])
def cutS (e : UInt8) (l : List UInt8) : List (List UInt8) × List UInt8 := l.foldl (cutG e) ([], [])
def pieceE (c : Cf) (p : List UInt8) : List Ev := if holdN c < (p.length : Int) then [⟨5, []⟩] else (evalL c p).toList
def allL (c : Cf) (l : List UInt8) : List Ev := (cutS (endOf c) l).1.flatMap (pieceE c)
def allF (c : Cf) (l : List UInt8) : List Ev := if confB c = true ∧ l.length ≤ 600 then allL c l else []
theorem cutS_snoc (e : UInt8) (l : List UInt8) (b : UInt8) : cutS e (l ++ [b]) = cutG e (cutS e l) b := by simp [cutS, List.foldl_append]
theorem snoc_ind {P : List UInt8 → Prop} (h0 : P []) (h1 : ∀ l b, P l → P (l ++ [b])) (l : List UInt8) : P l := by
  have : ∀ n (l : List UInt8), l.length = n → P l := by
    intro n
    induction n with
    | zero => intro l hl; rw [List.eq_nil_of_length_eq_zero hl]; exact h0
    | succ n ih =>
      intro l hl
      have hne : l ≠ [] := by intro h; subst h; simp at hl
      have e := List.dropLast_concat_getLast hne
      rw [← e]
      exact h1 _ _ (ih _ (by rw [List.length_dropLast]; omega))
  exact this _ l rfl
theorem cutS_len (e : UInt8) (l : List UInt8) : (cutS e l).1.length ≤ l.length := by
  induction l using snoc_ind with
  | h0 => simp [cutS]
  | h1 l b ih =>
    rw [cutS_snoc, List.length_append]
    unfold cutG
    split
    · simp; omega
    · simp; omega
theorem cutS_clean (e : UInt8) (l : List UInt8) : e ∉ (cutS e l).2 ∧ ∀ p ∈ (cutS e l).1, e ∉ p := by
  induction l using snoc_ind with
  | h0 => simp [cutS]
  | h1 l b ih =>
    rw [cutS_snoc]
    unfold cutG
    split
    · refine ⟨by simp, fun p hp => ?_⟩
      simp only [List.mem_append, List.mem_singleton] at hp
      rcases hp with hp | hp
      · exact ih.2 p hp
      · rw [hp]; exact ih.1
    · rename_i hb
      refine ⟨?_, ih.2⟩
      simp only [List.mem_append, List.mem_singleton, not_or]
      exact ⟨ih.1, fun h => hb h.symm⟩
def stOf (c : Cf) (q : List UInt8) : Fd := if holdN c < (q.length : Int) then ⟨[], true⟩ else ⟨q, false⟩
theorem step_end {c : Cf} (q : List UInt8) : fstep c (stOf c q) (endOf c) = (⟨[], false⟩, endE c (stOf c q)) ∧ (endE c (stOf c q)).toList = pieceE c q := by
  refine ⟨by unfold fstep; rw [if_pos rfl], ?_⟩
  unfold endE stOf pieceE
  by_cases h : holdN c < (q.length : Int)
  · rw [if_pos h, if_pos h]; rfl
  · rw [if_neg h, if_neg h]; rfl
theorem step_other {c : Cf} (q : List UInt8) {b : UInt8} (hb : b ≠ endOf c) : fstep c (stOf c q) b = (stOf c (q ++ [b]), none) := by
  unfold fstep
  rw [if_neg hb]
  unfold stOf
  by_cases h : holdN c < (q.length : Int)
  · rw [if_pos h, if_pos rfl, if_pos (by rw [List.length_append]; simp; omega)]
  · rw [if_neg h, if_neg Bool.false_ne_true]
    by_cases h2 : holdN c ≤ (q.length : Int)
    · rw [if_pos h2, if_pos (by rw [List.length_append]; simp; omega)]
    · rw [if_neg h2, if_neg (by rw [List.length_append]; simp; omega)]
/-- byte by byte is piece by piece -/
theorem feed_cut {c : Cf} (h : confB c = true) (l : List UInt8) : ffeed c ⟨[], false⟩ l = (stOf c (cutS (endOf c) l).2, allL c l) := by
  have hp := hold_pos h
  have h0 : stOf c [] = ⟨[], false⟩ := by unfold stOf; rw [if_neg (by simp; omega)]
  induction l using snoc_ind with
  | h0 => rw [show (cutS (endOf c) []).2 = [] from rfl, h0]; rfl
  | h1 l b ih =>
    have ea : allL c (l ++ [b]) = (cutG (endOf c) (cutS (endOf c) l) b).1.flatMap (pieceE c) := by unfold allL; rw [cutS_snoc]
    rw [ffeed_snoc, ih, cutS_snoc, ea]
    unfold fgo cutG
    by_cases hb : b = endOf c
    · subst hb
      obtain ⟨e1, e2⟩ := step_end (c := c) (cutS (endOf c) l).2
      rw [if_pos rfl, e1, e2, h0, List.flatMap_append]
      simp [allL]
    · rw [if_neg hb, step_other _ hb]
      simp [allL]
theorem allL_len (c : Cf) (l : List UInt8) : (allL c l).length ≤ l.length := by
  have h1 := cutS_len (endOf c) l
  have : ∀ ps : List (List UInt8), (ps.flatMap (pieceE c)).length ≤ ps.length := by
    intro ps
    induction ps with
    | nil => simp
    | cons p ps ih =>
      rw [List.flatMap_cons, List.length_append, List.length_cons]
      have : (pieceE c p).length ≤ 1 := by
        unfold pieceE
        split
        · simp
        · exact opt_len _
      omega
  have := this (cutS (endOf c) l).1
  unfold allL; omega
end Go.Proofs.YtcegpcggdcgjbaaGreatDoor
/- A slice of events of the call's own. -/
namespace Go.Proofs.YtcegpcggdcgjbaaGreatDoor
open Go.ChangeShapes Go.WideShapes Go.ChangeAt Go.RowKit
theorem zero_event (w : World) : (zeroValue 110).run Tryz.prog w = .ok (.agg #[.int .i64 0, .string ⟨#[]⟩]) w := by kernel_rfl
theorem below2 (w : World) (a b : Obj) : Below w.heap.size w ((w.alloc a).alloc b) := ((Below.refl _ _).alloc (Nat.le_refl _) _).alloc (by simp) _
def evC (e : Ev) : List Value := [.int .i64 e.kind, .string ⟨e.text.toArray⟩]
def evCs (l : List Ev) : List Value := l.flatMap evC
theorem evCs_len (l : List Ev) : (evCs l).length = l.length * 2 := by
  induction l with
  | nil => rfl
  | cons e l ih => simp only [evCs, List.flatMap_cons, List.length_append, List.length_cons] at ih ⊢; rw [ih]; simp [evC]; omega
theorem evCs_append (a b : List Ev) : evCs (a ++ b) = evCs a ++ evCs b := by simp [evCs]
theorem evCs_one (l : List Ev) : ∀ u ∈ evCs l, u.oneCell' = true := by
  intro u hu
  obtain ⟨e, _, he⟩ := List.mem_flatMap.1 hu
  simp only [evC, List.mem_cons, List.not_mem_nil, or_false] at he
  rcases he with rfl | rfl <;> rfl
theorem evCs_at (l : List Ev) (k : Nat) (h : k < l.length) : (evCs l)[2 * k]? = some (.int .i64 l[k].kind) ∧ (evCs l)[2 * k + 1]? = some (.string ⟨l[k].text.toArray⟩) := by
  induction l generalizing k with
  | nil => simp at h
  | cons e l ih =>
    have e1 : evCs (e :: l) = .int .i64 e.kind :: .string ⟨e.text.toArray⟩ :: evCs l := rfl
    rw [e1]
    cases k with
    | zero => exact ⟨rfl, rfl⟩
    | succ k =>
      have := ih k (by simpa using h)
      rw [show 2 * (k + 1) = 2 * k + 1 + 1 by omega]
      simpa using this
/-- the slice value v owns the events l -/
def OE (w : World) (base : Nat) (v : Value) (l : List Ev) : Prop := w.ownsRow base 110 2 v l.length (evCs l)
theorem info_ev : (Tryz.prog.info? 110).map (fun i => (i.zero, i.size, i.bytes)) = some (some (.agg #[.int .i64 0, .string ⟨#[]⟩]), 2, 24) := by kernel_rfl
/-- the slice value v reads as the events l, in a block from lo on and below B -/
def RE (w : World) (lo B : Nat) (v : Value) (l : List Ev) : Prop :=
  ∃ a cap, v = .slice a l.length cap ∧ (0 < l.length → ∃ g, a = some ⟨g, 0, none⟩ ∧ lo ≤ g ∧ g < B ∧ ∀ j u, (evCs l)[j]? = some u → w.cell? ⟨g, j, none⟩ = some u)
theorem lit_add (g j : Nat) : (⟨g, 0, none⟩ : Addr).add j = ⟨g, j, none⟩ := by unfold Addr.add; split <;> simp_all
theorem OE.reads {w : World} {base : Nat} {v : Value} {l : List Ev} (h : OE w base v l) : RE w base w.heap.size v l := by
  have hlt := h.lt
  have hcs := @World.ownsRow.cells _ _ _ _ _ _ _ h
  rcases h.2 with ⟨rfl, hn⟩ | ⟨g, cap, cur, rfl, hb, hg, _⟩
  · exact ⟨none, 0, by rw [hn], fun h0 => by omega⟩
  · exact ⟨_, cap, rfl, fun _ => ⟨_, rfl, (hlt g rfl).1, (hlt g rfl).2, fun j u hu => by rw [← lit_add]; exact hcs rfl j u hu⟩⟩
section
variable {w w' : World} {lo lo' B B' : Nat} {v : Value} {l : List Ev}
theorem RE.keep (h : RE w lo B v l) (hk : ∀ p : Addr, lo ≤ p.block → p.block < B → w'.cell? p = w.cell? p) : RE w' lo B v l := by
  obtain ⟨a, cap, hv, h2⟩ := h
  refine ⟨a, cap, hv, fun h0 => ?_⟩
  obtain ⟨x, hx, hl, hB, hc⟩ := h2 h0
  exact ⟨x, hx, hl, hB, fun j u hu => (hk ⟨x, j, none⟩ hl hB).trans (hc j u hu)⟩
theorem RE.below (h : RE w lo B v l) (hb : Below B w w') : RE w' lo B v l := h.keep fun _ _ hp => hb.cell hp
theorem RE.mono (h : RE w lo B v l) (hl : lo' ≤ lo) (hB : B ≤ B') : RE w lo' B' v l := by
  obtain ⟨a, cap, hv, h2⟩ := h
  refine ⟨a, cap, hv, fun h0 => ?_⟩
  obtain ⟨x, hx, hx1, hx2, hc⟩ := h2 h0
  exact ⟨x, hx, by omega, by omega, hc⟩
theorem RE.setCell (h : RE w lo B v l) {p : Addr} (hp : p.block < lo) (u : Value) : RE (w.setCell p u) lo B v l :=
  h.keep fun q hq _ => World.cell?_setCell_other w p q u (fun e => by subst e; omega)
theorem RE.drew (h : RE w lo B v l) : RE w.drew lo B v l := h
end
theorem RE_new (w : World) (ev : Ev) : RE (w.alloc (.cells #[.int .i64 ev.kind, .string ⟨ev.text.toArray⟩] 110)) w.heap.size (w.heap.size + 1) (.slice (some ⟨w.heap.size, 0, none⟩) 1 1) [ev] := by
  refine ⟨_, _, rfl, fun _ => ⟨_, rfl, by simp, by simp, fun j u hu => ?_⟩⟩
  match j, hu with
  | 0, hu => simp [evCs, evC] at hu; subst hu; simp
  | 1, hu => simp [evCs, evC] at hu; subst hu; simp
theorem RE_nil (w : World) (lo B : Nat) : RE w lo B (.slice none 0 0) [] := ⟨none, 0, rfl, fun h => by simp at h⟩
section
variable {P : Program} (w : World)
/-- append of events that are read, nil or not -/
theorem wpList_append_ev {ops : Array Oper} {rest : List Oper} {o : Oper} {a : Act} {Q : Exit → Act → World → Prop} (hgd : o.guard = none) (s x : Operand) (t : TypeId)
    (ho : o.op = .call { callee := .builtin .append, args := #[s, x], argTypes := #[t, t] })
    (base : Nat) (i : TypeInfo) (ht : P.underlying t = some (.slice 110)) (hi : P.info? 110 = some i) (hz : i.zero = some (.agg #[.int .i64 0, .string ⟨#[]⟩]))
    (hsize : i.size = 2) (hby : i.bytes = 24) (v : Value) (l : List Ev) (hs : a.eval s = v) (hown : OE w base v l)
    (lo B : Nat) (v2 : Value) (news : List Ev) (hx : a.eval x = v2) (hr : RE w lo B v2 news) (hlen : l.length + news.length ≤ 1000000000000) (hbase : base ≤ w.heap.size)
    (h : ∀ v' w', OE w' base v' (l ++ news) → w.grownBy w' v.ownBlock → (v'.ownBlock = v.ownBlock ∨ v'.ownBlock = some w.heap.size) → wpList P ops Q rest (a.put o.dst v') w') : wpList P ops Q (o :: rest) a w := by
  refine wpList_plain hgd fun K hK => ?_
  obtain ⟨ad, cap, hv2, hr2⟩ := hr
  have hmain : ∃ v' w', (Builtin.append_ #[t, t] o.type #[v, v2]).run P w = .ok v' w' ∧ OE w' base v' (l ++ news) ∧ w.grownBy w' v.ownBlock ∧ (v'.ownBlock = v.ownBlock ∨ v'.ownBlock = some w.heap.size) := by
    cases ad with
    | some y =>
      have hc : ∀ j u, (evCs news)[j]? = some u → w.cell? (y.add j) = some u := by
        by_cases h0 : 0 < news.length
        · obtain ⟨y', hy, _, _, hc⟩ := hr2 h0
          injection hy with hy
          subst hy
          exact fun j u hu => by rw [lit_add]; exact hc j u hu
        · have hn : news = [] := List.eq_nil_of_length_eq_zero (by omega)
          subst hn
          intro j u hu
          simp [evCs] at hu
      obtain ⟨v', w', r1, r2, r3, _, r5⟩ := run_append_own_at (P := P) w base t o.type 110 i _ 2 24 ht hi hz hsize hby rfl (by omega) v l.length (evCs l) hown y news.length cap (evCs news) (by rw [evCs_len]) hc (evCs_one _) (by unfold maxLen; omega) (by omega) hbase
      refine ⟨v', w', by rw [hv2]; exact r1, ?_, r3, r5⟩
      unfold OE
      rw [List.length_append, evCs_append]
      exact r2
    | none =>
      have hn : news = [] := by
        by_cases h0 : 0 < news.length
        · obtain ⟨y', hy, _⟩ := hr2 h0
          cases hy
        · exact List.eq_nil_of_length_eq_zero (by omega)
      subst hn
      refine ⟨v, w, ?_, by simpa using hown, ⟨rfl, rfl, rfl, Nat.le_refl _, fun _ _ _ => rfl⟩, .inl rfl⟩
      rw [hv2]
      rcases hown.2 with ⟨rfl, hl⟩ | ⟨g, cp, cur, rfl, _, hg, hnc, _, hcs, _⟩
      · simp [Builtin.append_, run_underlying ht, sizeOf, typeInfo, hi, Builtin.lenOf, Builtin.firstCells]
      · simp [Builtin.append_, run_underlying ht, sizeOf, typeInfo, hi, Builtin.lenOf, Builtin.firstCells, hnc, storeCells]
  obtain ⟨v', w', hr, h2, h3, h4⟩ := hmain
  unfold Oper.wp execOp
  simp only [ho, resolve, invoke, builtin, Sem.run_bind, Sem.run_pure, Result.andThen_ok, List.map_toArray, List.map_cons, List.map_nil, hs, hx, hr]
  exact hK _ _ (h v' w' h2 h3 h4)
end
theorem OE.put {W : World} {base : Nat} {v : Value} {l : List Ev} (h : OE W base v l) {p : Addr} (hp : p.block < base) (x : Value) : OE (W.setCell p x) base v l := by
  refine ⟨h.1, ?_⟩
  rcases h.2 with hn | ⟨g, cap, cur, hv, hbg, hg, rest⟩
  · exact .inl hn
  · exact .inr ⟨g, cap, cur, hv, hbg, by rw [Below.heap_setCell _ _ _ _ (by omega)]; exact hg, rest⟩
theorem OE.below {W W' : World} {base : Nat} {v : Value} {l : List Ev} (h : OE W base v l) (hb : Below W.heap.size W W') : OE W' base v l :=
  World.ownsRow.kept h (row := none) ⟨hb.os, hb.tape, hb.output, hb.size, fun g hg _ => hb.block g hg⟩ (by cases v.ownBlock <;> simp)
end Go.Proofs.YtcegpcggdcgjbaaGreatDoor
/- How frames are written, in the program: the codecs looked up in a map of the call's own. -/
namespace Go.Proofs.YtcegpcggdcgjbaaGreatDoor
open Go.ChangeShapes Go.WideShapes Go.ChangeAt Go.RowKit
open Go.ChangeMaps Go.MapKept Go.Maps
abbrev cfV (a b d m : Int) : Value := .agg #[.int .i64 a, .int .i64 b, .int .i64 d, .int .i64 m]
def wayV (a m : Int) : Value := if a = 1 then .iface 74 (.agg #[.int .i64 m]) else if a = 2 then .iface 78 (.agg #[]) else if a = 3 then .iface 79 (.agg #[]) else .nilIface
def fieldsB (a b d m : Int) : Bool := kindB b && (inB d 0 40 && (decide (m = 0) || (decide (a = 1) && mapOkB m)))
theorem confB_fields (a b d m : Int) : confB ⟨a, b, d, m⟩ = (inB a 1 3 && fieldsB a b d m) := by
  unfold confB fieldsB
  cases inB a 1 3 with
  | false => rfl
  | true =>
    cases kindB b with
    | false => rfl
    | true =>
      cases inB d 0 40 with
      | false => rfl
      | true =>
        simp only [Bool.true_and]
        by_cases h : m = 0
        · subst h; simp [mapOkB]
        · simp [h, Bool.and_comm]
theorem fieldsOk_any (a b d m : Int) (w : World) :
    Calls Tryz.prog 37 #[cfV a b d m] w fun e w' => e = .returned (.bool (fieldsB a b d m)) ∧ Below w.heap.size w w' := by
  cases hk : kindB b with
  | false =>
    have HE := Lib.hid (show fieldsB a b d m = false by simp [fieldsB, hk])
    have HK := Lib.hid hk
    clear hk
    go_enter Tryz.func37, Tryz.ntmps37
    go_wp2_with (go_at_call 66; refine (polyOf_no _ _ HK.out).mono ?_; rintro e w' ⟨rfl, rfl⟩)
    go_ret
    exact ⟨by rw [HE.out]; rfl, (Below.refl _ _).alloc (Nat.le_refl _) _⟩
  | true =>
    have HK := Lib.hid hk
    by_cases hd : inB d 0 40 = true
    · have hd2 : 0 ≤ d ∧ d ≤ 40 := by simpa [inB] using hd
      obtain ⟨hd0, hd1⟩ := hd2
      by_cases hm : m = 0
      · have HE := Lib.hid (show fieldsB a b d m = true by simp [fieldsB, hk, hd, hm])
        subst hm
        clear hk hd
        go_enter Tryz.func37, Tryz.ntmps37
        go_wp2_with (go_at_call 66; refine (polyOf_yes _ _ HK.out).mono ?_; rintro e w' ⟨rfl, rfl⟩)
        go_ret
        exact ⟨by rw [HE.out]; rfl, (Below.refl _ _).alloc (Nat.le_refl _) _⟩
      · by_cases ha : a = 1
        · have HE := Lib.hid (show fieldsB a b d m = mapOkB m by simp [fieldsB, hk, hd, hm, ha])
          have hmb : (m == 0) = false := by simpa using hm
          subst ha
          clear hk hd
          go_enter Tryz.func37, Tryz.ntmps37
          go_wp2_with (first | (go_at_call 66; refine (polyOf_yes _ _ HK.out).mono ?_; rintro e w' ⟨rfl, rfl⟩) | (go_at_call 67; refine (mapOk_any _ _).mono ?_; rintro e w' ⟨rfl, hw⟩; obtain rfl := hw.symm))
          go_ret
          exact ⟨by rw [HE.out]; rfl, (Below.refl _ _).alloc (Nat.le_refl _) _⟩
        · have HE := Lib.hid (show fieldsB a b d m = false by simp [fieldsB, hk, hd, hm, ha])
          have hmb : (m == 0) = false := by simpa using hm
          have hab : (a == 1) = false := by simpa using ha
          clear hk hd
          go_enter Tryz.func37, Tryz.ntmps37
          go_wp2_with (go_at_call 66; refine (polyOf_yes _ _ HK.out).mono ?_; rintro e w' ⟨rfl, rfl⟩)
          go_ret
          exact ⟨by rw [HE.out]; rfl, (Below.refl _ _).alloc (Nat.le_refl _) _⟩
    · have HE := Lib.hid (show fieldsB a b d m = false by simp [fieldsB, hk, hd])
      have hd2 : d < 0 ∨ 40 < d := by simp [inB] at hd; omega
      clear hk hd
      rcases hd2 with hd2 | hd2
      · go_enter Tryz.func37, Tryz.ntmps37
        go_wp2_with (go_at_call 66; refine (polyOf_yes _ _ HK.out).mono ?_; rintro e w' ⟨rfl, rfl⟩)
        go_ret
        exact ⟨by rw [HE.out]; rfl, (Below.refl _ _).alloc (Nat.le_refl _) _⟩
      · go_enter Tryz.func37, Tryz.ntmps37
        go_wp2_with (go_at_call 66; refine (polyOf_yes _ _ HK.out).mono ?_; rintro e w' ⟨rfl, rfl⟩)
        go_ret
        exact ⟨by rw [HE.out]; rfl, (Below.refl _ _).alloc (Nat.le_refl _) _⟩
/-- an element of whatever kind, read as itself -/
def selfElem (v : Value) : Option (DataW Value × List MemPlace) := some (.held v, [])
theorem int_keys : Keyed Tryz.prog 3 := int_keyed Tryz.underlying3
theorem key_int (a : Int) (h : (Lit.int .i64 a).wf = true) : keyOf Tryz.prog 3 (.int .i64 a) = some (.int .i64 a) := keyOf_int_mk Tryz.underlying3 h
def codecs (m : Int) : DataW Value := (((DataW.map []).put (.int .i64 1) (.held (.iface 74 (.agg #[.int .i64 m])))).put (.int .i64 2) (.held (.iface 78 (.agg #[])))).put (.int .i64 3) (.held (.iface 79 (.agg #[])))
theorem zero_codec (w : World) : (zeroValue 54).run Tryz.prog w = .ok .nilIface w := by kernel_rfl
theorem codecs_at (a m : Int) : (codecs m).atKey (.int .i64 a) (.held .nilIface) = .held (wayV a m) ∧ Maps.has (codecs m) (.int .i64 a) = inB a 1 3 := by
  by_cases h1 : a = 1
  · subst h1; exact ⟨rfl, rfl⟩
  by_cases h2 : a = 2
  · subst h2; exact ⟨rfl, rfl⟩
  by_cases h3 : a = 3
  · subst h3; exact ⟨rfl, rfl⟩
  have n1 : (Lit.int .i64 a) ≠ .int .i64 1 := fun e => h1 (by injection e)
  have n2 : (Lit.int .i64 a) ≠ .int .i64 2 := fun e => h2 (by injection e)
  have n3 : (Lit.int .i64 a) ≠ .int .i64 3 := fun e => h3 (by injection e)
  constructor
  · unfold codecs
    rw [atKey_put_other n3, atKey_put_other n2, atKey_put_other n1, wayV, if_neg h1, if_neg h2, if_neg h3]
    rfl
  · unfold codecs
    rw [has_put_other n3, has_put_other n2, has_put_other n1]
    symm
    show inB a 1 3 = false
    simp only [inB, Bool.and_eq_false_iff, decide_eq_false_iff_not]
    omega
theorem selfElem_inv {v : Value} {d : DataW Value} {ps : List MemPlace} (h : selfElem v = some (d, ps)) : d = .held v := by
  simp only [selfElem, Option.some.injEq, Prod.mk.injEq] at h
  exact h.1.symm
set_option maxRecDepth 100000 in
/-- the map of codecs is laid, behind the box of the configuration -/
theorem codecs_laid (a m : Int) (w0 : World) (wa : (Lit.int .i64 a).wf = true) :
    ∃ w1 w2 w3, (Instr.mapUpdate 80 (.map (some w0.heap.size)) (.int .i64 1) (.iface 74 (.agg #[.int .i64 m]))).run Tryz.prog (w0.alloc (.map #[] 0)) = .ok () w1 ∧
      (Instr.mapUpdate 80 (.map (some w0.heap.size)) (.int .i64 2) (.iface 78 (.agg #[]))).run Tryz.prog w1 = .ok () w2 ∧
      (Instr.mapUpdate 80 (.map (some w0.heap.size)) (.int .i64 3) (.iface 79 (.agg #[]))).run Tryz.prog w2 = .ok () w3 ∧
      (Instr.lookup 80 (.map (some w0.heap.size)) (.int .i64 a) true).run Tryz.prog w3 = .ok (.tuple #[wayV a m, .bool (inB a 1 3)]) w3 ∧ Below w0.heap.size w0 w3 := by
  have h0 := World.ownsMap_made w0 Tryz.prog 3 selfElem
  obtain ⟨w1, r1, h1, g1⟩ := h0.update int_keys Tryz.underlying80 (by unfold maxLen; omega) (key_int 1 (by decide)) (val := .iface 74 (.agg #[.int .i64 m])) rfl
  obtain ⟨w2, r2, h2, g2⟩ := h1.update int_keys Tryz.underlying80 (by unfold maxLen; omega) (key_int 2 (by decide)) (val := .iface 78 (.agg #[])) rfl
  obtain ⟨w3, r3, h3, g3⟩ := h2.update int_keys Tryz.underlying80 (by unfold maxLen; omega) (key_int 3 (by decide)) (val := .iface 79 (.agg #[])) rfl
  obtain ⟨v, ps, hl, hv⟩ := h3.look_ok int_keys Tryz.underlying80 (zero_codec _) (zd := .held .nilIface) (zp := []) rfl (key_int a wa)
  obtain ⟨e1, e2⟩ := codecs_at a m
  have ev : v = wayV a m := by
    have e3 := selfElem_inv hv
    have e4 : (codecs m).atKey (.int .i64 a) (.held .nilIface) = .held v := e3
    rw [e1] at e4
    injection e4 with e4
    exact e4.symm
  refine ⟨w1, w2, w3, r1, r2, r3, ?_, ?_⟩
  · rw [hl, ev]
    show Result.ok (Value.tuple #[wayV a m, .bool (Maps.has (codecs m) (.int .i64 a))]) w3 = _
    rw [e2]
  · have s1 := g1.size
    have s2 := g2.size
    have b0 : Below w0.heap.size w0 (w0.alloc (.map #[] 0)) := (Below.refl _ _).alloc (Nat.le_refl _) _
    have b1 := b0.grown g1 b0.size (fun k hk => by cases hk; exact Nat.le_refl _)
    have b2 := b1.grown g2 b1.size (fun k hk => by cases hk; exact Nat.le_refl _)
    exact b2.grown g3 b2.size (fun k hk => by cases hk; exact Nat.le_refl _)
/-- a box of four cells -/
theorem four_cells {w w' : World} {t : TypeId} {a b c d : Value} (h : Below (w.alloc (.cells #[a, b, c, d] t)).heap.size (w.alloc (.cells #[a, b, c, d] t)) w') :
    w'.cell? ⟨w.heap.size, 0, none⟩ = some a ∧ w'.cell? ⟨w.heap.size, 1, none⟩ = some b ∧ w'.cell? ⟨w.heap.size, 2, none⟩ = some c ∧ w'.cell? ⟨w.heap.size, 3, none⟩ = some d := by
  have hl : w.heap.size < (w.alloc (.cells #[a, b, c, d] t)).heap.size := by simp
  exact ⟨(h.cell (p := ⟨w.heap.size, 0, none⟩) hl).trans (by simp), (h.cell (p := ⟨w.heap.size, 1, none⟩) hl).trans (by simp), (h.cell (p := ⟨w.heap.size, 2, none⟩) hl).trans (by simp), (h.cell (p := ⟨w.heap.size, 3, none⟩) hl).trans (by simp)⟩
theorem alloc_below {w w' : World} {o : Obj} (h : Below (w.alloc o).heap.size (w.alloc o) w') : Below w.heap.size w w' := ((Below.refl _ w).alloc (Nat.le_refl _) o).trans (h.mono (by simp))
set_option maxRecDepth 100000 in
set_option maxHeartbeats 1000000 in
theorem codecOf_any (a b d m : Int) (w : World) (wa : (Lit.int .i64 a).wf = true) :
    Calls Tryz.prog 22 #[cfV a b d m] w fun e w' => e = .returned (.tuple #[wayV a m, .bool (confB ⟨a, b, d, m⟩)]) ∧ Below w.heap.size w w' := by
  have hmm := @run_makeMap Tryz.prog
  have HC := Lib.hid (confB_fields a b d m)
  obtain ⟨w1, w2, w3, r1, r2, r3, r4, hb⟩ := codecs_laid a m (w.alloc (.cells #[.int .i64 a, .int .i64 b, .int .i64 d, .int .i64 m] 30)) wa
  obtain ⟨c0, c1, c2, c3⟩ := four_cells hb
  have HB := Lib.hid (alloc_below hb)
  clear hb
  have hs : (w.alloc (.cells #[.int .i64 a, .int .i64 b, .int .i64 d, .int .i64 m] 30)).heap.size = w.heap.size + 1 := by simp
  rw [hs] at r1 r2 r3 r4
  clear hs
  obtain ⟨u, hu⟩ : ∃ u, wayV a m = u := ⟨_, rfl⟩
  rw [hu] at r4
  cases hi : inB a 1 3 with
  | false =>
    rw [hi] at r4
    have HI := Lib.hid hi
    clear hi
    go_enter Tryz.func22, Tryz.ntmps22
    go_wp2
    exact bodyPost_ret (v := .tuple #[u, .bool false]) (by simp [results, Tryz.results22, go_sem]) rfl ⟨by rw [HC.out, HI.out, hu]; rfl, HB.out⟩
  | true =>
    rw [hi] at r4
    have HI := Lib.hid hi
    clear hi
    go_enter Tryz.func22, Tryz.ntmps22
    go_wp2_with (go_at_call 37; refine (fieldsOk_any a b d m _).mono ?_; rintro e w4 ⟨rfl, hb4⟩)
    exact bodyPost_ret (v := .tuple #[u, .bool (fieldsB a b d m)]) (by simp [results, Tryz.results22, go_sem]) rfl ⟨by rw [HC.out, HI.out, hu]; rfl, HB.out.trans (hb4.mono HB.out.size)⟩
theorem implConfOk_any (a b d m : Int) (w : World) (wa : (Lit.int .i64 a).wf = true) :
    Calls Tryz.prog 43 #[cfV a b d m] w fun e w' => e = .returned (.bool (confB ⟨a, b, d, m⟩)) ∧ Below w.heap.size w w' := by
  go_enter Tryz.func43, Tryz.ntmps43
  go_wp2_with (go_at_call 22; refine (codecOf_any a b d m _ wa).mono ?_; rintro e w4 ⟨rfl, hb4⟩)
  go_ret
  exact ⟨rfl, alloc_below hb4⟩
end Go.Proofs.YtcegpcggdcgjbaaGreatDoor
/- Whether a finder is ok, in the program and in the model; the delimiter of a codec. -/
namespace Go.Proofs.YtcegpcggdcgjbaaGreatDoor
open Go.ChangeShapes Go.WideShapes Go.ChangeAt Go.RowKit
set_option maxHeartbeats 1000000 in
theorem l7ConfOk_any (a b d m : Int) (w : World) :
    Calls Tryz.prog 57 #[cfV a b d m] w fun e w' => e = .returned (.bool (confB ⟨a, b, d, m⟩)) ∧ Below w.heap.size w w' := by
  cases h1 : inB a 1 3 with
  | false =>
    have HE := Lib.hid (show confB ⟨a, b, d, m⟩ = false by simp [confB, h1])
    go_enter Tryz.func57, Tryz.ntmps57
    go_wp2_with (go_at_call 80; refine (l1In_any _ _ _ _).mono ?_; rintro e w' ⟨rfl, rfl⟩; rw [h1])
    go_ret
    exact ⟨by rw [HE.out]; rfl, (Below.refl _ _).alloc (Nat.le_refl _) _⟩
  | true =>
    cases h2 : kindB b with
    | false =>
      have HE := Lib.hid (show confB ⟨a, b, d, m⟩ = false by simp [confB, h2])
      go_enter Tryz.func57, Tryz.ntmps57
      go_wp2_with (first | (go_at_call 80; refine (l1In_any _ _ _ _).mono ?_; rintro e w' ⟨rfl, rfl⟩; rw [h1]) | (go_at_call 81; refine (l1Kind_any _ _).mono ?_; rintro e w' ⟨rfl, rfl⟩; rw [h2]))
      go_ret
      exact ⟨by rw [HE.out]; rfl, (Below.refl _ _).alloc (Nat.le_refl _) _⟩
    | true =>
      cases h3 : inB d 0 40 with
      | false =>
        have HE := Lib.hid (show confB ⟨a, b, d, m⟩ = false by simp [confB, h3])
        go_enter Tryz.func57, Tryz.ntmps57
        go_wp2_with (first | (go_at_call 80; refine (l1In_any _ _ _ _).mono ?_; rintro e w' ⟨rfl, rfl⟩; first | rw [h1] | rw [h3]) | (go_at_call 81; refine (l1Kind_any _ _).mono ?_; rintro e w' ⟨rfl, rfl⟩; rw [h2]))
        go_ret
        exact ⟨by rw [HE.out]; rfl, (Below.refl _ _).alloc (Nat.le_refl _) _⟩
      | true =>
        cases h4 : mapOkB m with
        | false =>
          have HE := Lib.hid (show confB ⟨a, b, d, m⟩ = false by simp [confB, h4])
          go_enter Tryz.func57, Tryz.ntmps57
          go_wp2_with (first | (go_at_call 80; refine (l1In_any _ _ _ _).mono ?_; rintro e w' ⟨rfl, rfl⟩; first | rw [h1] | rw [h3]) | (go_at_call 81; refine (l1Kind_any _ _).mono ?_; rintro e w' ⟨rfl, rfl⟩; rw [h2]) | (go_at_call 82; refine (l5Map_any _ _).mono ?_; rintro e w' ⟨rfl, rfl⟩; rw [h4]))
          go_ret
          exact ⟨by rw [HE.out]; rfl, (Below.refl _ _).alloc (Nat.le_refl _) _⟩
        | true =>
          by_cases h5 : a = 1
          · subst h5
            have HE := Lib.hid (show confB ⟨1, b, d, m⟩ = true by simp [confB, h1, h2, h3, h4])
            go_enter Tryz.func57, Tryz.ntmps57
            go_wp2_with (first | (go_at_call 80; refine (l1In_any _ _ _ _).mono ?_; rintro e w' ⟨rfl, rfl⟩; first | rw [h1] | rw [h3]) | (go_at_call 81; refine (l1Kind_any _ _).mono ?_; rintro e w' ⟨rfl, rfl⟩; rw [h2]) | (go_at_call 82; refine (l5Map_any _ _).mono ?_; rintro e w' ⟨rfl, rfl⟩; rw [h4]))
            go_ret
            exact ⟨by rw [HE.out]; rfl, (Below.refl _ _).alloc (Nat.le_refl _) _⟩
          · have h5b : (a == 1) = false := by simpa using h5
            have HE := Lib.hid (show confB ⟨a, b, d, m⟩ = (m == 0) by
              have : decide (m = 0) = (m == 0) := by rw [Bool.eq_iff_iff]; simp
              simp [confB, h1, h2, h3, h4, h5, this])
            go_enter Tryz.func57, Tryz.ntmps57
            go_wp2_with (first | (go_at_call 80; refine (l1In_any _ _ _ _).mono ?_; rintro e w' ⟨rfl, rfl⟩; first | rw [h1] | rw [h3]) | (go_at_call 81; refine (l1Kind_any _ _).mono ?_; rintro e w' ⟨rfl, rfl⟩; rw [h2]) | (go_at_call 82; refine (l5Map_any _ _).mono ?_; rintro e w' ⟨rfl, rfl⟩; rw [h4]))
            go_ret
            exact ⟨by rw [HE.out]; rfl, (Below.refl _ _).alloc (Nat.le_refl _) _⟩
end Go.Proofs.YtcegpcggdcgjbaaGreatDoor
/- A codec through its interface: its delimiter, how it writes, how it reads. -/
namespace Go.Proofs.YtcegpcggdcgjbaaGreatDoor
open Go.ChangeShapes Go.WideShapes Go.ChangeAt Go.RowKit
def orF (g : List UInt8 × Bool) : List UInt8 × Int := if g.2 = true then (g.1, 1) else ([], 6)
/-- what a codec's read tells: the text, and EventFrame, or what is to be reported -/
def rdE (c : Cf) (t : List UInt8) : List UInt8 × Int :=
  if c.codec = 1 then (if t.getLast? = some 125 then ([], 3) else if (unR c.map.toNat t).length = 0 then ([], 0) else (unR c.map.toNat t, 1))
  else orF (readL c t)
structure Way (c : Cf) (t : TypeId) (v : Value) (fd fw fr : Nat) (rd rw rr : Value) : Prop where
  dm : ∀ w : World, (method 311 t v "loop.example/cotterpin/impl.delimiter").run Tryz.prog w = .ok (fd, rd) w
  de : ∀ w : World, (callFunc fd #[rd]).run Tryz.prog w = .ok (.enter fd #[rd]) w
  dc : ∀ w : World, Calls Tryz.prog fd #[rd] w fun e w' => e = .returned (.int .u8 (endOf c).toNat) ∧ Below w.heap.size w w'
  wn : ∀ w : World, (nilAhead 311 t v "loop.example/cotterpin/impl.write").run Tryz.prog w = .ok (some false) w
  wm : ∀ w : World, (method 311 t v "loop.example/cotterpin/impl.write").run Tryz.prog w = .ok (fw, rw) w
  we : ∀ (w : World) (s : ByteArray), (callFunc fw #[rw, .string s]).run Tryz.prog w = .ok (.enter fw #[rw, .string s]) w
  wc : ∀ (w : World) (s : ByteArray), s.size ≤ 600 → Calls Tryz.prog fw #[rw, .string s] w fun e w' => e = .returned (.string ⟨(writeL c s.data.toList).toArray⟩) ∧ Below w.heap.size w w'
  rm : ∀ w : World, (method 311 t v "loop.example/cotterpin/impl.read").run Tryz.prog w = .ok (fr, rr) w
  re : ∀ (w : World) (s : ByteArray), (callFunc fr #[rr, .string s]).run Tryz.prog w = .ok (.enter fr #[rr, .string s]) w
  rc : ∀ (w : World) (s : ByteArray), 0 < s.size → s.size ≤ 600 → endOf c ∉ s.data.toList → Calls Tryz.prog fr #[rr, .string s] w fun e w' => e = .returned (.tuple #[.string ⟨(rdE c s.data.toList).1.toArray⟩, .int .i64 (rdE c s.data.toList).2]) ∧ Below w.heap.size w w'
theorem frameOr_yes (s : ByteArray) (w : World) : Calls Tryz.prog 177 #[.string s, .bool true] w fun e w' => e = .returned (.tuple #[.string s, .int .i64 1]) ∧ w = w' := by
  go_enter Tryz.func177, Tryz.ntmps177
  go_wp2
  go_ret2
  exact ⟨rfl, rfl⟩
theorem frameOr_no (s : ByteArray) (w : World) : Calls Tryz.prog 177 #[.string s, .bool false] w fun e w' => e = .returned (.tuple #[.string ⟨#[]⟩, .int .i64 6]) ∧ w = w' := by
  go_enter Tryz.func177, Tryz.ntmps177
  go_wp2
  go_ret2
  exact ⟨rfl, rfl⟩
theorem frameOr_any (g : List UInt8 × Bool) (w : World) : Calls Tryz.prog 177 #[.string ⟨g.1.toArray⟩, .bool g.2] w fun e w' => e = .returned (.tuple #[.string ⟨(orF g).1.toArray⟩, .int .i64 (orF g).2]) ∧ w = w' := by
  obtain ⟨x, o⟩ := g
  cases o with
  | true => exact frameOr_yes _ w
  | false => exact frameOr_no _ w
theorem escDel (m : Int) (w : World) : Calls Tryz.prog 173 #[.agg #[.int .i64 m]] w fun e w' => e = .returned (.int .u8 126) ∧ Below w.heap.size w w' := by
  go_enter Tryz.func173, Tryz.ntmps173
  go_wp2
  go_ret
  exact ⟨rfl, (Below.refl _ _).alloc (Nat.le_refl _) _⟩
theorem zeroDel (w : World) : Calls Tryz.prog 185 #[.agg #[]] w fun e w' => e = .returned (.int .u8 0) ∧ Below w.heap.size w w' := by
  go_enter Tryz.func185, Tryz.ntmps185
  go_wp2
  go_ret
  exact ⟨rfl, (Below.refl _ _).alloc (Nat.le_refl _) _⟩
theorem escWrite (m : Int) (s : ByteArray) (w : World) : Calls Tryz.prog 175 #[.agg #[.int .i64 m], .string s] w fun e w' => e = .returned (.string ⟨(escA m s.data.toList).toArray⟩) ∧ Below w.heap.size w w' := by
  go_enter Tryz.func175, Tryz.ntmps175
  go_wp2_with fail
  refine (implEscPut_any _ _ _).mono ?_
  rintro e w1 ⟨rfl, hb⟩
  have HB := Lib.hid (alloc_below hb)
  clear hb
  go_wp2
  go_ret
  exact ⟨rfl, HB.out⟩
theorem cobsWrite (s : ByteArray) (w : World) : Calls Tryz.prog 187 #[.agg #[], .string s] w fun e w' => e = .returned (.string ⟨(cobA s.data.toList).toArray⟩) ∧ Below w.heap.size w w' := by
  go_enter Tryz.func187, Tryz.ntmps187
  go_wp2_with fail
  refine (implCobs_any _ _).mono ?_
  rintro e w1 ⟨rfl, hb⟩
  have HB := Lib.hid (alloc_below hb)
  clear hb
  go_wp2
  go_ret
  exact ⟨rfl, HB.out⟩
theorem lessWrite (s : ByteArray) (w : World) : Calls Tryz.prog 195 #[.agg #[], .string s] w fun e w' => e = .returned (.string ⟨(lessA s.data.toList).toArray⟩) ∧ Below w.heap.size w w' := by
  go_enter Tryz.func195, Tryz.ntmps195
  go_wp2_with fail
  refine (implLess_any _ _).mono ?_
  rintro e w1 ⟨rfl, hb⟩
  have HB := Lib.hid (alloc_below hb)
  clear hb
  go_wp2
  go_ret
  exact ⟨rfl, HB.out⟩
theorem cobsRead (s : ByteArray) (w : World) : Calls Tryz.prog 186 #[.agg #[], .string s] w fun e w' => e = .returned (.tuple #[.string ⟨(orF (getA s.data.toList)).1.toArray⟩, .int .i64 (orF (getA s.data.toList)).2]) ∧ Below w.heap.size w w' := by
  go_enter Tryz.func186, Tryz.ntmps186
  go_wp2_with fail
  refine (implCobsGet_any _ _).mono ?_
  rintro e w1 ⟨rfl, hb⟩
  have HB := Lib.hid (alloc_below hb)
  clear hb
  go_wp2_with fail
  refine (frameOr_any _ _).mono ?_
  rintro e w2 ⟨rfl, rfl⟩
  go_wp2
  go_ret2
  exact ⟨rfl, HB.out⟩
theorem lessRead (s : ByteArray) (w : World) : Calls Tryz.prog 194 #[.agg #[], .string s] w fun e w' => e = .returned (.tuple #[.string ⟨(orF (lgetA s.data.toList)).1.toArray⟩, .int .i64 (orF (lgetA s.data.toList)).2]) ∧ Below w.heap.size w w' := by
  go_enter Tryz.func194, Tryz.ntmps194
  go_wp2_with fail
  refine (implLessGet_any _ _).mono ?_
  rintro e w1 ⟨rfl, hb⟩
  have HB := Lib.hid (alloc_below hb)
  clear hb
  go_wp2_with fail
  refine (frameOr_any _ _).mono ?_
  rintro e w2 ⟨rfl, rfl⟩
  go_wp2
  go_ret2
  exact ⟨rfl, HB.out⟩
set_option maxHeartbeats 1000000 in
theorem escRead (m : Nat) (s : ByteArray) (w : World) (hm : m ≤ 4294967295) (h0 : 0 < s.size) (hs : s.size ≤ 600) (h6 : (126 : UInt8) ∉ s.data.toList) :
    Calls Tryz.prog 174 #[.agg #[.int .i64 m], .string s] w fun e w' => e = .returned (.tuple #[.string ⟨(if s.data.toList.getLast? = some 125 then ([], 3) else if (unR m s.data.toList).length = 0 then ([], 0) else (unR m s.data.toList, 1) : List UInt8 × Int).1.toArray⟩, .int .i64 (if s.data.toList.getLast? = some 125 then ([], 3) else if (unR m s.data.toList).length = 0 then ([], 0) else (unR m s.data.toList, 1) : List UInt8 × Int).2]) ∧ Below w.heap.size w w' := by
  have hla := last_at s h0
  obtain ⟨n, hn⟩ : ∃ n, n = s.size - 1 := ⟨_, rfl⟩
  have hnl : n < s.size := by omega
  have hsi : (s.size : Int) - 1 = (n : Int) := by omega
  have hla' : s.data.toList.getLast? = some s[n] := by rw [hla]; congr 1; simp only [hn]
  have HN := Lib.hid hn
  clear hn hla
  by_cases hc : s[n].toNat = 125
  · have hb5 : ((s[n].toNat : Int) == 125) = true := by rw [beq_iff_eq]; omega
    have hl : s.data.toList.getLast? = some 125 := by rw [hla']; congr 1; exact UInt8.toNat_inj.1 hc
    rw [if_pos hl]
    clear hl hla' hc
    go_enter Tryz.func174, Tryz.ntmps174
    go_wp2
    go_ret2
    exact ⟨rfl, (Below.refl _ _).alloc (Nat.le_refl _) _⟩
  · have hb5 : ((s[n].toNat : Int) == 125) = false := by rw [beq_eq_false_iff_ne]; omega
    have hl : s.data.toList.getLast? ≠ some 125 := by rw [hla']; intro e; injection e with e; exact hc (by rw [e]; rfl)
    rw [if_neg hl]
    have HL := Lib.hid hl
    have H6 := Lib.hid h6
    clear hl hla' hc h6
    generalize hu : unR m s.data.toList = u
    have HU := Lib.hid hu
    clear hu
    by_cases hz : u.length = 0
    · obtain rfl : u = [] := List.eq_nil_of_length_eq_zero hz
      clear hz
      rw [if_pos (by rfl)]
      go_enter Tryz.func174, Tryz.ntmps174
      go_wp2_with fail
      refine (implEscGet_yes m s _ hm (by omega) H6.out HL.out).mono ?_
      rintro e w1 ⟨rfl, hb⟩
      rw [HU.out]
      have HB := Lib.hid (alloc_below hb)
      clear hb
      go_wp2
      go_ret2
      exact ⟨rfl, HB.out⟩
    · have hne : (Value.string ⟨u.toArray⟩) ≠ .string ⟨#[]⟩ := by
        intro e; injection e with e; injection e with e; apply hz; simpa using congrArg Array.size e
      rw [if_neg hz]
      go_enter Tryz.func174, Tryz.ntmps174
      go_wp2_with fail
      refine (implEscGet_yes m s _ hm (by omega) H6.out HL.out).mono ?_
      rintro e w1 ⟨rfl, hb⟩
      rw [HU.out]
      have HB := Lib.hid (alloc_below hb)
      clear hb
      have hue : (u == []) = false := by cases u with | nil => simp at hz | cons a l => rfl
      have hue2 : u ≠ [] := by intro e; rw [e] at hz; exact hz rfl
      go_wp2_with fail
      refine (frameOr_yes _ _).mono ?_
      rintro e w2 ⟨rfl, rfl⟩
      go_wp2
      go_ret2
      exact ⟨rfl, HB.out⟩
theorem toNat_map {m : Int} (h : 0 ≤ m ∧ m ≤ 4294967295) : ∃ k : Nat, m = (k : Int) ∧ m.toNat = k ∧ k ≤ 4294967295 := ⟨m.toNat, by omega, rfl, by omega⟩
/-- the codec of a configuration that is ok -/
theorem way_of {a b d m : Int} (h : confB ⟨a, b, d, m⟩ = true) : ∃ t v fd fw fr rd rw rr, wayV a m = .iface t v ∧ Way ⟨a, b, d, m⟩ t v fd fw fr rd rw rr := by
  obtain ⟨h1, _, _, h4, h5⟩ := confB_yes h
  simp only at h1 h4 h5
  have size_of : ∀ s : ByteArray, s.data.toList.length = s.size := size_list
  rcases h1 with rfl | rfl | rfl
  · obtain ⟨k, rfl, hk, hk2⟩ := toNat_map h4
    refine ⟨74, .agg #[.int .i64 k], 173, 175, 174, .agg #[.int .i64 k], .agg #[.int .i64 k], .agg #[.int .i64 k], rfl, ⟨fun w => by kernel_rfl, fun w => by kernel_rfl, fun w => escDel _ w, fun w => by kernel_rfl, fun w => by kernel_rfl, fun w s => by kernel_rfl, fun w s hs => ?_, fun w => by kernel_rfl, fun w s => by kernel_rfl, fun w s h0 hs he => ?_⟩⟩
    · refine (escWrite k s w).mono ?_
      rintro e w' ⟨rfl, hb⟩
      refine ⟨?_, hb⟩
      have : escA k s.data.toList = writeL ⟨1, b, d, k⟩ s.data.toList := by
        unfold escA writeL
        rw [if_pos (by simp [putOkB, mapOkB, size_of]; omega), if_pos rfl]
      rw [this]
    · exact escRead k s w hk2 h0 hs he
  · have hm : m = 0 := by omega
    subst hm
    refine ⟨78, .agg #[], 185, 187, 186, .agg #[], .agg #[], .agg #[], rfl, ⟨fun w => by kernel_rfl, fun w => by kernel_rfl, fun w => zeroDel w, fun w => by kernel_rfl, fun w => by kernel_rfl, fun w s => by kernel_rfl, fun w s hs => ?_, fun w => by kernel_rfl, fun w s => by kernel_rfl, fun w s h0 hs he => ?_⟩⟩
    · refine (cobsWrite s w).mono ?_
      rintro e w' ⟨rfl, hb⟩
      refine ⟨?_, hb⟩
      have : cobA s.data.toList = writeL ⟨2, b, d, 0⟩ s.data.toList := by
        unfold cobA writeL
        rw [if_pos (by rw [size_of]; exact hs), if_neg (by simp), if_pos rfl]
      rw [this]
    · exact cobsRead s w
  · have hm : m = 0 := by omega
    subst hm
    refine ⟨79, .agg #[], 185, 195, 194, .agg #[], .agg #[], .agg #[], rfl, ⟨fun w => by kernel_rfl, fun w => by kernel_rfl, fun w => zeroDel w, fun w => by kernel_rfl, fun w => by kernel_rfl, fun w s => by kernel_rfl, fun w s hs => ?_, fun w => by kernel_rfl, fun w s => by kernel_rfl, fun w s h0 hs he => ?_⟩⟩
    · refine (lessWrite s w).mono ?_
      rintro e w' ⟨rfl, hb⟩
      refine ⟨?_, hb⟩
      have : lessA s.data.toList = writeL ⟨3, b, d, 0⟩ s.data.toList := by
        unfold lessA writeL
        rw [if_pos (by rw [size_of]; exact hs), if_neg (by simp), if_neg (by simp)]
      rw [this]
    · exact lessRead s w
end Go.Proofs.YtcegpcggdcgjbaaGreatDoor
