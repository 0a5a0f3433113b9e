/- A range over a function that ends with a panic of the function's own, behind rounds that all go on: a law. -/
import Derived.Test.YtdnedoafgfpnfaaKitCob
import Derived.DefersIn
import Derived.RecoverIn
import Derived.WalkSmall
namespace Go.Proofs.Ytdnedoafgfpnfaa
open Go.ChangeShapes Go.WideShapes Go.ChangeAt Go.RowKit Go.Shelf
/-- the iterator calls its rounds and then panics, S having come -/
def SeqFalls {α : Type} (F : Fence) (n : Nat) (P : Program) (g : Nat) (lb : Array Value) (encs : α → Array Value) (S : List α → Prop) (ch : List PanicEntry) (N : Nat) (w : World) : Prop :=
  ∀ (l : Nat) (J : List α → World → Prop) (W : World), Below w.heap.size w W → AbidesFrom W.heap.size J →
    (∀ pre x W1, J pre W1 → pre.length < N → YieldAt F (n - 1) P l (encs x) W1 fun e W' => e = .returned (.bool true) ∧ J (pre ++ [x]) W') →
    J [] W → CallsIn F n P g (#[.func (.yield l) #[] #[]] ++ lb) W fun e W' => e = .panicked ch ∧ ∃ xs, S xs ∧ J xs W'
theorem wpIn_rangeFunc_falls {F : Fence} {n : Nat} {P : Program} {α : Type} {g : Operand} {ps : Array Tmp} {assign body : Code} {Q : Exit → Act → World → Prop} {a : Act} {w : World}
    (hro : F.round = none) (h1 : 1 ≤ n) {gf : Nat} {lb : Array Value} (hg : a.eval g = .func (.func gf) #[] lb) (hFg : F.fn gf) (eg : ∀ args w, (callFunc gf args).run P w = .ok (.enter gf args) w)
    {encs : α → Array Value} {S : List α → Prop} {ch : List PanicEntry} {N : Nat} (hseq : SeqFalls F (n - 1) P gf lb encs S ch N w) (hps : ∀ x, (encs x).size = ps.size)
    (I : List α → World → Prop) (hI : OwnFrom w.heap.size I) (h0 : I [] w) (a₁ : α → Act)
    (hassign : ∀ (l : Nat) (x : α) (W : World) (K : Act → World → Prop), K (a₁ x) W →
      assign.wpIn (F.inRound l) (n - 1 - 1) P (Exit.then K (fun _ _ _ => False)) { tmps := (ps.zip (encs x)).foldl (fun t (p, v) => t.setIfInBounds p v) a.tmps, defers := [] } W)
    (hbody : ∀ (l : Nat) (pre : List α) (x : α) (W : World), I pre W → pre.length < N → body.wpIn (F.inRound l) (n - 1 - 1) P (fun e _ W' => e = .normal ∧ KeepsOthers W W' ∧ I (pre ++ [x]) W') (a₁ x) W)
    (hfall : ∀ (D : Nat) (xs : List α) (W : World), w.heap.size ≤ D → S xs → I xs W → W.heap[D]? = some (.deferred (some [])) → Q (.panic ch) { a with defers := { target := .collected D, args := #[] } :: a.defers } W) :
    (Code.rangeFunc g ps assign body).wpIn F n P Q a w := by
  refine wpIn_rangeFunc fun fn hfn => ?_
  have hsz : ((w.alloc (.deferred (some []))).alloc (.loop { state := .ready, pending := none, fn, tmps := a.tmps, params := ps, assign, body, defers := w.heap.size })).heap.size = w.heap.size + 2 := by simp
  have hL : ((w.alloc (.deferred (some []))).alloc (.loop { state := .ready, pending := none, fn, tmps := a.tmps, params := ps, assign, body, defers := w.heap.size })).heap[w.heap.size + 1]? = some (.loop { state := .ready, pending := none, fn, tmps := a.tmps, params := ps, assign, body, defers := w.heap.size }) := by
    have h := heap_alloc_new (w.alloc (.deferred (some []))) (.loop { state := .ready, pending := none, fn, tmps := a.tmps, params := ps, assign, body, defers := w.heap.size })
    rwa [World.size_alloc] at h
  have hD : ((w.alloc (.deferred (some []))).alloc (.loop { state := .ready, pending := none, fn, tmps := a.tmps, params := ps, assign, body, defers := w.heap.size })).heap[w.heap.size]? = some (.deferred (some [])) :=
    (Below.heap_alloc _ _ _ (by simp)).trans (heap_alloc_new w _)
  have hbe : Below w.heap.size w ((w.alloc (.deferred (some []))).alloc (.loop { state := .ready, pending := none, fn, tmps := a.tmps, params := ps, assign, body, defers := w.heap.size })) := ((Below.refl _ w).alloc (Nat.le_refl _) _).alloc (by simp) _
  have hI1 := hI.alloc (.loop { state := .ready, pending := none, fn, tmps := a.tmps, params := ps, assign, body, defers := w.heap.size }) (hI.alloc (.deferred (some [])) h0)
  have hent : (Instr.enterLoop fn a.tmps ps assign body F.round).run P w = .ok (w.heap.size + 1, [{ target := .collected w.heap.size, args := #[] }]) ((w.alloc (.deferred (some []))).alloc (.loop { state := .ready, pending := none, fn, tmps := a.tmps, params := ps, assign, body, defers := w.heap.size })) := by
    rw [hro]; exact run_enterLoop_outer _ _ _ _ _
  generalize (w.alloc (.deferred (some []))).alloc (.loop { state := .ready, pending := none, fn, tmps := a.tmps, params := ps, assign, body, defers := w.heap.size }) = V at *
  refine ⟨w.heap.size + 1, _, V, { target := .fn (.func gf) lb, args := #[.func (.yield (w.heap.size + 1)) #[] #[]] }, V, gf, #[.func (.yield (w.heap.size + 1)) #[] #[]] ++ lb, V, hent, ?_, ?_, ?_, fun _ => h1, ?_⟩
  · simp only [resolve, hg]; simp [go_sem]
  · intro f' hf'; simp [Target.leads] at hf'; subst hf'; exact hFg
  · simp [invoke, go_sem, eg]
  refine (hseq (w.heap.size + 1)
    (fun pre W => I pre W ∧ W.heap[w.heap.size + 1]? = some (.loop { state := .ready, pending := none, fn, tmps := a.tmps, params := ps, assign, body, defers := w.heap.size }) ∧ W.heap[w.heap.size]? = some (.deferred (some []))) V hbe ?_ ?_ ⟨hI1, hL, hD⟩).mono ?_
  · intro s A B row hs hg' hr
    exact ⟨hI s A B row hs.1 hg' (fun r e => by obtain ⟨hB, o, ho, hw⟩ := hr r e; exact ⟨by omega, o, ho, Obj.not_cells_of_walk hw⟩), (grownBy_keeps hg' (fun r e => (hr r e).2) hs.2.1 rfl).trans hs.2.1, (grownBy_keeps hg' (fun r e => (hr r e).2) hs.2.2 rfl).trans hs.2.2⟩
  · rintro pre x W ⟨hi, hl, hk⟩ hlen
    have hlt : w.heap.size + 1 < W.heap.size := (Array.getElem?_eq_some_iff.1 hl).1
    refine ⟨fn, _, assign, body, run_yield (P := P) (args := encs x) hl (hps x), roundIn_of_wpIn hfn (hassign _ x W _ ⟨_, run_beginRound hl rfl, ?_⟩)⟩
    refine wpIn_mono (hbody _ pre x _ (hI.putObj _ hi (by omega) hl rfl) hlen) ?_
    rintro e a3 W3 ⟨rfl, hk3, hi3⟩
    have hl3 := hk3.same _ _ (World.putObj_heap_same hlt) rfl
    have hk4 := hk3.same _ _ ((World.putObj_heap_other (by omega)).trans hk) rfl
    exact ⟨_, _, run_endRound (P := P) none hl3, rfl, hI.putObj _ hi3 (by omega) hl3 rfl, World.putObj_heap_same (Array.getElem?_eq_some_iff.1 hl3).1, (World.putObj_heap_other (by omega)).trans hk4⟩
  · rintro e W2 ⟨rfl, xs, hS, hi, hl, hk⟩
    exact hfall _ xs W2 (Nat.le_refl _) hS hi hk
end Go.Proofs.Ytdnedoafgfpnfaa
/- Blocks read: plainly, and the iterator over them, in the program. -/
namespace Go.Proofs.Ytdnedoafgfpnfaa
open Go.ChangeShapes Go.WideShapes Go.ChangeAt Go.RowKit Go.Shelf
attribute [local go_sem] Oper.semAt_some
def hdN (t : List UInt8) : Nat := (t.headD 0).toNat
/-- the complete blocks, each with whether something follows, and what is left -/
def rdB (t : List UInt8) : List (List UInt8 × Bool) × List UInt8 :=
  if hdN t = 0 ∨ t.length < hdN t then ([], t) else ((t.take (hdN t), decide (hdN t < t.length)) :: (rdB (t.drop (hdN t))).1, (rdB (t.drop (hdN t))).2)
termination_by t.length
decreasing_by all_goals (rename_i h; rw [List.length_drop]; omega)
theorem rdB_cut {t : List UInt8} (h : hdN t = 0 ∨ t.length < hdN t) : rdB t = ([], t) := by rw [rdB, if_pos h]
theorem rdB_more {t : List UInt8} (h : 0 < hdN t) (h2 : hdN t ≤ t.length) : rdB t = ((t.take (hdN t), decide (hdN t < t.length)) :: (rdB (t.drop (hdN t))).1, (rdB (t.drop (hdN t))).2) := by rw [rdB, if_neg (by omega)]
theorem rdB_nil : rdB [] = ([], []) := rdB_cut (.inl rfl)
abbrev Bk := { x : List UInt8 × Bool // 1 ≤ x.1.length ∧ x.1.length ≤ 255 }
def nzL (t : List UInt8) : Prop := ∀ x ∈ t, x ≠ 0
theorem hdN_pos {t : List UInt8} (h : nzL t) (hne : t ≠ []) : 0 < hdN t := by
  cases t with
  | nil => exact absurd rfl hne
  | cons c r =>
    have hc := h c (by simp)
    show 0 < c.toNat
    have : c.toNat ≠ 0 := fun e => hc (by apply UInt8.toNat_inj.1; exact e)
    omega
theorem hdN_le (t : List UInt8) : hdN t ≤ 255 := by have := (t.headD 0).toNat_lt; unfold hdN; omega
theorem nzL_drop {t : List UInt8} (h : nzL t) (k : Nat) : nzL (t.drop k) := fun x hx => h x (List.mem_of_mem_drop hx)
theorem hd_at (T : ByteArray) (h : 0 < T.size) : T[0].toNat = hdN T.data.toList := by
  have e := List.drop_eq_getElem_cons (l := T.data.toList) (i := 0) (by simpa using h)
  rw [List.drop_zero] at e
  rw [e]; rfl
end Go.Proofs.Ytdnedoafgfpnfaa
/- Blocks read into a text, a cut one handed on: in the program. -/
namespace Go.Proofs.Ytdnedoafgfpnfaa
open Go.ChangeShapes Go.WideShapes Go.ChangeAt Go.RowKit Go.Shelf
attribute [local go_sem] Oper.semAt_some
/-- what a block tells -/
def txB (x : List UInt8 × Bool) : List UInt8 := x.1.drop 1 ++ (if x.2 = true ∧ x.1.length ≤ 254 then [0] else [])
def txP (pre : List Bk) : List UInt8 := (pre.map (·.1)).flatMap txB
theorem txP_snoc (pre : List Bk) (x : Bk) : txP (pre ++ [x]) = txP pre ++ txB x.1 := by simp [txP]
theorem txB_len (x : Bk) : (txB x.1).length ≤ 255 := by
  have := x.2
  unfold txB; rw [List.length_append, List.length_drop]; split <;> simp <;> omega
theorem txP_len (pre : List Bk) : (txP pre).length ≤ 255 * pre.length := by
  induction pre with
  | nil => simp [txP]
  | cons x l ih =>
    have h : txP (x :: l) = txB x.1 ++ txP l := by simp [txP]
    have := txB_len x
    rw [h, List.length_append, List.length_cons]; omega
theorem BRt.own (n0 b : Nat) : Own (fun (pre : List Bk) W => BR W n0 b (txP pre)) :=
  holdsRow_own n0 b 22 5 1 (fun pre => (txP pre).length) (fun pre => (txP pre).map byteV) (fun pre v => txP pre = [] → v = .slice none 0 0)
/-- a run of append onto the row that a box holds, with a string: what it gives -/
theorem app_run {W : World} {n0 b : Nat} {v : Value} {out : List UInt8} (i0 : TypeInfo) (hi : Try.prog.info? 5 = some i0) (hz0 : i0.zero = some (.int .u8 0)) (hz1 : i0.size = 1) (hz2 : i0.bytes = 1)
    (hv : Boxed W b 22 v) (hrow : W.ownsRow n0 5 1 v out.length (out.map byteV)) (hnil : out = [] → v = .slice none 0 0) (hn0 : n0 ≤ W.heap.size) (hB : n0 ≤ b) (T : ByteArray) (hl : out.length + T.size ≤ 1000000) :
    ∃ a2 cap2 w2, (Builtin.append_ #[22, 9] 22 #[v, .string T]).run Try.prog W.drew = .ok (.slice a2 (out.length + T.size) cap2) w2 ∧ Boxed w2 b 22 v ∧
      BR (w2.setCell ⟨b, 0, none⟩ (.slice a2 (out.length + T.size) cap2)) n0 b (out ++ T.data.toList) ∧ KeepsOthers W (w2.setCell ⟨b, 0, none⟩ (.slice a2 (out.length + T.size) cap2)) ∧ Below n0 W (w2.setCell ⟨b, 0, none⟩ (.slice a2 (out.length + T.size) cap2)) ∧
      (∀ c t u, t ≠ 5 → c ≠ b → Boxed W c t u → Boxed (w2.setCell ⟨b, 0, none⟩ (.slice a2 (out.length + T.size) cap2)) c t u) := by
  have hr' : W.drew.ownsRow n0 5 1 v out.length (out.map byteV) := hrow
  have hv' : Boxed W.drew b 22 v := hv
  obtain ⟨v2, w2, h1, h2, h3, h4⟩ := Lib.run_append_own_string (P := Try.prog) (w := W.drew) n0 22 9 22 5 i0 Try.underlying22 Try.underlying9 hi hz0 hz1 hz2 v out.length (out.map byteV) hr' T (by unfold maxLen; omega) (by omega) hn0
  obtain ⟨q1, q2, q3, q4, q5, q6⟩ := app_store hv' hr' hn0 hB h2 h3
  have e1 : (out ++ T.data.toList).length = out.length + T.size := by rw [List.length_append, size_list]
  have hrb : RB w2 n0 v2 (out ++ T.data.toList) := ⟨by rw [e1, List.map_append, ← strCells_map]; exact h2, fun h => by
    rw [List.append_eq_nil_iff] at h
    exact h4.2 ⟨hnil h.1, by rw [← size_list, h.2]; rfl⟩⟩
  obtain ⟨a2, cap2, hsh, _⟩ := hrb.ob.shape
  rw [e1] at hsh
  subst hsh
  refine ⟨a2, cap2, w2, h1, q1, ⟨_, q2, ?_, hrb.2⟩, ?_, ((Below.refl _ W).drew).trans q5, q6⟩
  · rw [e1, List.map_append, ← strCells_map]; exact q3
  · exact ⟨q4.size, q4.same⟩
end Go.Proofs.Ytdnedoafgfpnfaa
/- CobsGet and LessGet of the program. -/
namespace Go.Proofs.Ytdnedoafgfpnfaa
open Go.ChangeShapes Go.WideShapes Go.ChangeAt Go.RowKit
def okG (t : List UInt8) : Bool := decide (t.length ≠ 0) && (decide (t.length ≤ 605) && !t.contains 0)
def txt (t : List UInt8) : List UInt8 := (rdB t).1.flatMap txB
def getA (t : List UInt8) : List UInt8 × Bool := if okG t = true ∧ (rdB t).2 = [] then (txt t, true) else ([], false)
def lgetA (t : List UInt8) : List UInt8 × Bool := if okG t = true then (txt t ++ (rdB t).2.drop 1 ++ (rdB t).2.take 1, true) else ([], false)
theorem okG_yes {t : List UInt8} (h : okG t = true) : t.length ≠ 0 ∧ t.length ≤ 605 ∧ nzL t := by
  simp [okG] at h
  refine ⟨by simpa using h.1, h.2.1, fun x hx e => h.2.2 (by rw [← e]; exact hx)⟩
theorem emp_size (s : ByteArray) : s.toList.isEmpty = decide (s.size = 0) := by
  rw [ByteArray.toList_eq, Bool.eq_iff_iff, List.isEmpty_iff, decide_eq_true_iff, ← size_list, List.length_eq_zero_iff]
theorem idx_zero_lt (l : List UInt8) : (decide (Lib.indexByte l 0 < 0)) = !l.contains 0 := by
  by_cases h : (0 : UInt8) ∈ l
  · have h1 : l.contains 0 = true := by simpa using h
    rw [h1]
    have h2 := Lib.indexByte_ge l 0
    have h3 : Lib.indexByte l 0 ≠ -1 := by
      intro e
      obtain ⟨k, hk, he⟩ := List.getElem_of_mem h
      exact Lib.indexByte_none e k (by rw [List.getElem?_eq_getElem hk, he])
    simp; omega
  · have h1 : l.contains 0 = false := by simpa using h
    rw [h1, idx_none h]; rfl
theorem txt_len (t : List UInt8) : (txt t).length + (rdB t).2.length ≤ t.length := by
  induction hn : t.length using Nat.strongRecOn generalizing t with
  | _ n ih =>
    rcases Nat.lt_or_ge 0 (hdN t) with h | h
    · rcases Nat.lt_or_ge t.length (hdN t) with h2 | h2
      · rw [txt, rdB_cut (.inr h2)]; simp; omega
      · rw [txt, rdB_more h h2]
        have hd := ih (t.drop (hdN t)).length (by rw [List.length_drop]; omega) _ rfl
        rw [List.length_drop] at hd
        simp only [List.flatMap_cons, List.length_append]
        have e : (txB (t.take (hdN t), decide (hdN t < t.length))).length ≤ hdN t := by
          unfold txB
          rw [List.length_append, List.length_drop, List.length_take]
          split <;> simp <;> omega
        show _ + ((rdB (t.drop (hdN t))).1.flatMap txB).length + _ ≤ _
        unfold txt at hd
        omega
    · rw [txt, rdB_cut (.inl (by omega))]; simp; omega
end Go.Proofs.Ytdnedoafgfpnfaa
