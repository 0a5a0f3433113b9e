/- A range over a function that ends with a panic of the function's own, behind rounds that all go on: a law. -/
import Derived.Test.YtcegpcggdcgjbaaGreatDoorKitCob
import Derived.DefersIn
import Derived.RecoverIn
import Derived.WalkSmall
namespace Go.Proofs.YtcegpcggdcgjbaaGreatDoor
open Go.ChangeShapes Go.WideShapes Go.ChangeAt Go.RowKit Go.Shelf
/-- the iterator calls its rounds and then panics, S having come -/
def SeqFalls {α : Type} (F : Fence) (n : Nat) (P : Program) (g : Nat) (lb : Array Value) (encs : α → Array Value) (S : List α → Prop) (ch : List PanicEntry) (N : Nat) (w : World) : Prop :=
  ∀ (l : Nat) (J : List α → World → Prop) (W : World), Below w.heap.size w W → AbidesFrom W.heap.size J →
    (∀ pre x W1, J pre W1 → pre.length < N → YieldAt F (n - 1) P l (encs x) W1 fun e W' => e = .returned (.bool true) ∧ J (pre ++ [x]) W') →
    J [] W → CallsIn F n P g (#[.func (.yield l) #[] #[]] ++ lb) W fun e W' => e = .panicked ch ∧ ∃ xs, S xs ∧ J xs W'
theorem wpIn_rangeFunc_falls {F : Fence} {n : Nat} {P : Program} {α : Type} {g : Operand} {ps : Array Tmp} {assign body : Code} {Q : Exit → Act → World → Prop} {a : Act} {w : World}
    (hro : F.round = none) (h1 : 1 ≤ n) {gf : Nat} {lb : Array Value} (hg : a.eval g = .func (.func gf) #[] lb) (hFg : F.fn gf) (eg : ∀ args w, (callFunc gf args).run P w = .ok (.enter gf args) w)
    {encs : α → Array Value} {S : List α → Prop} {ch : List PanicEntry} {N : Nat} (hseq : SeqFalls F (n - 1) P gf lb encs S ch N w) (hps : ∀ x, (encs x).size = ps.size)
    (I : List α → World → Prop) (hI : OwnFrom w.heap.size I) (h0 : I [] w) (a₁ : α → Act)
    (hassign : ∀ (l : Nat) (x : α) (W : World) (K : Act → World → Prop), K (a₁ x) W →
      assign.wpIn (F.inRound l) (n - 1 - 1) P (Exit.then K (fun _ _ _ => False)) { tmps := (ps.zip (encs x)).foldl (fun t (p, v) => t.setIfInBounds p v) a.tmps, defers := [] } W)
    (hbody : ∀ (l : Nat) (pre : List α) (x : α) (W : World), I pre W → pre.length < N → body.wpIn (F.inRound l) (n - 1 - 1) P (fun e _ W' => e = .normal ∧ KeepsOthers W W' ∧ I (pre ++ [x]) W') (a₁ x) W)
    (hfall : ∀ (D : Nat) (xs : List α) (W : World), w.heap.size ≤ D → S xs → I xs W → W.heap[D]? = some (.deferred (some [])) → Q (.panic ch) { a with defers := { target := .collected D, args := #[] } :: a.defers } W) :
    (Code.rangeFunc g ps assign body).wpIn F n P Q a w := by
  refine wpIn_rangeFunc fun fn hfn => ?_
  have hsz : ((w.alloc (.deferred (some []))).alloc (.loop { state := .ready, pending := none, fn, tmps := a.tmps, params := ps, assign, body, defers := w.heap.size })).heap.size = w.heap.size + 2 := by simp
  have hL : ((w.alloc (.deferred (some []))).alloc (.loop { state := .ready, pending := none, fn, tmps := a.tmps, params := ps, assign, body, defers := w.heap.size })).heap[w.heap.size + 1]? = some (.loop { state := .ready, pending := none, fn, tmps := a.tmps, params := ps, assign, body, defers := w.heap.size }) := by
    have h := heap_alloc_new (w.alloc (.deferred (some []))) (.loop { state := .ready, pending := none, fn, tmps := a.tmps, params := ps, assign, body, defers := w.heap.size })
    rwa [World.size_alloc] at h
  have hD : ((w.alloc (.deferred (some []))).alloc (.loop { state := .ready, pending := none, fn, tmps := a.tmps, params := ps, assign, body, defers := w.heap.size })).heap[w.heap.size]? = some (.deferred (some [])) :=
    (Below.heap_alloc _ _ _ (by simp)).trans (heap_alloc_new w _)
  have hbe : Below w.heap.size w ((w.alloc (.deferred (some []))).alloc (.loop { state := .ready, pending := none, fn, tmps := a.tmps, params := ps, assign, body, defers := w.heap.size })) := ((Below.refl _ w).alloc (Nat.le_refl _) _).alloc (by simp) _
  have hI1 := hI.alloc (.loop { state := .ready, pending := none, fn, tmps := a.tmps, params := ps, assign, body, defers := w.heap.size }) (hI.alloc (.deferred (some [])) h0)
  have hent : (Instr.enterLoop fn a.tmps ps assign body F.round).run P w = .ok (w.heap.size + 1, [{ target := .collected w.heap.size, args := #[] }]) ((w.alloc (.deferred (some []))).alloc (.loop { state := .ready, pending := none, fn, tmps := a.tmps, params := ps, assign, body, defers := w.heap.size })) := by
    rw [hro]; exact run_enterLoop_outer _ _ _ _ _
  generalize (w.alloc (.deferred (some []))).alloc (.loop { state := .ready, pending := none, fn, tmps := a.tmps, params := ps, assign, body, defers := w.heap.size }) = V at *
  refine ⟨w.heap.size + 1, _, V, { target := .fn (.func gf) lb, args := #[.func (.yield (w.heap.size + 1)) #[] #[]] }, V, gf, #[.func (.yield (w.heap.size + 1)) #[] #[]] ++ lb, V, hent, ?_, ?_, ?_, fun _ => h1, ?_⟩
  · simp only [resolve, hg]; simp [go_sem]
  · intro f' hf'; simp [Target.leads] at hf'; subst hf'; exact hFg
  · simp [invoke, go_sem, eg]
  refine (hseq (w.heap.size + 1)
    (fun pre W => I pre W ∧ W.heap[w.heap.size + 1]? = some (.loop { state := .ready, pending := none, fn, tmps := a.tmps, params := ps, assign, body, defers := w.heap.size }) ∧ W.heap[w.heap.size]? = some (.deferred (some []))) V hbe ?_ ?_ ⟨hI1, hL, hD⟩).mono ?_
  · intro s A B row hs hg' hr
    exact ⟨hI s A B row hs.1 hg' (fun r e => by obtain ⟨hB, o, ho, hw⟩ := hr r e; exact ⟨by omega, o, ho, Obj.not_cells_of_walk hw⟩), (grownBy_keeps hg' (fun r e => (hr r e).2) hs.2.1 rfl).trans hs.2.1, (grownBy_keeps hg' (fun r e => (hr r e).2) hs.2.2 rfl).trans hs.2.2⟩
  · rintro pre x W ⟨hi, hl, hk⟩ hlen
    have hlt : w.heap.size + 1 < W.heap.size := (Array.getElem?_eq_some_iff.1 hl).1
    refine ⟨fn, _, assign, body, run_yield (P := P) (args := encs x) hl (hps x), roundIn_of_wpIn hfn (hassign _ x W _ ⟨_, run_beginRound hl rfl, ?_⟩)⟩
    refine wpIn_mono (hbody _ pre x _ (hI.putObj _ hi (by omega) hl rfl) hlen) ?_
    rintro e a3 W3 ⟨rfl, hk3, hi3⟩
    have hl3 := hk3.same _ _ (World.putObj_heap_same hlt) rfl
    have hk4 := hk3.same _ _ ((World.putObj_heap_other (by omega)).trans hk) rfl
    exact ⟨_, _, run_endRound (P := P) none hl3, rfl, hI.putObj _ hi3 (by omega) hl3 rfl, World.putObj_heap_same (Array.getElem?_eq_some_iff.1 hl3).1, (World.putObj_heap_other (by omega)).trans hk4⟩
  · rintro e W2 ⟨rfl, xs, hS, hi, hl, hk⟩
    exact hfall _ xs W2 (Nat.le_refl _) hS hi hk
end Go.Proofs.YtcegpcggdcgjbaaGreatDoor
/- Blocks read: plainly, and the iterator over them, in the program. -/
namespace Go.Proofs.YtcegpcggdcgjbaaGreatDoor
open Go.ChangeShapes Go.WideShapes Go.ChangeAt Go.RowKit Go.Shelf
attribute [local go_sem] Oper.semAt_some
def hdN (t : List UInt8) : Nat := (t.headD 0).toNat
/-- the complete blocks, each with whether something follows, and what is left -/
def rdB (t : List UInt8) : List (List UInt8 × Bool) × List UInt8 :=
  if hdN t = 0 ∨ t.length < hdN t then ([], t) else ((t.take (hdN t), decide (hdN t < t.length)) :: (rdB (t.drop (hdN t))).1, (rdB (t.drop (hdN t))).2)
termination_by t.length
decreasing_by all_goals (rename_i h; rw [List.length_drop]; omega)
theorem rdB_cut {t : List UInt8} (h : hdN t = 0 ∨ t.length < hdN t) : rdB t = ([], t) := by rw [rdB, if_pos h]
theorem rdB_more {t : List UInt8} (h : 0 < hdN t) (h2 : hdN t ≤ t.length) : rdB t = ((t.take (hdN t), decide (hdN t < t.length)) :: (rdB (t.drop (hdN t))).1, (rdB (t.drop (hdN t))).2) := by rw [rdB, if_neg (by omega)]
theorem rdB_nil : rdB [] = ([], []) := rdB_cut (.inl rfl)
abbrev Bk := { x : List UInt8 × Bool // 1 ≤ x.1.length ∧ x.1.length ≤ 255 }
def nzL (t : List UInt8) : Prop := ∀ x ∈ t, x ≠ 0
theorem hdN_pos {t : List UInt8} (h : nzL t) (hne : t ≠ []) : 0 < hdN t := by
  cases t with
  | nil => exact absurd rfl hne
  | cons c r =>
    have hc := h c (by simp)
    show 0 < c.toNat
    have : c.toNat ≠ 0 := fun e => hc (by apply UInt8.toNat_inj.1; exact e)
    omega
theorem hdN_le (t : List UInt8) : hdN t ≤ 255 := by have := (t.headD 0).toNat_lt; unfold hdN; omega
theorem nzL_drop {t : List UInt8} (h : nzL t) (k : Nat) : nzL (t.drop k) := fun x hx => h x (List.mem_of_mem_drop hx)
theorem hd_at (T : ByteArray) (h : 0 < T.size) : T[0].toNat = hdN T.data.toList := by
  have e := List.drop_eq_getElem_cons (l := T.data.toList) (i := 0) (by simpa using h)
  rw [List.drop_zero] at e
  rw [e]; rfl
set_option maxRecDepth 100000 in
set_option maxHeartbeats 4000000 in
theorem blocks_stops (n : Nat) (hn : 1 ≤ n) (bx : Nat) (s : ByteArray) (hz : nzL s.data.toList) (hcut : (rdB s.data.toList).2 = []) (w : World) (hbx : w.cell? ⟨bx, 0, none⟩ = some (.string s)) (hbl : bx < w.heap.size) :
    SeqStopsK Fence.wide n Tryz.prog 193 #[.pointer (some ⟨bx, 0, none⟩)] (fun x : Bk => #[.string ⟨x.1.1.toArray⟩, .bool x.1.2]) (fun _ _ => True) (fun xs => xs.map (·.1) = (rdB s.data.toList).1) (fun _ => True) (s.size + 1) w := fun l J Jx W hW hJ hJx hY h0 => by
  have hcW : W.cell? ⟨bx, 0, none⟩ = some (.string s) := (hW.cell (p := ⟨bx, 0, none⟩) hbl).trans hbx
  have HSL := Lib.hid (size_list s)
  have HZ := Lib.hid hz
  have HCut := Lib.hid hcut
  clear hbx hz hcut
  refine callsIn_of_wp Tryz.func193 rfl trivial ?_ rfl
  simp only [Tryz.ntmps193, List.size_toArray, List.length_cons, List.length_nil, Nat.reduceAdd, Nat.reduceSub, Array.replicate_succ, Array.replicate_zero, List.push_toArray, List.append_toArray, List.nil_append, List.cons_append]
  gi_wp2
  gi_loopw [3, 4] (fun r _ wr => ∃ (pre : List Bk) (R : ByteArray), r = .string R ∧ R.size + pre.length ≤ s.size ∧ nzL R.data.toList ∧ pre.map (·.1) ++ (rdB R.data.toList).1 = (rdB s.data.toList).1 ∧ (rdB R.data.toList).2 = [] ∧ J pre wr) (fun r _ _ => match r with | .string R => R.size | _ => 0)
  case atStart => exact ⟨[], s, rfl, by simp, HZ.out, by simp, HCut.out, h0⟩
  case round =>
    obtain ⟨pre, R, rfl, hlen, hnz, hpc, hc, hJk⟩ := hrel
    have HRL := Lib.hid (size_list R)
    have HNZ := Lib.hid hnz
    have HPC := Lib.hid hpc
    have HC := Lib.hid hc
    have HJ := Lib.hid hJk
    clear hnz hpc hc hJk
    by_cases he : R.size = 0
    · have hemp : R.toList.isEmpty = true := by rw [ByteArray.toList_eq, List.isEmpty_iff]; exact List.length_eq_zero_iff.1 (by rw [HRL.out]; exact he)
      have e0 : R.data.toList = [] := List.length_eq_zero_iff.1 (by rw [HRL.out]; exact he)
      have HS := Lib.hid (show pre.map (·.1) = (rdB s.data.toList).1 by rw [← HPC.out, e0, rdB_nil]; simp)
      gi_wp2
      go_end0
      exact ⟨⟨_, rfl⟩, .inl ⟨pre, HS.out, HJ.out⟩⟩
    · have e0 : R.data.toList ≠ [] := fun e => he (by rw [← HRL.out, e]; rfl)
      have hpos : 0 < R.size := by omega
      have hemp : R.toList.isEmpty = false := by rw [ByteArray.toList_eq]; cases hq : R.data.toList with
        | nil => exact absurd hq e0
        | cons => rfl
      have hN0 := hdN_pos HNZ.out e0
      have hN1 := hdN_le R.data.toList
      have hR0 := hd_at R hpos
      have hNs : hdN R.data.toList ≤ R.size := by
        rcases Nat.lt_or_ge R.data.toList.length (hdN R.data.toList) with h | h
        · have := HC.out
          rw [rdB_cut (.inr h)] at this
          exact absurd this e0
        · rw [HRL.out] at h; exact h
      obtain ⟨N, hN⟩ : ∃ N, N = hdN R.data.toList := ⟨_, rfl⟩
      rw [← hN] at hN0 hN1 hR0 hNs
      have hR0i : (R[0].toNat : Int) = (N : Int) := by omega
      obtain ⟨b, hb⟩ : ∃ b : Bool, b = decide (N < R.size) := ⟨_, rfl⟩
      have hbi : decide ((N : Int) < (R.size : Int)) = b := by rw [hb, decide_eq_decide]; omega
      have hbi2 : decide (N < R.size) = b := hb.symm
      have s1 := slice_to R N hNs
      obtain ⟨R2, hR2⟩ : ∃ R2 : ByteArray, R2 = R.extract N R.size := ⟨_, rfl⟩
      have s2 := slice_from R N hNs
      rw [← hR2] at s2
      have HR2 := Lib.hid (show R2.data.toList = R.data.toList.drop N by rw [hR2, ext_from])
      have HR2s := Lib.hid (show R2.size = R.size - N by rw [← size_list, HR2.out, List.length_drop, HRL.out])
      have HRD := Lib.hid (show rdB R.data.toList = ((R.data.toList.take N, b) :: (rdB R2.data.toList).1, (rdB R2.data.toList).2) by
        rw [rdB_more (t := R.data.toList) (by omega) (by rw [HRL.out]; omega), ← hN, HR2.out, hb, HRL.out])
      clear hb hN hR0 hR2
      have hsub : 1 ≤ (R.data.toList.take N).length ∧ (R.data.toList.take N).length ≤ 255 := by rw [List.length_take, HRL.out]; omega
      obtain ⟨fn, tmps, assign, body, hy, hR⟩ := hY pre ⟨(R.data.toList.take N, b), hsub⟩ wr HJ.out (by omega)
      simp only [← ext_to] at hy
      have HR := Lib.hid hR
      clear hR
      gi_wp2
      refine HR.out.mono ?_
      rintro e W3 (⟨rfl, hJ3, _⟩ | ⟨rfl, hJx3⟩)
      · gi_wp2
        go_roundw
        case rel =>
          refine ⟨pre ++ [⟨(R.data.toList.take N, b), hsub⟩], R2, rfl, ?_, ?_, ?_, ?_, hJ3⟩
          · rw [List.length_append, HR2s.out]; simp only [List.length_singleton]; omega
          · rw [HR2.out]; exact nzL_drop HNZ.out _
          · rw [List.map_append, List.append_assoc, ← HPC.out, HRD.out]; rfl
          · have := HC.out; rw [HRD.out] at this; exact this
        case measure => simp only []; have := HR2s.out; omega
      · gi_wp2
        refine bodyPost_ret (results_none rfl _ _ _) rfl ?_
        exact ⟨⟨_, rfl⟩, .inr ⟨_, trivial, hJx3⟩⟩
set_option maxRecDepth 100000 in
set_option maxHeartbeats 4000000 in
theorem blocks_falls (n : Nat) (hn : 1 ≤ n) (bx : Nat) (s : ByteArray) (hz : nzL s.data.toList) (hcut : (rdB s.data.toList).2 ≠ []) (w : World) (hbx : w.cell? ⟨bx, 0, none⟩ = some (.string s)) (hbl : bx < w.heap.size) :
    SeqFalls Fence.wide n Tryz.prog 193 #[.pointer (some ⟨bx, 0, none⟩)] (fun x : Bk => #[.string ⟨x.1.1.toArray⟩, .bool x.1.2]) (fun xs => xs.map (·.1) = (rdB s.data.toList).1) [{ v := .iface 203 (.string ⟨(rdB s.data.toList).2.toArray⟩), recovered := false }] (s.size + 1) w := fun l J W hW hJ hY h0 => by
  have hcW : W.cell? ⟨bx, 0, none⟩ = some (.string s) := (hW.cell (p := ⟨bx, 0, none⟩) hbl).trans hbx
  have HSL := Lib.hid (size_list s)
  have HZ := Lib.hid hz
  have HCut := Lib.hid hcut
  clear hbx hz hcut
  refine callsIn_of_wp Tryz.func193 rfl trivial ?_ rfl
  simp only [Tryz.ntmps193, List.size_toArray, List.length_cons, List.length_nil, Nat.reduceAdd, Nat.reduceSub, Array.replicate_succ, Array.replicate_zero, List.push_toArray, List.append_toArray, List.nil_append, List.cons_append]
  gi_wp2
  gi_loopw [3, 4] (fun r _ wr => ∃ (pre : List Bk) (R : ByteArray), r = .string R ∧ R.size + pre.length ≤ s.size ∧ nzL R.data.toList ∧ pre.map (·.1) ++ (rdB R.data.toList).1 = (rdB s.data.toList).1 ∧ (rdB R.data.toList).2 = (rdB s.data.toList).2 ∧ J pre wr) (fun r _ _ => match r with | .string R => R.size | _ => 0)
  case atStart => exact ⟨[], s, rfl, by simp, HZ.out, by simp, rfl, h0⟩
  case round =>
    obtain ⟨pre, R, rfl, hlen, hnz, hpc, hc, hJk⟩ := hrel
    have HRL := Lib.hid (size_list R)
    have HNZ := Lib.hid hnz
    have HPC := Lib.hid hpc
    have HC := Lib.hid hc
    have HJ := Lib.hid hJk
    clear hnz hpc hc hJk
    by_cases he : R.size = 0
    · exfalso
      have e0 : R.data.toList = [] := List.length_eq_zero_iff.1 (by rw [HRL.out]; exact he)
      have h := HC.out
      rw [e0, rdB_nil] at h
      exact HCut.out h.symm
    · have e0 : R.data.toList ≠ [] := fun e => he (by rw [← HRL.out, e]; rfl)
      have hpos : 0 < R.size := by omega
      have hemp : R.toList.isEmpty = false := by rw [ByteArray.toList_eq]; cases hq : R.data.toList with
        | nil => exact absurd hq e0
        | cons => rfl
      have hN0 := hdN_pos HNZ.out e0
      have hN1 := hdN_le R.data.toList
      have hR0 := hd_at R hpos
      rcases Nat.lt_or_ge R.size (hdN R.data.toList) with hgN | hNs
      · have HE := Lib.hid (show rdB R.data.toList = ([], R.data.toList) from rdB_cut (.inr (by rw [HRL.out]; omega)))
        have HS := Lib.hid (show pre.map (·.1) = (rdB s.data.toList).1 by rw [← HPC.out, HE.out]; simp)
        have HF := Lib.hid (show (⟨(rdB s.data.toList).2.toArray⟩ : ByteArray) = R by rw [← HC.out, HE.out, Lib.mk_data])
        have hgt : (R.size : Int) < (R[0].toNat : Int) := by omega
        gi_wp2
        exact ⟨rfl, by rw [HF.out], pre, HS.out, HJ.out⟩
      obtain ⟨N, hN⟩ : ∃ N, N = hdN R.data.toList := ⟨_, rfl⟩
      rw [← hN] at hN0 hN1 hR0 hNs
      have hR0i : (R[0].toNat : Int) = (N : Int) := by omega
      obtain ⟨b, hb⟩ : ∃ b : Bool, b = decide (N < R.size) := ⟨_, rfl⟩
      have hbi : decide ((N : Int) < (R.size : Int)) = b := by rw [hb, decide_eq_decide]; omega
      have hbi2 : decide (N < R.size) = b := hb.symm
      have s1 := slice_to R N hNs
      obtain ⟨R2, hR2⟩ : ∃ R2 : ByteArray, R2 = R.extract N R.size := ⟨_, rfl⟩
      have s2 := slice_from R N hNs
      rw [← hR2] at s2
      have HR2 := Lib.hid (show R2.data.toList = R.data.toList.drop N by rw [hR2, ext_from])
      have HR2s := Lib.hid (show R2.size = R.size - N by rw [← size_list, HR2.out, List.length_drop, HRL.out])
      have HRD := Lib.hid (show rdB R.data.toList = ((R.data.toList.take N, b) :: (rdB R2.data.toList).1, (rdB R2.data.toList).2) by
        rw [rdB_more (t := R.data.toList) (by omega) (by rw [HRL.out]; omega), ← hN, HR2.out, hb, HRL.out])
      clear hb hN hR0 hR2
      have hsub : 1 ≤ (R.data.toList.take N).length ∧ (R.data.toList.take N).length ≤ 255 := by rw [List.length_take, HRL.out]; omega
      obtain ⟨fn, tmps, assign, body, hy, hR⟩ := hY pre ⟨(R.data.toList.take N, b), hsub⟩ wr HJ.out (by omega)
      simp only [← ext_to] at hy
      have HR := Lib.hid hR
      clear hR
      gi_wp2
      refine HR.out.mono ?_
      rintro e W3 ⟨rfl, hJ3⟩
      · gi_wp2
        go_roundw
        case rel =>
          refine ⟨pre ++ [⟨(R.data.toList.take N, b), hsub⟩], R2, rfl, ?_, ?_, ?_, ?_, hJ3⟩
          · rw [List.length_append, HR2s.out]; simp only [List.length_singleton]; omega
          · rw [HR2.out]; exact nzL_drop HNZ.out _
          · rw [List.map_append, List.append_assoc, ← HPC.out, HRD.out]; rfl
          · have := HC.out; rw [HRD.out] at this; exact this
        case measure => simp only []; have := HR2s.out; omega
end Go.Proofs.YtcegpcggdcgjbaaGreatDoor
/- Blocks read into a text, a cut one handed on: in the program. -/
namespace Go.Proofs.YtcegpcggdcgjbaaGreatDoor
open Go.ChangeShapes Go.WideShapes Go.ChangeAt Go.RowKit Go.Shelf
attribute [local go_sem] Oper.semAt_some
theorem ta_hit (c : ByteArray) (w : World) : (Instr.typeAssert (.iface 203 (.string c)) 20 203 true).run Tryz.prog w = .ok (.tuple #[.string c, .bool true]) w := by kernel_rfl
theorem ta_nil (w : World) : (Instr.typeAssert .nilIface 20 203 true).run Tryz.prog w = .ok (.tuple #[.string ⟨#[]⟩, .bool false]) w := by kernel_rfl
theorem catch_cut (n p : Nat) (x : Value) (c : ByteArray) (w : World) (hc : w.cell? ⟨p, 0, none⟩ = some x) (hz : w.frozen? ⟨p, 0, none⟩ = false) :
    CallsDIn Fence.wide n Tryz.prog 191 #[.pointer (some ⟨p, 0, none⟩)] (.panicking [{ v := .iface 203 (.string c), recovered := false }]) w fun e u' w' =>
      e = .returned (.tuple #[]) ∧ u' = .panicking [{ v := .iface 203 (.string c), recovered := true }] ∧ w' = w.setCell ⟨p, 0, none⟩ (.string c) := by
  refine callsDIn_of_wpSIn Tryz.func191 rfl trivial fun c₀ cs hu => ?_
  apply wpSIn_region
  simp [wpOpsSIn, go_sem, recoverD, hu, Tryz.ntmps191, hc, hz, bodyPostS, results, Tryz.results191, ta_hit]
theorem catch_idle (n p : Nat) (x : Value) (w : World) (hc : w.cell? ⟨p, 0, none⟩ = some x) (hz : w.frozen? ⟨p, 0, none⟩ = false) :
    CallsDIn Fence.wide n Tryz.prog 191 #[.pointer (some ⟨p, 0, none⟩)] .returning w fun e u' w' =>
      e = .returned (.tuple #[]) ∧ u' = .returning ∧ w' = w.setCell ⟨p, 0, none⟩ (.string ⟨#[]⟩) := by
  refine callsDIn_of_wpSIn Tryz.func191 rfl trivial fun c₀ cs hu => ?_
  apply wpSIn_region
  simp [wpOpsSIn, go_sem, recoverD, hu, Tryz.ntmps191, hc, hz, ta_nil]
  cases c₀
  simp_all [bodyPostS, results, Tryz.results191]
theorem blocksOf_make (s : ByteArray) (w : World) :
    Calls Tryz.prog 192 #[.string s] w fun e w' => e = .returned (.func (.func 193) #[] #[.pointer (some ⟨w.heap.size, 0, none⟩)]) ∧ w' = w.alloc (.cells #[.string s] 9) := by
  have hmf : ∀ (fn : Fn) (first cap : Array Value) (w : World), (Instr.makeFunc fn first cap).run Tryz.prog w = .ok (.func fn first cap) w := fun _ _ _ _ => rfl
  go_enter Tryz.func192, Tryz.ntmps192
  go_wp2
  go_ret
  exact ⟨rfl, rfl⟩
/-- what a block tells -/
def txB (x : List UInt8 × Bool) : List UInt8 := x.1.drop 1 ++ (if x.2 = true ∧ x.1.length ≤ 254 then [0] else [])
def txP (pre : List Bk) : List UInt8 := (pre.map (·.1)).flatMap txB
theorem txP_snoc (pre : List Bk) (x : Bk) : txP (pre ++ [x]) = txP pre ++ txB x.1 := by simp [txP]
theorem txB_len (x : Bk) : (txB x.1).length ≤ 255 := by
  have := x.2
  unfold txB; rw [List.length_append, List.length_drop]; split <;> simp <;> omega
theorem txP_len (pre : List Bk) : (txP pre).length ≤ 255 * pre.length := by
  induction pre with
  | nil => simp [txP]
  | cons x l ih =>
    have h : txP (x :: l) = txB x.1 ++ txP l := by simp [txP]
    have := txB_len x
    rw [h, List.length_append, List.length_cons]; omega
theorem BRt.own (n0 b : Nat) : Own (fun (pre : List Bk) W => BR W n0 b (txP pre)) :=
  holdsRow_own n0 b 22 5 1 (fun pre => (txP pre).length) (fun pre => (txP pre).map byteV) (fun pre v => txP pre = [] → v = .slice none 0 0)
theorem zero_trunc (w : World) : (zeroValue 203).run Tryz.prog w = .ok (.string ⟨#[]⟩) w := by kernel_rfl
/-- a run of append onto the row that a box holds, with a string: what it gives -/
theorem app_run {W : World} {n0 b : Nat} {v : Value} {out : List UInt8} (i0 : TypeInfo) (hi : Tryz.prog.info? 5 = some i0) (hz0 : i0.zero = some (.int .u8 0)) (hz1 : i0.size = 1) (hz2 : i0.bytes = 1)
    (hv : Boxed W b 22 v) (hrow : W.ownsRow n0 5 1 v out.length (out.map byteV)) (hnil : out = [] → v = .slice none 0 0) (hn0 : n0 ≤ W.heap.size) (hB : n0 ≤ b) (T : ByteArray) (hl : out.length + T.size ≤ 1000000) :
    ∃ a2 cap2 w2, (Builtin.append_ #[22, 9] 22 #[v, .string T]).run Tryz.prog W.drew = .ok (.slice a2 (out.length + T.size) cap2) w2 ∧ Boxed w2 b 22 v ∧
      BR (w2.setCell ⟨b, 0, none⟩ (.slice a2 (out.length + T.size) cap2)) n0 b (out ++ T.data.toList) ∧ KeepsOthers W (w2.setCell ⟨b, 0, none⟩ (.slice a2 (out.length + T.size) cap2)) ∧ Below n0 W (w2.setCell ⟨b, 0, none⟩ (.slice a2 (out.length + T.size) cap2)) ∧
      (∀ c t u, t ≠ 5 → c ≠ b → Boxed W c t u → Boxed (w2.setCell ⟨b, 0, none⟩ (.slice a2 (out.length + T.size) cap2)) c t u) := by
  have hr' : W.drew.ownsRow n0 5 1 v out.length (out.map byteV) := hrow
  have hv' : Boxed W.drew b 22 v := hv
  obtain ⟨v2, w2, h1, h2, h3, h4⟩ := Lib.run_append_own_string (P := Tryz.prog) (w := W.drew) n0 22 9 22 5 i0 Tryz.underlying22 Tryz.underlying9 hi hz0 hz1 hz2 v out.length (out.map byteV) hr' T (by unfold maxLen; omega) (by omega) hn0
  obtain ⟨q1, q2, q3, q4, q5, q6⟩ := app_store hv' hr' hn0 hB h2 h3
  have e1 : (out ++ T.data.toList).length = out.length + T.size := by rw [List.length_append, size_list]
  have hrb : RB w2 n0 v2 (out ++ T.data.toList) := ⟨by rw [e1, List.map_append, ← strCells_map]; exact h2, fun h => by
    rw [List.append_eq_nil_iff] at h
    exact h4.2 ⟨hnil h.1, by rw [← size_list, h.2]; rfl⟩⟩
  obtain ⟨a2, cap2, hsh, _⟩ := hrb.ob.shape
  rw [e1] at hsh
  subst hsh
  refine ⟨a2, cap2, w2, h1, q1, ⟨_, q2, ?_, hrb.2⟩, ?_, ((Below.refl _ W).drew).trans q5, q6⟩
  · rw [e1, List.map_append, ← strCells_map]; exact q3
  · exact ⟨q4.size, q4.same⟩
set_option maxRecDepth 100000 in
set_option maxHeartbeats 4000000 in
theorem readBlocks_stops (s : ByteArray) (w : World) (hz : nzL s.data.toList) (hs : s.size ≤ 605) (hcut : (rdB s.data.toList).2 = []) :
    Calls Tryz.prog 190 #[.string s] w fun e w' => ∃ v, e = .returned (.tuple #[v, .string ⟨(rdB s.data.toList).2.toArray⟩]) ∧ w'.ownsRow w.heap.size 5 1 v ((rdB s.data.toList).1.flatMap txB).length (((rdB s.data.toList).1.flatMap txB).map byteV) ∧ Below w.heap.size w w' := by
  obtain ⟨i0, hi, hz0, hz1, hz2⟩ := info_parts info_u8
  have HI := Lib.hid hi
  have HZ0 := Lib.hid hz0
  have HZ1 := Lib.hid hz1
  have HZ2 := Lib.hid hz2
  have HZ := Lib.hid hz
  have hzb := zero_bytes
  have hzt := zero_trunc
  have hmf : ∀ (fn : Fn) (first cap : Array Value) (w : World), (Instr.makeFunc fn first cap).run Tryz.prog w = .ok (.func fn first cap) w := fun _ _ _ _ => rfl
  clear hi hz0 hz1 hz2 hz
  refine (callsIn_wide (n := 3)).1 ?_
  refine callsIn_of_wp_marks Tryz.func190 rfl trivial ?_ rfl
  simp only [Tryz.ntmps190, List.size_toArray, List.length_cons, List.length_nil, Nat.reduceAdd, Nat.reduceSub, Array.replicate_succ, Array.replicate_zero, List.push_toArray, List.append_toArray, List.nil_append, List.cons_append]
  gi_wp2_with (refine ⟨trivial, ?_⟩; gi_at_call 192; refine (callsIn_wide.2 (blocksOf_make s _)).mono ?_; rintro e w' ⟨rfl, rfl⟩)
  clear hzb hzt hmf
  have hws : (((w.alloc (.cells #[.slice none 0 0] 22)).alloc (.cells #[.string ⟨#[]⟩] 203)).alloc (.cells #[.string s] 9)).heap.size = w.heap.size + 3 := by simp
  have hb1 : Boxed (((w.alloc (.cells #[.slice none 0 0] 22)).alloc (.cells #[.string ⟨#[]⟩] 203)).alloc (.cells #[.string s] 9)) w.heap.size 22 (.slice none 0 0) := ((Boxed.new w _ _).alloc _).alloc _
  have hb2 : Boxed (((w.alloc (.cells #[.slice none 0 0] 22)).alloc (.cells #[.string ⟨#[]⟩] 203)).alloc (.cells #[.string s] 9)) (w.heap.size + 1) 203 (.string ⟨#[]⟩) := by
    have h := (Boxed.new (w.alloc (.cells #[.slice none 0 0] 22)) 203 (.string ⟨#[]⟩)).alloc (.cells #[.string s] 9)
    rw [World.size_alloc] at h
    exact h
  have hb3 : (((w.alloc (.cells #[.slice none 0 0] 22)).alloc (.cells #[.string ⟨#[]⟩] 203)).alloc (.cells #[.string s] 9)).cell? ⟨w.heap.size + 1 + 1, 0, none⟩ = some (.string s) := by
    have h := (Boxed.new ((w.alloc (.cells #[.slice none 0 0] 22)).alloc (.cells #[.string ⟨#[]⟩] 203)) 9 (.string s)).cell
    rw [World.size_alloc, World.size_alloc] at h
    exact h
  have hbe0 : Below w.heap.size w (((w.alloc (.cells #[.slice none 0 0] 22)).alloc (.cells #[.string ⟨#[]⟩] 203)).alloc (.cells #[.string s] 9)) := (((Below.refl _ w).alloc (Nat.le_refl _) _).alloc (by simp) _).alloc (by simp; omega) _
  generalize ((w.alloc (.cells #[.slice none 0 0] 22)).alloc (.cells #[.string ⟨#[]⟩] 203)).alloc (.cells #[.string s] 9) = W0 at *
  refine wpIn_rangeFunc_ownF rfl (by omega) (gf := 193) (lb := #[.pointer (some ⟨w.heap.size + 1 + 1, 0, none⟩)]) rfl trivial (enters_of Tryz.func193 (by kernel_rfl) rfl)
    (blocks_stops (3 - 1) (by omega) (w.heap.size + 1 + 1) s HZ.out hcut W0 hb3 (by omega)) (fun _ _ => trivial) (fun _ _ _ _ _ _ _ _ => trivial) (Below.refl _ _) (fun _ => rfl)
    (fun pre W => (BR W w.heap.size w.heap.size (txP pre) ∧ Boxed W (w.heap.size + 1) 203 (.string ⟨#[]⟩)) ∧ Below w.heap.size w W)
    (fun _ _ _ => False)
    (OwnFrom.and (Own.from (Own.both (BRt.own w.heap.size w.heap.size) (boxed_own' (w.heap.size + 1) 203 (fun _ : List Bk => .string ⟨#[]⟩))) _) (ownFrom_below (Nat.le_refl _) (by omega)))
    (fun _ _ _ _ _ hs _ _ => hs)
    ⟨⟨⟨_, hb1, ⟨rfl, .inl ⟨rfl, rfl⟩⟩, fun _ => rfl⟩, hb2⟩, hbe0⟩
    (fun x => { tmps := #[.string s, undef, .pointer (some ⟨w.heap.size, 0, none⟩), .pointer (some ⟨w.heap.size + 1, 0, none⟩), .string ⟨x.1.1.toArray⟩, .bool x.1.2, .func (.func 191) #[] #[.pointer (some ⟨w.heap.size + 1, 0, none⟩)], .string s, .func (.func 193) #[] #[.pointer (some ⟨w.heap.size + 1 + 1, 0, none⟩)], .string ⟨x.1.1.toArray⟩, .bool x.1.2, undef, undef, undef, undef, undef, undef, undef, undef, undef, undef, undef, undef, undef, undef], defers := [] }) ?assign ?body ?done ?stop
  case assign =>
    intro l x W K hK
    gi_wp2
    exact hK
  case body =>
    clear hb1 hb2 hb3 hbe0
    rintro l pre ⟨⟨p, bo⟩, hp1, hp2⟩ W ⟨⟨⟨v, hv, hrow, hnil⟩, hcu⟩, hB⟩ hlen
    simp only at hp1 hp2
    have HW := Lib.hid (txP_snoc pre ⟨⟨p, bo⟩, hp1, hp2⟩)
    have hol := txP_len pre
    obtain ⟨T, hT⟩ : ∃ T : ByteArray, T = ⟨p.toArray⟩ := ⟨_, rfl⟩
    have HT := Lib.hid (show T.data.toList = p by rw [hT])
    have hT1 : 1 ≤ T.size := by rw [← size_list T, HT.out]; exact hp1
    have hT2 : T.size ≤ 255 := by rw [← size_list T, HT.out]; exact hp2
    simp only [← hT]
    obtain ⟨T2, hT2e⟩ : ∃ T2 : ByteArray, T2 = T.extract 1 T.size := ⟨_, rfl⟩
    have s1 : ∀ u : World, (Instr.slice 9 (.string T) (some (.int .i64 1)) none none).run Tryz.prog u = .ok (.string T2) u := fun u => by rw [hT2e]; exact slice_from T 1 hT1 u
    have HT2 := Lib.hid (show T2.data.toList = p.drop 1 by rw [hT2e, ext_from, HT.out])
    have hT2s : T2.size ≤ 254 := by rw [← size_list T2, HT2.out, List.length_drop, ← HT.out, size_list]; omega
    generalize txP pre = out at *
    obtain ⟨a2, cap2, w2, r1, r2, r3, r4, r5, r6⟩ := app_run i0 HI.out HZ0.out HZ1.out HZ2.out hv hrow hnil hB.size (Nat.le_refl _) T2 (by omega)
    have cv := hv.cell
    have c2 := r2.cell
    have f2 := r2.frozen
    have HR3 := Lib.hid r3
    have HR4 := Lib.hid r4
    have HB2 := Lib.hid (hB.trans r5)
    have HCu := Lib.hid (r6 (w.heap.size + 1) 203 _ (by decide) (by omega) hcu)
    clear hv hcu hrow hnil hB r2 r3 r4 r5 r6 hT hT2e
    gi_wp2
    refine wpIn_region_any (by kernel_rfl) ?_
    try (change wpAnyIn _ _ _ _ _ _ _ _ _ (World.drew _))
    refine wpAnyIn_ready (rs := [0, 1]) (by kernel_rfl) (by simp) ?_
    refine AllReadyIn.cons rfl (fun K hK => ?_) ?_
    · go_simp
      refine hK _ _ ?_
      clear hK K
      refine wpAnyIn_ready (rs := [1]) (by kernel_rfl) (by simp) ?_
      refine AllReadyIn.cons rfl (fun K hK => ?_) AllReadyIn.nil
      go_simp
      refine hK _ _ ?_
      clear hK K
      refine wpAnyIn_ready (rs := [2]) (by kernel_rfl) (by simp) ?_
      refine AllReadyIn.cons rfl (fun K hK => ?_) AllReadyIn.nil
      go_simp
      refine hK _ _ ?_
      clear hK K
      refine wpAnyIn_ready (rs := [3]) (by kernel_rfl) (by simp) ?_
      refine AllReadyIn.cons rfl (fun K hK => ?_) AllReadyIn.nil
      rw [if_pos (show _ = true by rfl)]
      unfold Oper.wpIn
      refine ⟨by simp [Oper.about, resolve, Target.leads, Sem.run_pure], ?_⟩
      rw [Oper.semAt_plain _ _ _ (by intro c hc'; cases hc')]
      simp [execOp, resolve, invoke, builtin, Act.eval, r1, Result.andThen]
      refine hK _ _ ?_
      clear hK K
      refine wpAnyIn_ready (rs := [4]) (by kernel_rfl) (by simp) ?_
      refine AllReadyIn.cons rfl (fun K hK => ?_) AllReadyIn.nil
      go_simp
      refine hK _ _ ?_
      clear hK K
      refine wpAnyIn_done (by kernel_rfl) ?_ _
      clear c2 f2 r1 cv
      generalize w2.setCell ⟨w.heap.size, 0, none⟩ (.slice a2 (out.length + T2.size) cap2) = W3 at *
      obtain ⟨v3, hv3, hrow3, hnil3⟩ := HR3.out
      have cv3 := hv3.cell
      have hn3 := HB2.out.size
      cases bo with
      | false =>
        have HX := Lib.hid (show txP (pre ++ [⟨(p, false), hp1, hp2⟩]) = out ++ T2.data.toList by rw [HW.out, txB, HT2.out]; simp)
        clear hv3 hrow3 hnil3
        gi_wp2
        exact ⟨HR4.out, trivial, ⟨by rw [HX.out]; exact HR3.out, HCu.out⟩, HB2.out⟩
      | true =>
        by_cases h4 : T.size ≤ 254
        · have HX := Lib.hid (show txP (pre ++ [⟨(p, true), hp1, hp2⟩]) = (out ++ T2.data.toList) ++ [0] by
            rw [HW.out, txB, HT2.out, if_pos ⟨rfl, by show p.length ≤ 254; rw [← HT.out, size_list]; exact h4⟩, List.append_assoc])
          have hl3 : (out ++ T2.data.toList).length ≤ 255 * 700 + 254 := by rw [List.length_append, size_list]; omega
          generalize out ++ T2.data.toList = out3 at *
          have HV3 := Lib.hid hv3
          have HRo3 := Lib.hid hrow3
          have HONE := Lib.hid (one_cell W3 5 (.int .u8 0))
          clear hv3 hrow3 hnil3
          gi_wp2_with (gi_at_builtin; refine wpListIn_append_own _ rfl _ _ 22 rfl w.heap.size 5 i0 (.int .u8 0) 1 1 Tryz.underlying22 HI.out HZ0.out HZ1.out HZ2.out rfl (by decide) _ out3.length (out3.map byteV) rfl (HRo3.out.alloc _) ⟨W3.heap.size, 0, none⟩ 1 1 [.int .u8 0] rfl rfl HONE.out (by simp [Value.oneCell']) (by unfold maxLen; omega) (by omega) (by rw [World.size_alloc]; omega) ?_; intro v4 w4 hown4 hg4 _; obtain ⟨g4, cap4, rfl⟩ := ownsRow_succ hown4; obtain ⟨hvA, hvB, hrB, hkB, hbB, hoB⟩ := app_store (HV3.out.alloc _) (HRo3.out.alloc _) (by rw [World.size_alloc]; omega) (Nat.le_refl _) hown4 hg4; have cA := hvA.cell; have fA := hvA.frozen; have HVB := Lib.hid hvB; have HRB := Lib.hid hrB; have HKB := Lib.hid (HR4.out.trans ((KeepsOthers.alloc _ _).trans hkB)); have HBB := Lib.hid (HB2.out.trans (((Below.refl _ _).alloc hn3 _).trans hbB)); have HCB := Lib.hid (hoB _ _ _ (by decide) (by omega) (HCu.out.alloc _)); clear hvA hvB hrB hkB hbB hoB hown4 hg4)
          refine ⟨HKB.out, trivial, ⟨⟨_, HVB.out, ?_, ?_⟩, HCB.out⟩, HBB.out⟩
          · rw [HX.out, List.length_append, List.map_append]; exact HRB.out
          · intro h; rw [HX.out] at h; simp at h
        · have HX := Lib.hid (show txP (pre ++ [⟨(p, true), hp1, hp2⟩]) = out ++ T2.data.toList by
            rw [HW.out, txB, HT2.out, if_neg (by rintro ⟨_, h⟩; apply h4; rw [← size_list T, HT.out]; exact h), List.append_nil])
          clear hv3 hrow3 hnil3
          gi_wp2
          exact ⟨HR4.out, trivial, ⟨by rw [HX.out]; exact HR3.out, HCu.out⟩, HB2.out⟩
    refine AllReadyIn.cons rfl (fun K hK => ?_) AllReadyIn.nil
    go_simp
    refine hK _ _ ?_
    clear hK K
    refine wpAnyIn_ready (rs := [0, 2]) (by kernel_rfl) (by simp) ?_
    refine AllReadyIn.cons rfl (fun K hK => ?_) ?_
    · go_simp
      refine hK _ _ ?_
      clear hK K
      refine wpAnyIn_ready (rs := [2]) (by kernel_rfl) (by simp) ?_
      refine AllReadyIn.cons rfl (fun K hK => ?_) AllReadyIn.nil
      go_simp
      refine hK _ _ ?_
      clear hK K
      refine wpAnyIn_ready (rs := [3]) (by kernel_rfl) (by simp) ?_
      refine AllReadyIn.cons rfl (fun K hK => ?_) AllReadyIn.nil
      rw [if_pos (show _ = true by rfl)]
      unfold Oper.wpIn
      refine ⟨by simp [Oper.about, resolve, Target.leads, Sem.run_pure], ?_⟩
      rw [Oper.semAt_plain _ _ _ (by intro c hc'; cases hc')]
      simp [execOp, resolve, invoke, builtin, Act.eval, r1, Result.andThen]
      refine hK _ _ ?_
      clear hK K
      refine wpAnyIn_ready (rs := [4]) (by kernel_rfl) (by simp) ?_
      refine AllReadyIn.cons rfl (fun K hK => ?_) AllReadyIn.nil
      go_simp
      refine hK _ _ ?_
      clear hK K
      refine wpAnyIn_done (by kernel_rfl) ?_ _
      clear c2 f2 r1 cv
      generalize w2.setCell ⟨w.heap.size, 0, none⟩ (.slice a2 (out.length + T2.size) cap2) = W3 at *
      obtain ⟨v3, hv3, hrow3, hnil3⟩ := HR3.out
      have cv3 := hv3.cell
      have hn3 := HB2.out.size
      cases bo with
      | false =>
        have HX := Lib.hid (show txP (pre ++ [⟨(p, false), hp1, hp2⟩]) = out ++ T2.data.toList by rw [HW.out, txB, HT2.out]; simp)
        clear hv3 hrow3 hnil3
        gi_wp2
        exact ⟨HR4.out, trivial, ⟨by rw [HX.out]; exact HR3.out, HCu.out⟩, HB2.out⟩
      | true =>
        by_cases h4 : T.size ≤ 254
        · have HX := Lib.hid (show txP (pre ++ [⟨(p, true), hp1, hp2⟩]) = (out ++ T2.data.toList) ++ [0] by
            rw [HW.out, txB, HT2.out, if_pos ⟨rfl, by show p.length ≤ 254; rw [← HT.out, size_list]; exact h4⟩, List.append_assoc])
          have hl3 : (out ++ T2.data.toList).length ≤ 255 * 700 + 254 := by rw [List.length_append, size_list]; omega
          generalize out ++ T2.data.toList = out3 at *
          have HV3 := Lib.hid hv3
          have HRo3 := Lib.hid hrow3
          have HONE := Lib.hid (one_cell W3 5 (.int .u8 0))
          clear hv3 hrow3 hnil3
          gi_wp2_with (gi_at_builtin; refine wpListIn_append_own _ rfl _ _ 22 rfl w.heap.size 5 i0 (.int .u8 0) 1 1 Tryz.underlying22 HI.out HZ0.out HZ1.out HZ2.out rfl (by decide) _ out3.length (out3.map byteV) rfl (HRo3.out.alloc _) ⟨W3.heap.size, 0, none⟩ 1 1 [.int .u8 0] rfl rfl HONE.out (by simp [Value.oneCell']) (by unfold maxLen; omega) (by omega) (by rw [World.size_alloc]; omega) ?_; intro v4 w4 hown4 hg4 _; obtain ⟨g4, cap4, rfl⟩ := ownsRow_succ hown4; obtain ⟨hvA, hvB, hrB, hkB, hbB, hoB⟩ := app_store (HV3.out.alloc _) (HRo3.out.alloc _) (by rw [World.size_alloc]; omega) (Nat.le_refl _) hown4 hg4; have cA := hvA.cell; have fA := hvA.frozen; have HVB := Lib.hid hvB; have HRB := Lib.hid hrB; have HKB := Lib.hid (HR4.out.trans ((KeepsOthers.alloc _ _).trans hkB)); have HBB := Lib.hid (HB2.out.trans (((Below.refl _ _).alloc hn3 _).trans hbB)); have HCB := Lib.hid (hoB _ _ _ (by decide) (by omega) (HCu.out.alloc _)); clear hvA hvB hrB hkB hbB hoB hown4 hg4)
          refine ⟨HKB.out, trivial, ⟨⟨_, HVB.out, ?_, ?_⟩, HCB.out⟩, HBB.out⟩
          · rw [HX.out, List.length_append, List.map_append]; exact HRB.out
          · intro h; rw [HX.out] at h; simp at h
        · have HX := Lib.hid (show txP (pre ++ [⟨(p, true), hp1, hp2⟩]) = out ++ T2.data.toList by
            rw [HW.out, txB, HT2.out, if_neg (by rintro ⟨_, h⟩; apply h4; rw [← size_list T, HT.out]; exact h), List.append_nil])
          clear hv3 hrow3 hnil3
          gi_wp2
          exact ⟨HR4.out, trivial, ⟨by rw [HX.out]; exact HR3.out, HCu.out⟩, HB2.out⟩
    refine AllReadyIn.cons rfl (fun K hK => ?_) AllReadyIn.nil
    go_simp
    refine hK _ _ ?_
    clear hK K
    refine wpAnyIn_ready (rs := [0]) (by kernel_rfl) (by simp) ?_
    refine AllReadyIn.cons rfl (fun K hK => ?_) AllReadyIn.nil
    go_simp
    refine hK _ _ ?_
    clear hK K
    refine wpAnyIn_ready (rs := [3]) (by kernel_rfl) (by simp) ?_
    refine AllReadyIn.cons rfl (fun K hK => ?_) AllReadyIn.nil
    rw [if_pos (show _ = true by rfl)]
    unfold Oper.wpIn
    refine ⟨by simp [Oper.about, resolve, Target.leads, Sem.run_pure], ?_⟩
    rw [Oper.semAt_plain _ _ _ (by intro c hc'; cases hc')]
    simp [execOp, resolve, invoke, builtin, Act.eval, r1, Result.andThen]
    refine hK _ _ ?_
    clear hK K
    refine wpAnyIn_ready (rs := [4]) (by kernel_rfl) (by simp) ?_
    refine AllReadyIn.cons rfl (fun K hK => ?_) AllReadyIn.nil
    go_simp
    refine hK _ _ ?_
    clear hK K
    refine wpAnyIn_done (by kernel_rfl) ?_ _
    clear c2 f2 r1 cv
    generalize w2.setCell ⟨w.heap.size, 0, none⟩ (.slice a2 (out.length + T2.size) cap2) = W3 at *
    obtain ⟨v3, hv3, hrow3, hnil3⟩ := HR3.out
    have cv3 := hv3.cell
    have hn3 := HB2.out.size
    cases bo with
    | false =>
      have HX := Lib.hid (show txP (pre ++ [⟨(p, false), hp1, hp2⟩]) = out ++ T2.data.toList by rw [HW.out, txB, HT2.out]; simp)
      clear hv3 hrow3 hnil3
      gi_wp2
      exact ⟨HR4.out, trivial, ⟨by rw [HX.out]; exact HR3.out, HCu.out⟩, HB2.out⟩
    | true =>
      by_cases h4 : T.size ≤ 254
      · have HX := Lib.hid (show txP (pre ++ [⟨(p, true), hp1, hp2⟩]) = (out ++ T2.data.toList) ++ [0] by
          rw [HW.out, txB, HT2.out, if_pos ⟨rfl, by show p.length ≤ 254; rw [← HT.out, size_list]; exact h4⟩, List.append_assoc])
        have hl3 : (out ++ T2.data.toList).length ≤ 255 * 700 + 254 := by rw [List.length_append, size_list]; omega
        generalize out ++ T2.data.toList = out3 at *
        have HV3 := Lib.hid hv3
        have HRo3 := Lib.hid hrow3
        have HONE := Lib.hid (one_cell W3 5 (.int .u8 0))
        clear hv3 hrow3 hnil3
        gi_wp2_with (gi_at_builtin; refine wpListIn_append_own _ rfl _ _ 22 rfl w.heap.size 5 i0 (.int .u8 0) 1 1 Tryz.underlying22 HI.out HZ0.out HZ1.out HZ2.out rfl (by decide) _ out3.length (out3.map byteV) rfl (HRo3.out.alloc _) ⟨W3.heap.size, 0, none⟩ 1 1 [.int .u8 0] rfl rfl HONE.out (by simp [Value.oneCell']) (by unfold maxLen; omega) (by omega) (by rw [World.size_alloc]; omega) ?_; intro v4 w4 hown4 hg4 _; obtain ⟨g4, cap4, rfl⟩ := ownsRow_succ hown4; obtain ⟨hvA, hvB, hrB, hkB, hbB, hoB⟩ := app_store (HV3.out.alloc _) (HRo3.out.alloc _) (by rw [World.size_alloc]; omega) (Nat.le_refl _) hown4 hg4; have cA := hvA.cell; have fA := hvA.frozen; have HVB := Lib.hid hvB; have HRB := Lib.hid hrB; have HKB := Lib.hid (HR4.out.trans ((KeepsOthers.alloc _ _).trans hkB)); have HBB := Lib.hid (HB2.out.trans (((Below.refl _ _).alloc hn3 _).trans hbB)); have HCB := Lib.hid (hoB _ _ _ (by decide) (by omega) (HCu.out.alloc _)); clear hvA hvB hrB hkB hbB hoB hown4 hg4)
        refine ⟨HKB.out, trivial, ⟨⟨_, HVB.out, ?_, ?_⟩, HCB.out⟩, HBB.out⟩
        · rw [HX.out, List.length_append, List.map_append]; exact HRB.out
        · intro h; rw [HX.out] at h; simp at h
      · have HX := Lib.hid (show txP (pre ++ [⟨(p, true), hp1, hp2⟩]) = out ++ T2.data.toList by
          rw [HW.out, txB, HT2.out, if_neg (by rintro ⟨_, h⟩; apply h4; rw [← size_list T, HT.out]; exact h), List.append_nil])
        clear hv3 hrow3 hnil3
        gi_wp2
        exact ⟨HR4.out, trivial, ⟨by rw [HX.out]; exact HR3.out, HCu.out⟩, HB2.out⟩
  case done =>
    clear hb1 hb2 hb3 hbe0
    rintro D ys W hD hS ⟨⟨⟨v, hv, hrow, hnil⟩, hcu⟩, hB⟩ hK
    obtain ⟨a5, cap5, hsh, _⟩ := (show RB W w.heap.size v (txP ys) from ⟨hrow, hnil⟩).ob.shape
    subst hsh
    have cv := hv.cell
    have fv := hv.frozen
    have cu := hcu.cell
    have fu := hcu.frozen
    gi_wp2
    have hv1 : Boxed (W.setCell ⟨w.heap.size, 0, none⟩ (.slice a5 (txP ys).length cap5)) w.heap.size 22 (.slice a5 (txP ys).length cap5) := hv.set _
    have hcu1 : Boxed (W.setCell ⟨w.heap.size, 0, none⟩ (.slice a5 (txP ys).length cap5)) (w.heap.size + 1) 203 (.string ⟨#[]⟩) := hcu.kept (grownBy_setCell' _ _ _) (by simp)
    have hr1 : (W.setCell ⟨w.heap.size, 0, none⟩ (.slice a5 (txP ys).length cap5)).ownsRow w.heap.size 5 1 (.slice a5 (txP ys).length cap5) (txP ys).length ((txP ys).map byteV) := hrow.kept (grownBy_setCell' _ _ _) (.inr (hv.not_row (by decide) hrow).symm)
    have hB1 := hB.setCell (p := ⟨w.heap.size, 0, none⟩) (Nat.le_refl _) (.slice a5 (txP ys).length cap5)
    have hK1 := (KeepsOthers.setCell W ⟨w.heap.size, 0, none⟩ (.slice a5 (txP ys).length cap5)).same D _ hK rfl
    generalize W.setCell ⟨w.heap.size, 0, none⟩ (.slice a5 (txP ys).length cap5) = Wa at *
    have hv2 : Boxed (Wa.setCell ⟨w.heap.size + 1, 0, none⟩ (.string ⟨#[]⟩)) w.heap.size 22 (.slice a5 (txP ys).length cap5) := hv1.kept (grownBy_setCell' _ _ _) (by simp)
    have hcu2 : Boxed (Wa.setCell ⟨w.heap.size + 1, 0, none⟩ (.string ⟨#[]⟩)) (w.heap.size + 1) 203 (.string ⟨#[]⟩) := hcu1.set _
    have hr2 : (Wa.setCell ⟨w.heap.size + 1, 0, none⟩ (.string ⟨#[]⟩)).ownsRow w.heap.size 5 1 (.slice a5 (txP ys).length cap5) (txP ys).length ((txP ys).map byteV) := hr1.kept (grownBy_setCell' _ _ _) (.inr (hcu1.not_row (by decide) hr1).symm)
    have hB2 := hB1.setCell (p := ⟨w.heap.size + 1, 0, none⟩) (by simp) (.string ⟨#[]⟩)
    have hK2 := (KeepsOthers.setCell Wa ⟨w.heap.size + 1, 0, none⟩ (.string ⟨#[]⟩)).same D _ hK1 rfl
    generalize Wa.setCell ⟨w.heap.size + 1, 0, none⟩ (.string ⟨#[]⟩) = Wb at *
    clear hv hcu hrow hnil hB cv fv cu fu hK hv1 hcu1 hr1 hB1 hK1
    have hvD : Boxed (Wb.putObj D (.deferred none)) w.heap.size 22 (.slice a5 (txP ys).length cap5) := hv2.kept (grownBy_putObj' Wb D _) (by intro e; injection e with e; subst e; rw [show Wb.heap[w.heap.size]? = _ from hv2] at hK2; cases hK2)
    have hcuD : Boxed (Wb.putObj D (.deferred none)) (w.heap.size + 1) 203 (.string ⟨#[]⟩) := hcu2.kept (grownBy_putObj' Wb D _) (by intro e; injection e with e; subst e; rw [show Wb.heap[w.heap.size + 1]? = _ from hcu2] at hK2; cases hK2)
    have hrD := ownsRow_putObj hr2 (.deferred none) hK2 rfl
    have hBD : Below w.heap.size w (Wb.putObj D (.deferred none)) := hB2.trans (belowK_b (w := w) (Nat.le_refl _) Wb D _ _ (by omega) hK2 rfl rfl)
    refine ⟨by simp, .inl ⟨_, _, rfl, run_takeDeferred hK2, ?_⟩⟩
    refine ⟨by simp, .inr ⟨by simp [Fence.wide], .func 191, #[.pointer (some ⟨w.heap.size + 1, 0, none⟩)], 191, #[.pointer (some ⟨w.heap.size + 1, 0, none⟩)], rfl, by simp [go_sem], by simp [Target.leads, Fence.wide], ?_⟩⟩
    refine (catch_idle _ (w.heap.size + 1) _ _ hcuD.cell hcuD.frozen).mono ?_
    rintro e u' w' ⟨rfl, rfl, rfl⟩
    rw [hcut]
    have hvF : Boxed ((Wb.putObj D (.deferred none)).setCell ⟨w.heap.size + 1, 0, none⟩ (.string ⟨#[]⟩)) w.heap.size 22 (.slice a5 (txP ys).length cap5) := hvD.kept (grownBy_setCell' _ _ _) (by simp)
    have hcF : Boxed ((Wb.putObj D (.deferred none)).setCell ⟨w.heap.size + 1, 0, none⟩ (.string ⟨#[]⟩)) (w.heap.size + 1) 203 (.string ⟨#[]⟩) := hcuD.set _
    have hrF : ((Wb.putObj D (.deferred none)).setCell ⟨w.heap.size + 1, 0, none⟩ (.string ⟨#[]⟩)).ownsRow w.heap.size 5 1 (.slice a5 (txP ys).length cap5) (txP ys).length ((txP ys).map byteV) := hrD.kept (grownBy_setCell' _ _ _) (.inr (hcuD.not_row (by decide) hrD).symm)
    have hBF : Below w.heap.size w ((Wb.putObj D (.deferred none)).setCell ⟨w.heap.size + 1, 0, none⟩ (.string ⟨#[]⟩)) := hBD.setCell (p := ⟨w.heap.size + 1, 0, none⟩) (by simp) _
    have hcv := hvF.cell
    have hcc := hcF.cell
    have etx : (rdB s.data.toList).1.flatMap txB = txP ys := by rw [txP, hS]
    simp only [LeavesInM, LeavesIn, settle]
    rw [etx]
    refine ⟨.tuple #[(.slice a5 (txP ys).length cap5), .string ⟨#[]⟩], ?_, (.slice a5 (txP ys).length cap5), rfl, hrF, hBF⟩
    simp [results, go_sem, Tryz.results190, hcv, hcc]
  case stop =>
    rintro D c pre W _ _ h _
    exact h.elim
set_option maxRecDepth 100000 in
set_option maxHeartbeats 4000000 in
theorem readBlocks_falls (s : ByteArray) (w : World) (hz : nzL s.data.toList) (hs : s.size ≤ 605) (hcut : (rdB s.data.toList).2 ≠ []) :
    Calls Tryz.prog 190 #[.string s] w fun e w' => ∃ v, e = .returned (.tuple #[v, .string ⟨(rdB s.data.toList).2.toArray⟩]) ∧ w'.ownsRow w.heap.size 5 1 v ((rdB s.data.toList).1.flatMap txB).length (((rdB s.data.toList).1.flatMap txB).map byteV) ∧ Below w.heap.size w w' := by
  obtain ⟨i0, hi, hz0, hz1, hz2⟩ := info_parts info_u8
  have HI := Lib.hid hi
  have HZ0 := Lib.hid hz0
  have HZ1 := Lib.hid hz1
  have HZ2 := Lib.hid hz2
  have HZ := Lib.hid hz
  have hzb := zero_bytes
  have hzt := zero_trunc
  have hmf : ∀ (fn : Fn) (first cap : Array Value) (w : World), (Instr.makeFunc fn first cap).run Tryz.prog w = .ok (.func fn first cap) w := fun _ _ _ _ => rfl
  clear hi hz0 hz1 hz2 hz
  refine (callsIn_wide (n := 3)).1 ?_
  refine callsIn_of_wp_marks Tryz.func190 rfl trivial ?_ rfl
  simp only [Tryz.ntmps190, List.size_toArray, List.length_cons, List.length_nil, Nat.reduceAdd, Nat.reduceSub, Array.replicate_succ, Array.replicate_zero, List.push_toArray, List.append_toArray, List.nil_append, List.cons_append]
  gi_wp2_with (refine ⟨trivial, ?_⟩; gi_at_call 192; refine (callsIn_wide.2 (blocksOf_make s _)).mono ?_; rintro e w' ⟨rfl, rfl⟩)
  clear hzb hzt hmf
  have hws : (((w.alloc (.cells #[.slice none 0 0] 22)).alloc (.cells #[.string ⟨#[]⟩] 203)).alloc (.cells #[.string s] 9)).heap.size = w.heap.size + 3 := by simp
  have hb1 : Boxed (((w.alloc (.cells #[.slice none 0 0] 22)).alloc (.cells #[.string ⟨#[]⟩] 203)).alloc (.cells #[.string s] 9)) w.heap.size 22 (.slice none 0 0) := ((Boxed.new w _ _).alloc _).alloc _
  have hb2 : Boxed (((w.alloc (.cells #[.slice none 0 0] 22)).alloc (.cells #[.string ⟨#[]⟩] 203)).alloc (.cells #[.string s] 9)) (w.heap.size + 1) 203 (.string ⟨#[]⟩) := by
    have h := (Boxed.new (w.alloc (.cells #[.slice none 0 0] 22)) 203 (.string ⟨#[]⟩)).alloc (.cells #[.string s] 9)
    rw [World.size_alloc] at h
    exact h
  have hb3 : (((w.alloc (.cells #[.slice none 0 0] 22)).alloc (.cells #[.string ⟨#[]⟩] 203)).alloc (.cells #[.string s] 9)).cell? ⟨w.heap.size + 1 + 1, 0, none⟩ = some (.string s) := by
    have h := (Boxed.new ((w.alloc (.cells #[.slice none 0 0] 22)).alloc (.cells #[.string ⟨#[]⟩] 203)) 9 (.string s)).cell
    rw [World.size_alloc, World.size_alloc] at h
    exact h
  have hbe0 : Below w.heap.size w (((w.alloc (.cells #[.slice none 0 0] 22)).alloc (.cells #[.string ⟨#[]⟩] 203)).alloc (.cells #[.string s] 9)) := (((Below.refl _ w).alloc (Nat.le_refl _) _).alloc (by simp) _).alloc (by simp; omega) _
  generalize ((w.alloc (.cells #[.slice none 0 0] 22)).alloc (.cells #[.string ⟨#[]⟩] 203)).alloc (.cells #[.string s] 9) = W0 at *
  refine wpIn_rangeFunc_falls rfl (by omega) (gf := 193) (lb := #[.pointer (some ⟨w.heap.size + 1 + 1, 0, none⟩)]) rfl trivial (enters_of Tryz.func193 (by kernel_rfl) rfl)
    (blocks_falls (3 - 1) (by omega) (w.heap.size + 1 + 1) s HZ.out hcut W0 hb3 (by omega)) (fun _ => rfl)
    (fun pre W => (BR W w.heap.size w.heap.size (txP pre) ∧ Boxed W (w.heap.size + 1) 203 (.string ⟨#[]⟩)) ∧ Below w.heap.size w W)
    (OwnFrom.and (Own.from (Own.both (BRt.own w.heap.size w.heap.size) (boxed_own' (w.heap.size + 1) 203 (fun _ : List Bk => .string ⟨#[]⟩))) _) (ownFrom_below (Nat.le_refl _) (by omega)))
    ⟨⟨⟨_, hb1, ⟨rfl, .inl ⟨rfl, rfl⟩⟩, fun _ => rfl⟩, hb2⟩, hbe0⟩
    (fun x => { tmps := #[.string s, undef, .pointer (some ⟨w.heap.size, 0, none⟩), .pointer (some ⟨w.heap.size + 1, 0, none⟩), .string ⟨x.1.1.toArray⟩, .bool x.1.2, .func (.func 191) #[] #[.pointer (some ⟨w.heap.size + 1, 0, none⟩)], .string s, .func (.func 193) #[] #[.pointer (some ⟨w.heap.size + 1 + 1, 0, none⟩)], .string ⟨x.1.1.toArray⟩, .bool x.1.2, undef, undef, undef, undef, undef, undef, undef, undef, undef, undef, undef, undef, undef, undef], defers := [] }) ?assign ?body ?fall
  case assign =>
    intro l x W K hK
    gi_wp2
    exact hK
  case body =>
    clear hb1 hb2 hb3 hbe0
    rintro l pre ⟨⟨p, bo⟩, hp1, hp2⟩ W ⟨⟨⟨v, hv, hrow, hnil⟩, hcu⟩, hB⟩ hlen
    simp only at hp1 hp2
    have HW := Lib.hid (txP_snoc pre ⟨⟨p, bo⟩, hp1, hp2⟩)
    have hol := txP_len pre
    obtain ⟨T, hT⟩ : ∃ T : ByteArray, T = ⟨p.toArray⟩ := ⟨_, rfl⟩
    have HT := Lib.hid (show T.data.toList = p by rw [hT])
    have hT1 : 1 ≤ T.size := by rw [← size_list T, HT.out]; exact hp1
    have hT2 : T.size ≤ 255 := by rw [← size_list T, HT.out]; exact hp2
    simp only [← hT]
    obtain ⟨T2, hT2e⟩ : ∃ T2 : ByteArray, T2 = T.extract 1 T.size := ⟨_, rfl⟩
    have s1 : ∀ u : World, (Instr.slice 9 (.string T) (some (.int .i64 1)) none none).run Tryz.prog u = .ok (.string T2) u := fun u => by rw [hT2e]; exact slice_from T 1 hT1 u
    have HT2 := Lib.hid (show T2.data.toList = p.drop 1 by rw [hT2e, ext_from, HT.out])
    have hT2s : T2.size ≤ 254 := by rw [← size_list T2, HT2.out, List.length_drop, ← HT.out, size_list]; omega
    generalize txP pre = out at *
    obtain ⟨a2, cap2, w2, r1, r2, r3, r4, r5, r6⟩ := app_run i0 HI.out HZ0.out HZ1.out HZ2.out hv hrow hnil hB.size (Nat.le_refl _) T2 (by omega)
    have cv := hv.cell
    have c2 := r2.cell
    have f2 := r2.frozen
    have HR3 := Lib.hid r3
    have HR4 := Lib.hid r4
    have HB2 := Lib.hid (hB.trans r5)
    have HCu := Lib.hid (r6 (w.heap.size + 1) 203 _ (by decide) (by omega) hcu)
    clear hv hcu hrow hnil hB r2 r3 r4 r5 r6 hT hT2e
    gi_wp2
    refine wpIn_region_any (by kernel_rfl) ?_
    try (change wpAnyIn _ _ _ _ _ _ _ _ _ (World.drew _))
    refine wpAnyIn_ready (rs := [0, 1]) (by kernel_rfl) (by simp) ?_
    refine AllReadyIn.cons rfl (fun K hK => ?_) ?_
    · go_simp
      refine hK _ _ ?_
      clear hK K
      refine wpAnyIn_ready (rs := [1]) (by kernel_rfl) (by simp) ?_
      refine AllReadyIn.cons rfl (fun K hK => ?_) AllReadyIn.nil
      go_simp
      refine hK _ _ ?_
      clear hK K
      refine wpAnyIn_ready (rs := [2]) (by kernel_rfl) (by simp) ?_
      refine AllReadyIn.cons rfl (fun K hK => ?_) AllReadyIn.nil
      go_simp
      refine hK _ _ ?_
      clear hK K
      refine wpAnyIn_ready (rs := [3]) (by kernel_rfl) (by simp) ?_
      refine AllReadyIn.cons rfl (fun K hK => ?_) AllReadyIn.nil
      rw [if_pos (show _ = true by rfl)]
      unfold Oper.wpIn
      refine ⟨by simp [Oper.about, resolve, Target.leads, Sem.run_pure], ?_⟩
      rw [Oper.semAt_plain _ _ _ (by intro c hc'; cases hc')]
      simp [execOp, resolve, invoke, builtin, Act.eval, r1, Result.andThen]
      refine hK _ _ ?_
      clear hK K
      refine wpAnyIn_ready (rs := [4]) (by kernel_rfl) (by simp) ?_
      refine AllReadyIn.cons rfl (fun K hK => ?_) AllReadyIn.nil
      go_simp
      refine hK _ _ ?_
      clear hK K
      refine wpAnyIn_done (by kernel_rfl) ?_ _
      clear c2 f2 r1 cv
      generalize w2.setCell ⟨w.heap.size, 0, none⟩ (.slice a2 (out.length + T2.size) cap2) = W3 at *
      obtain ⟨v3, hv3, hrow3, hnil3⟩ := HR3.out
      have cv3 := hv3.cell
      have hn3 := HB2.out.size
      cases bo with
      | false =>
        have HX := Lib.hid (show txP (pre ++ [⟨(p, false), hp1, hp2⟩]) = out ++ T2.data.toList by rw [HW.out, txB, HT2.out]; simp)
        clear hv3 hrow3 hnil3
        gi_wp2
        exact ⟨HR4.out, ⟨by rw [HX.out]; exact HR3.out, HCu.out⟩, HB2.out⟩
      | true =>
        by_cases h4 : T.size ≤ 254
        · have HX := Lib.hid (show txP (pre ++ [⟨(p, true), hp1, hp2⟩]) = (out ++ T2.data.toList) ++ [0] by
            rw [HW.out, txB, HT2.out, if_pos ⟨rfl, by show p.length ≤ 254; rw [← HT.out, size_list]; exact h4⟩, List.append_assoc])
          have hl3 : (out ++ T2.data.toList).length ≤ 255 * 700 + 254 := by rw [List.length_append, size_list]; omega
          generalize out ++ T2.data.toList = out3 at *
          have HV3 := Lib.hid hv3
          have HRo3 := Lib.hid hrow3
          have HONE := Lib.hid (one_cell W3 5 (.int .u8 0))
          clear hv3 hrow3 hnil3
          gi_wp2_with (gi_at_builtin; refine wpListIn_append_own _ rfl _ _ 22 rfl w.heap.size 5 i0 (.int .u8 0) 1 1 Tryz.underlying22 HI.out HZ0.out HZ1.out HZ2.out rfl (by decide) _ out3.length (out3.map byteV) rfl (HRo3.out.alloc _) ⟨W3.heap.size, 0, none⟩ 1 1 [.int .u8 0] rfl rfl HONE.out (by simp [Value.oneCell']) (by unfold maxLen; omega) (by omega) (by rw [World.size_alloc]; omega) ?_; intro v4 w4 hown4 hg4 _; obtain ⟨g4, cap4, rfl⟩ := ownsRow_succ hown4; obtain ⟨hvA, hvB, hrB, hkB, hbB, hoB⟩ := app_store (HV3.out.alloc _) (HRo3.out.alloc _) (by rw [World.size_alloc]; omega) (Nat.le_refl _) hown4 hg4; have cA := hvA.cell; have fA := hvA.frozen; have HVB := Lib.hid hvB; have HRB := Lib.hid hrB; have HKB := Lib.hid (HR4.out.trans ((KeepsOthers.alloc _ _).trans hkB)); have HBB := Lib.hid (HB2.out.trans (((Below.refl _ _).alloc hn3 _).trans hbB)); have HCB := Lib.hid (hoB _ _ _ (by decide) (by omega) (HCu.out.alloc _)); clear hvA hvB hrB hkB hbB hoB hown4 hg4)
          refine ⟨HKB.out, ⟨⟨_, HVB.out, ?_, ?_⟩, HCB.out⟩, HBB.out⟩
          · rw [HX.out, List.length_append, List.map_append]; exact HRB.out
          · intro h; rw [HX.out] at h; simp at h
        · have HX := Lib.hid (show txP (pre ++ [⟨(p, true), hp1, hp2⟩]) = out ++ T2.data.toList by
            rw [HW.out, txB, HT2.out, if_neg (by rintro ⟨_, h⟩; apply h4; rw [← size_list T, HT.out]; exact h), List.append_nil])
          clear hv3 hrow3 hnil3
          gi_wp2
          exact ⟨HR4.out, ⟨by rw [HX.out]; exact HR3.out, HCu.out⟩, HB2.out⟩
    refine AllReadyIn.cons rfl (fun K hK => ?_) AllReadyIn.nil
    go_simp
    refine hK _ _ ?_
    clear hK K
    refine wpAnyIn_ready (rs := [0, 2]) (by kernel_rfl) (by simp) ?_
    refine AllReadyIn.cons rfl (fun K hK => ?_) ?_
    · go_simp
      refine hK _ _ ?_
      clear hK K
      refine wpAnyIn_ready (rs := [2]) (by kernel_rfl) (by simp) ?_
      refine AllReadyIn.cons rfl (fun K hK => ?_) AllReadyIn.nil
      go_simp
      refine hK _ _ ?_
      clear hK K
      refine wpAnyIn_ready (rs := [3]) (by kernel_rfl) (by simp) ?_
      refine AllReadyIn.cons rfl (fun K hK => ?_) AllReadyIn.nil
      rw [if_pos (show _ = true by rfl)]
      unfold Oper.wpIn
      refine ⟨by simp [Oper.about, resolve, Target.leads, Sem.run_pure], ?_⟩
      rw [Oper.semAt_plain _ _ _ (by intro c hc'; cases hc')]
      simp [execOp, resolve, invoke, builtin, Act.eval, r1, Result.andThen]
      refine hK _ _ ?_
      clear hK K
      refine wpAnyIn_ready (rs := [4]) (by kernel_rfl) (by simp) ?_
      refine AllReadyIn.cons rfl (fun K hK => ?_) AllReadyIn.nil
      go_simp
      refine hK _ _ ?_
      clear hK K
      refine wpAnyIn_done (by kernel_rfl) ?_ _
      clear c2 f2 r1 cv
      generalize w2.setCell ⟨w.heap.size, 0, none⟩ (.slice a2 (out.length + T2.size) cap2) = W3 at *
      obtain ⟨v3, hv3, hrow3, hnil3⟩ := HR3.out
      have cv3 := hv3.cell
      have hn3 := HB2.out.size
      cases bo with
      | false =>
        have HX := Lib.hid (show txP (pre ++ [⟨(p, false), hp1, hp2⟩]) = out ++ T2.data.toList by rw [HW.out, txB, HT2.out]; simp)
        clear hv3 hrow3 hnil3
        gi_wp2
        exact ⟨HR4.out, ⟨by rw [HX.out]; exact HR3.out, HCu.out⟩, HB2.out⟩
      | true =>
        by_cases h4 : T.size ≤ 254
        · have HX := Lib.hid (show txP (pre ++ [⟨(p, true), hp1, hp2⟩]) = (out ++ T2.data.toList) ++ [0] by
            rw [HW.out, txB, HT2.out, if_pos ⟨rfl, by show p.length ≤ 254; rw [← HT.out, size_list]; exact h4⟩, List.append_assoc])
          have hl3 : (out ++ T2.data.toList).length ≤ 255 * 700 + 254 := by rw [List.length_append, size_list]; omega
          generalize out ++ T2.data.toList = out3 at *
          have HV3 := Lib.hid hv3
          have HRo3 := Lib.hid hrow3
          have HONE := Lib.hid (one_cell W3 5 (.int .u8 0))
          clear hv3 hrow3 hnil3
          gi_wp2_with (gi_at_builtin; refine wpListIn_append_own _ rfl _ _ 22 rfl w.heap.size 5 i0 (.int .u8 0) 1 1 Tryz.underlying22 HI.out HZ0.out HZ1.out HZ2.out rfl (by decide) _ out3.length (out3.map byteV) rfl (HRo3.out.alloc _) ⟨W3.heap.size, 0, none⟩ 1 1 [.int .u8 0] rfl rfl HONE.out (by simp [Value.oneCell']) (by unfold maxLen; omega) (by omega) (by rw [World.size_alloc]; omega) ?_; intro v4 w4 hown4 hg4 _; obtain ⟨g4, cap4, rfl⟩ := ownsRow_succ hown4; obtain ⟨hvA, hvB, hrB, hkB, hbB, hoB⟩ := app_store (HV3.out.alloc _) (HRo3.out.alloc _) (by rw [World.size_alloc]; omega) (Nat.le_refl _) hown4 hg4; have cA := hvA.cell; have fA := hvA.frozen; have HVB := Lib.hid hvB; have HRB := Lib.hid hrB; have HKB := Lib.hid (HR4.out.trans ((KeepsOthers.alloc _ _).trans hkB)); have HBB := Lib.hid (HB2.out.trans (((Below.refl _ _).alloc hn3 _).trans hbB)); have HCB := Lib.hid (hoB _ _ _ (by decide) (by omega) (HCu.out.alloc _)); clear hvA hvB hrB hkB hbB hoB hown4 hg4)
          refine ⟨HKB.out, ⟨⟨_, HVB.out, ?_, ?_⟩, HCB.out⟩, HBB.out⟩
          · rw [HX.out, List.length_append, List.map_append]; exact HRB.out
          · intro h; rw [HX.out] at h; simp at h
        · have HX := Lib.hid (show txP (pre ++ [⟨(p, true), hp1, hp2⟩]) = out ++ T2.data.toList by
            rw [HW.out, txB, HT2.out, if_neg (by rintro ⟨_, h⟩; apply h4; rw [← size_list T, HT.out]; exact h), List.append_nil])
          clear hv3 hrow3 hnil3
          gi_wp2
          exact ⟨HR4.out, ⟨by rw [HX.out]; exact HR3.out, HCu.out⟩, HB2.out⟩
    refine AllReadyIn.cons rfl (fun K hK => ?_) AllReadyIn.nil
    go_simp
    refine hK _ _ ?_
    clear hK K
    refine wpAnyIn_ready (rs := [0]) (by kernel_rfl) (by simp) ?_
    refine AllReadyIn.cons rfl (fun K hK => ?_) AllReadyIn.nil
    go_simp
    refine hK _ _ ?_
    clear hK K
    refine wpAnyIn_ready (rs := [3]) (by kernel_rfl) (by simp) ?_
    refine AllReadyIn.cons rfl (fun K hK => ?_) AllReadyIn.nil
    rw [if_pos (show _ = true by rfl)]
    unfold Oper.wpIn
    refine ⟨by simp [Oper.about, resolve, Target.leads, Sem.run_pure], ?_⟩
    rw [Oper.semAt_plain _ _ _ (by intro c hc'; cases hc')]
    simp [execOp, resolve, invoke, builtin, Act.eval, r1, Result.andThen]
    refine hK _ _ ?_
    clear hK K
    refine wpAnyIn_ready (rs := [4]) (by kernel_rfl) (by simp) ?_
    refine AllReadyIn.cons rfl (fun K hK => ?_) AllReadyIn.nil
    go_simp
    refine hK _ _ ?_
    clear hK K
    refine wpAnyIn_done (by kernel_rfl) ?_ _
    clear c2 f2 r1 cv
    generalize w2.setCell ⟨w.heap.size, 0, none⟩ (.slice a2 (out.length + T2.size) cap2) = W3 at *
    obtain ⟨v3, hv3, hrow3, hnil3⟩ := HR3.out
    have cv3 := hv3.cell
    have hn3 := HB2.out.size
    cases bo with
    | false =>
      have HX := Lib.hid (show txP (pre ++ [⟨(p, false), hp1, hp2⟩]) = out ++ T2.data.toList by rw [HW.out, txB, HT2.out]; simp)
      clear hv3 hrow3 hnil3
      gi_wp2
      exact ⟨HR4.out, ⟨by rw [HX.out]; exact HR3.out, HCu.out⟩, HB2.out⟩
    | true =>
      by_cases h4 : T.size ≤ 254
      · have HX := Lib.hid (show txP (pre ++ [⟨(p, true), hp1, hp2⟩]) = (out ++ T2.data.toList) ++ [0] by
          rw [HW.out, txB, HT2.out, if_pos ⟨rfl, by show p.length ≤ 254; rw [← HT.out, size_list]; exact h4⟩, List.append_assoc])
        have hl3 : (out ++ T2.data.toList).length ≤ 255 * 700 + 254 := by rw [List.length_append, size_list]; omega
        generalize out ++ T2.data.toList = out3 at *
        have HV3 := Lib.hid hv3
        have HRo3 := Lib.hid hrow3
        have HONE := Lib.hid (one_cell W3 5 (.int .u8 0))
        clear hv3 hrow3 hnil3
        gi_wp2_with (gi_at_builtin; refine wpListIn_append_own _ rfl _ _ 22 rfl w.heap.size 5 i0 (.int .u8 0) 1 1 Tryz.underlying22 HI.out HZ0.out HZ1.out HZ2.out rfl (by decide) _ out3.length (out3.map byteV) rfl (HRo3.out.alloc _) ⟨W3.heap.size, 0, none⟩ 1 1 [.int .u8 0] rfl rfl HONE.out (by simp [Value.oneCell']) (by unfold maxLen; omega) (by omega) (by rw [World.size_alloc]; omega) ?_; intro v4 w4 hown4 hg4 _; obtain ⟨g4, cap4, rfl⟩ := ownsRow_succ hown4; obtain ⟨hvA, hvB, hrB, hkB, hbB, hoB⟩ := app_store (HV3.out.alloc _) (HRo3.out.alloc _) (by rw [World.size_alloc]; omega) (Nat.le_refl _) hown4 hg4; have cA := hvA.cell; have fA := hvA.frozen; have HVB := Lib.hid hvB; have HRB := Lib.hid hrB; have HKB := Lib.hid (HR4.out.trans ((KeepsOthers.alloc _ _).trans hkB)); have HBB := Lib.hid (HB2.out.trans (((Below.refl _ _).alloc hn3 _).trans hbB)); have HCB := Lib.hid (hoB _ _ _ (by decide) (by omega) (HCu.out.alloc _)); clear hvA hvB hrB hkB hbB hoB hown4 hg4)
        refine ⟨HKB.out, ⟨⟨_, HVB.out, ?_, ?_⟩, HCB.out⟩, HBB.out⟩
        · rw [HX.out, List.length_append, List.map_append]; exact HRB.out
        · intro h; rw [HX.out] at h; simp at h
      · have HX := Lib.hid (show txP (pre ++ [⟨(p, true), hp1, hp2⟩]) = out ++ T2.data.toList by
          rw [HW.out, txB, HT2.out, if_neg (by rintro ⟨_, h⟩; apply h4; rw [← size_list T, HT.out]; exact h), List.append_nil])
        clear hv3 hrow3 hnil3
        gi_wp2
        exact ⟨HR4.out, ⟨by rw [HX.out]; exact HR3.out, HCu.out⟩, HB2.out⟩
  case fall =>
    clear hb1 hb2 hb3 hbe0
    rintro D ys W hD hS ⟨⟨⟨v, hv, hrow, hnil⟩, hcu⟩, hB⟩ hK
    have hcu2 : Boxed (W.putObj D (.deferred none)) (w.heap.size + 1) 203 (.string ⟨#[]⟩) := hcu.kept (grownBy_putObj' W D _) (by intro e; injection e with e; subst e; rw [show W.heap[w.heap.size + 1]? = _ from hcu] at hK; cases hK)
    refine ⟨by simp, .inl ⟨_, _, rfl, run_takeDeferred hK, ?_⟩⟩
    refine ⟨by simp, .inr ⟨by simp [Fence.wide], .func 191, #[.pointer (some ⟨w.heap.size + 1, 0, none⟩)], 191, #[.pointer (some ⟨w.heap.size + 1, 0, none⟩)], rfl, by simp [go_sem], by simp [Target.leads, Fence.wide], ?_⟩⟩
    refine (catch_cut _ (w.heap.size + 1) _ _ _ hcu2.cell hcu2.frozen).mono ?_
    rintro e u' w' ⟨rfl, rfl, rfl⟩
    have hvD : Boxed (W.putObj D (.deferred none)) w.heap.size 22 v := hv.kept (grownBy_putObj' W D _) (by intro e; injection e with e; subst e; rw [show W.heap[w.heap.size]? = _ from hv] at hK; cases hK)
    have hcuD := hcu2
    have hrD := ownsRow_putObj hrow (.deferred none) hK rfl
    have hBD : Below w.heap.size w (W.putObj D (.deferred none)) := hB.trans (belowK_b (w := w) (Nat.le_refl _) W D _ _ (by omega) hK rfl rfl)
    have hvF : Boxed ((W.putObj D (.deferred none)).setCell ⟨w.heap.size + 1, 0, none⟩ (.string ⟨(rdB s.data.toList).2.toArray⟩)) w.heap.size 22 v := hvD.kept (grownBy_setCell' _ _ _) (by simp)
    have hcF : Boxed ((W.putObj D (.deferred none)).setCell ⟨w.heap.size + 1, 0, none⟩ (.string ⟨(rdB s.data.toList).2.toArray⟩)) (w.heap.size + 1) 203 (.string ⟨(rdB s.data.toList).2.toArray⟩) := hcuD.set _
    have hrF : ((W.putObj D (.deferred none)).setCell ⟨w.heap.size + 1, 0, none⟩ (.string ⟨(rdB s.data.toList).2.toArray⟩)).ownsRow w.heap.size 5 1 v (txP ys).length ((txP ys).map byteV) := hrD.kept (grownBy_setCell' _ _ _) (.inr (hcuD.not_row (by decide) hrD).symm)
    have hBF : Below w.heap.size w ((W.putObj D (.deferred none)).setCell ⟨w.heap.size + 1, 0, none⟩ (.string ⟨(rdB s.data.toList).2.toArray⟩)) := hBD.setCell (p := ⟨w.heap.size + 1, 0, none⟩) (by simp) _
    have hcv := hvF.cell
    have hcc := hcF.cell
    have etx : (rdB s.data.toList).1.flatMap txB = txP ys := by rw [txP, hS]
    simp only [LeavesInM, settle]
    rw [etx]
    refine ⟨.tuple #[v, .string ⟨(rdB s.data.toList).2.toArray⟩], ?_, v, rfl, hrF, hBF⟩
    simp [results, go_sem, Tryz.results190, hcv, hcc]
end Go.Proofs.YtcegpcggdcgjbaaGreatDoor
/- CobsGet and LessGet of the program. -/
namespace Go.Proofs.YtcegpcggdcgjbaaGreatDoor
open Go.ChangeShapes Go.WideShapes Go.ChangeAt Go.RowKit
def okG (t : List UInt8) : Bool := decide (t.length ≠ 0) && (decide (t.length ≤ 605) && !t.contains 0)
def txt (t : List UInt8) : List UInt8 := (rdB t).1.flatMap txB
def getA (t : List UInt8) : List UInt8 × Bool := if okG t = true ∧ (rdB t).2 = [] then (txt t, true) else ([], false)
def lgetA (t : List UInt8) : List UInt8 × Bool := if okG t = true then (txt t ++ (rdB t).2.drop 1 ++ (rdB t).2.take 1, true) else ([], false)
theorem okG_yes {t : List UInt8} (h : okG t = true) : t.length ≠ 0 ∧ t.length ≤ 605 ∧ nzL t := by
  simp [okG] at h
  refine ⟨by simpa using h.1, h.2.1, fun x hx e => h.2.2 (by rw [← e]; exact hx)⟩
theorem emp_size (s : ByteArray) : s.toList.isEmpty = decide (s.size = 0) := by
  rw [ByteArray.toList_eq, Bool.eq_iff_iff, List.isEmpty_iff, decide_eq_true_iff, ← size_list, List.length_eq_zero_iff]
theorem idx_zero_lt (l : List UInt8) : (decide (Lib.indexByte l 0 < 0)) = !l.contains 0 := by
  by_cases h : (0 : UInt8) ∈ l
  · have h1 : l.contains 0 = true := by simpa using h
    rw [h1]
    have h2 := Lib.indexByte_ge l 0
    have h3 : Lib.indexByte l 0 ≠ -1 := by
      intro e
      obtain ⟨k, hk, he⟩ := List.getElem_of_mem h
      exact Lib.indexByte_none e k (by rw [List.getElem?_eq_getElem hk, he])
    simp; omega
  · have h1 : l.contains 0 = false := by simpa using h
    rw [h1, idx_none h]; rfl
set_option maxRecDepth 100000 in
theorem getOkC_any (s : ByteArray) (w : World) :
    Calls Tryz.prog 189 #[.string s] w fun e w' => e = .returned (.bool (okG s.data.toList)) ∧ w = w' := by
  have HSL := Lib.hid (size_list s)
  by_cases h0 : s.size = 0
  · have hemp : s.toList.isEmpty = true := by rw [emp_size]; exact decide_eq_true h0
    have HV := Lib.hid (show okG s.data.toList = false by simp [okG, h0])
    go_enter Tryz.func189, Tryz.ntmps189
    go_wp2
    go_ret
    exact ⟨by rw [HV.out]; rfl, rfl⟩
  · have hemp : s.toList.isEmpty = false := by rw [emp_size]; exact decide_eq_false h0
    by_cases h6 : s.size ≤ 605
    · have HI := Lib.hid (idx_zero_lt s.data.toList)
      have HV := Lib.hid (show okG s.data.toList = !s.data.toList.contains 0 by rw [okG, HSL.out]; simp [h0, h6])
      go_enter Tryz.func189, Tryz.ntmps189
      go_wp2_with fail
      refine (idx_any _ _ _).mono ?_
      rintro e w' ⟨rfl, rfl⟩
      rw [show ((0 : Int).toNat.toUInt8) = 0 from rfl]
      generalize Lib.indexByte s.data.toList 0 = ix at *
      go_wp2
      go_ret
      exact ⟨by rw [HV.out, ← HI.out]; rfl, rfl⟩
    · have HV := Lib.hid (show okG s.data.toList = false by rw [okG, HSL.out]; simp [h6])
      go_enter Tryz.func189, Tryz.ntmps189
      go_wp2
      go_ret
      exact ⟨by rw [HV.out]; rfl, rfl⟩
set_option maxRecDepth 100000 in
theorem implCobsGet_any (s : ByteArray) (w : World) :
    Calls Tryz.prog 188 #[.string s] w fun e w' => e = .returned (.tuple #[.string ⟨(getA s.data.toList).1.toArray⟩, .bool (getA s.data.toList).2]) ∧ Below w.heap.size w w' := by
  have HSL := Lib.hid (size_list s)
  cases hk : okG s.data.toList with
  | false =>
    have HV := Lib.hid (show getA s.data.toList = ([], false) by rw [getA, if_neg (by rw [hk]; simp)])
    go_enter Tryz.func188, Tryz.ntmps188
    go_wp2_with (go_at_call 189; refine (getOkC_any _ _).mono ?_; rintro e w' ⟨rfl, rfl⟩)
    go_ret2
    exact ⟨by rw [HV.out]; rfl, Below.refl _ _⟩
  | true =>
    obtain ⟨k1, k2, k3⟩ := okG_yes hk
    rw [HSL.out] at k1 k2
    have K3 := Lib.hid k3
    clear k3
    by_cases hc : (rdB s.data.toList).2 = []
    · have HV := Lib.hid (show getA s.data.toList = (txt s.data.toList, true) by rw [getA, if_pos ⟨hk, hc⟩])
      have HC := Lib.hid hc
      clear hc
      go_enter Tryz.func188, Tryz.ntmps188
      go_wp2_with (go_at_call 189; refine (getOkC_any _ _).mono ?_; rintro e w' ⟨rfl, rfl⟩)
      refine (readBlocks_stops s _ K3.out k2 HC.out).mono ?_
      rintro e w1 ⟨v, rfl, hrow, hb⟩
      have HO := Lib.hid (ownsRow_ob hrow)
      have HB := Lib.hid hb
      rw [HC.out]
      clear hrow hb
      go_wp2_with (refine wpList_string_of_OB _ rfl 22 9 5 _ rfl _ _ _ rfl Tryz.underlying22 Tryz.underlying5 Tryz.underlying9 HO.out ?_)
      go_ret2
      exact ⟨by rw [HV.out]; rfl, HB.out⟩
    · have HV := Lib.hid (show getA s.data.toList = ([], false) by rw [getA, if_neg (by rintro ⟨_, h⟩; exact hc h)])
      have HC := Lib.hid hc
      clear hc
      go_enter Tryz.func188, Tryz.ntmps188
      go_wp2_with (go_at_call 189; refine (getOkC_any _ _).mono ?_; rintro e w' ⟨rfl, rfl⟩)
      refine (readBlocks_falls s _ K3.out k2 HC.out).mono ?_
      rintro e w1 ⟨v, rfl, hrow, hb⟩
      have HB := Lib.hid hb
      clear hrow hb
      obtain ⟨X, hX⟩ : ∃ X : ByteArray, X = ⟨(rdB s.data.toList).2.toArray⟩ := ⟨_, rfl⟩
      have hXe : X.toList.isEmpty = false := by
        rw [ByteArray.toList_eq, hX]
        cases hq : (rdB s.data.toList).2 with
        | nil => exact absurd hq HC.out
        | cons => rfl
      rw [← hX]
      clear hX
      go_wp2
      go_ret2
      exact ⟨by rw [HV.out]; rfl, HB.out⟩
theorem txt_len (t : List UInt8) : (txt t).length + (rdB t).2.length ≤ t.length := by
  induction hn : t.length using Nat.strongRecOn generalizing t with
  | _ n ih =>
    rcases Nat.lt_or_ge 0 (hdN t) with h | h
    · rcases Nat.lt_or_ge t.length (hdN t) with h2 | h2
      · rw [txt, rdB_cut (.inr h2)]; simp; omega
      · rw [txt, rdB_more h h2]
        have hd := ih (t.drop (hdN t)).length (by rw [List.length_drop]; omega) _ rfl
        rw [List.length_drop] at hd
        simp only [List.flatMap_cons, List.length_append]
        have e : (txB (t.take (hdN t), decide (hdN t < t.length))).length ≤ hdN t := by
          unfold txB
          rw [List.length_append, List.length_drop, List.length_take]
          split <;> simp <;> omega
        show _ + ((rdB (t.drop (hdN t))).1.flatMap txB).length + _ ≤ _
        unfold txt at hd
        omega
    · rw [txt, rdB_cut (.inl (by omega))]; simp; omega
theorem slice_from35 (s : ByteArray) (hk : 1 ≤ s.size) (u : World) : (Instr.slice 203 (.string s) (some (.int .i64 1)) none none).run Tryz.prog u = .ok (.string (s.extract 1 s.size)) u := by
  rw [run_slice_string_from_if u 203 s .i64 1 Tryz.underlying203]
  simp; omega
set_option maxRecDepth 100000 in
set_option maxHeartbeats 1000000 in
theorem implLessGet_any (s : ByteArray) (w : World) :
    Calls Tryz.prog 196 #[.string s] w fun e w' => e = .returned (.tuple #[.string ⟨(lgetA s.data.toList).1.toArray⟩, .bool (lgetA s.data.toList).2]) ∧ Below w.heap.size w w' := by
  obtain ⟨i0, hi, hz0, hz1, hz2⟩ := info_parts info_u8
  have HI := Lib.hid hi
  have HZ0 := Lib.hid hz0
  have HZ1 := Lib.hid hz1
  have HZ2 := Lib.hid hz2
  have HSL := Lib.hid (size_list s)
  clear hi hz0 hz1 hz2
  cases hk : okG s.data.toList with
  | false =>
    have HV := Lib.hid (show lgetA s.data.toList = ([], false) by rw [lgetA, if_neg (by rw [hk]; simp)])
    go_enter Tryz.func196, Tryz.ntmps196
    go_wp2_with (go_at_call 189; refine (getOkC_any _ _).mono ?_; rintro e w' ⟨rfl, rfl⟩)
    go_ret2
    exact ⟨by rw [HV.out]; rfl, Below.refl _ _⟩
  | true =>
    obtain ⟨k1, k2, k3⟩ := okG_yes hk
    rw [HSL.out] at k1 k2
    have K3 := Lib.hid k3
    clear k3
    have HV0 := Lib.hid (show lgetA s.data.toList = (txt s.data.toList ++ (rdB s.data.toList).2.drop 1 ++ (rdB s.data.toList).2.take 1, true) by rw [lgetA, if_pos hk])
    by_cases hc : (rdB s.data.toList).2 = []
    · have HV := Lib.hid (show lgetA s.data.toList = (txt s.data.toList, true) by rw [HV0.out, hc]; simp)
      have HC := Lib.hid hc
      clear hc
      go_enter Tryz.func196, Tryz.ntmps196
      go_wp2_with (go_at_call 189; refine (getOkC_any _ _).mono ?_; rintro e w' ⟨rfl, rfl⟩)
      refine (readBlocks_stops s _ K3.out k2 HC.out).mono ?_
      rintro e w1 ⟨v, rfl, hrow, hb⟩
      have HO := Lib.hid (ownsRow_ob hrow)
      have HB := Lib.hid hb
      rw [HC.out]
      clear hrow hb
      go_wp2_with (refine wpList_string_of_OB _ rfl 22 9 5 _ rfl _ _ _ rfl Tryz.underlying22 Tryz.underlying5 Tryz.underlying9 HO.out ?_)
      go_ret2
      exact ⟨by rw [HV.out]; rfl, HB.out⟩
    · have HC := Lib.hid hc
      have hlen := txt_len s.data.toList
      rw [HSL.out] at hlen
      clear hc
      go_enter Tryz.func196, Tryz.ntmps196
      go_wp2_with (go_at_call 189; refine (getOkC_any _ _).mono ?_; rintro e w' ⟨rfl, rfl⟩)
      refine (readBlocks_falls s w K3.out k2 HC.out).mono ?_
      rintro e w1 ⟨v, rfl, hrow, hb⟩
      have HB := Lib.hid hb
      have HRow := Lib.hid (show w1.ownsRow w.heap.size 5 1 v (txt s.data.toList).length ((txt s.data.toList).map byteV) from hrow)
      clear hrow hb
      obtain ⟨X, hX⟩ : ∃ X : ByteArray, X = ⟨(rdB s.data.toList).2.toArray⟩ := ⟨_, rfl⟩
      have HXL := Lib.hid (show X.data.toList = (rdB s.data.toList).2 by rw [hX])
      rw [← HXL.out] at hlen
      have hX0 : X.size ≠ 0 := fun e => HC.out (by rw [← HXL.out]; exact List.length_eq_zero_iff.1 (by rw [size_list]; exact e))
      have hXe : X.toList.isEmpty = false := by rw [emp_size]; exact decide_eq_false hX0
      rw [size_list] at hlen
      obtain ⟨Y, hY⟩ : ∃ Y : ByteArray, Y = X.extract 1 X.size := ⟨_, rfl⟩
      have s1 : ∀ u : World, (Instr.slice 203 (.string X) (some (.int .i64 1)) none none).run Tryz.prog u = .ok (.string Y) u := fun u => by rw [hY]; exact slice_from35 X (by omega) u
      have HYL := Lib.hid (show Y.data.toList = X.data.toList.drop 1 by rw [hY, ext_from])
      have hYs : Y.size ≤ X.size := by rw [← size_list Y, HYL.out, List.length_drop, size_list]; omega
      have hXp : 0 < X.size := by omega
      have HH := Lib.hid (show X.data.toList.take 1 = [X[0]] by
        have e := List.drop_eq_getElem_cons (l := X.data.toList) (i := 0) (by simpa using hXp)
        rw [List.drop_zero] at e
        rw [e]; rfl)
      have HV := Lib.hid (show lgetA s.data.toList = (txt s.data.toList ++ Y.data.toList ++ [X[0]], true) by rw [HV0.out, ← HXL.out, HYL.out, HH.out])
      rw [← hX]
      clear hX hY
      generalize txt s.data.toList = out at *
      go_wp2_with (first | (at_builtin; refine Lib.wpList_append_own_string _ rfl _ _ 22 203 rfl w.heap.size 5 i0 Tryz.underlying22 Tryz.underlying203 HI.out HZ0.out HZ1.out HZ2.out _ out.length (out.map byteV) rfl HRow.out Y rfl (by unfold maxLen; omega) (by omega) HB.out.size ?_; intro v2 w2 hown2 hg2 _; have HR2 := Lib.hid (show w2.ownsRow w.heap.size 5 1 v2 (out ++ Y.data.toList).length ((out ++ Y.data.toList).map byteV) from (by rw [List.length_append, size_list, List.map_append, ← strCells_map]; exact hown2)); have HB2 := Lib.hid (HB.out.grown hg2 HB.out.size (fun j e => ((ownsRow_ob HRow.out).lt j e).1)); have hn2 := HB2.out.size; clear hown2 hg2) | (at_builtin; refine wpList_append_own _ rfl _ _ 22 rfl w.heap.size 5 i0 (.int .u8 0) 1 1 Tryz.underlying22 HI.out HZ0.out HZ1.out HZ2.out rfl (by decide) _ _ _ rfl (HR2.out.alloc _) ⟨w2.heap.size, 0, none⟩ 1 1 [.int .u8 (X[0].toNat : Int)] rfl rfl (one_cell w2 _ _) (by simp [Value.oneCell']) (by rw [List.length_append, size_list]; unfold maxLen; omega) (by rw [List.length_append, size_list]; omega) (by rw [World.size_alloc]; omega) ?_; intro v3 w3 hown3 hg3 _; have HO3 := Lib.hid (ownsRow_ob (show w3.ownsRow w.heap.size 5 1 v3 (out ++ Y.data.toList ++ [X[0]]).length ((out ++ Y.data.toList ++ [X[0]]).map byteV) from (by rw [List.length_append, List.map_append]; exact hown3))); have HB3 := Lib.hid ((HB2.out.alloc hn2 _).grown hg3 (by rw [World.size_alloc]; omega) (fun j e => ((ownsRow_ob HR2.out).lt j e).1)); clear hown3 hg3) | (refine wpList_string_of_OB _ rfl 22 9 5 _ rfl w.heap.size _ (out ++ Y.data.toList ++ [X[0]]) rfl Tryz.underlying22 Tryz.underlying5 Tryz.underlying9 HO3.out ?_))
      go_ret2
      exact ⟨by rw [HV.out, List.append_assoc]; rfl, HB3.out⟩
end Go.Proofs.YtcegpcggdcgjbaaGreatDoor
