/- Slices of events in the laws: whether two are the same, marked, still as marked. -/
import Derived.Test.YtplaagkcamjemaaTEv
import Derived.Test.YtplaagkcamjemaaMark
import Derived.Deep.RegionWith
import Derived.Deep.RegionHeld3
namespace Go.Proofs.Ytplaagkcamjemaa
open Go.ChangeShapes Go.WideShapes Go.ChangeAt Go.RowKit
theorem eqEvent_same (k : Int) (t : ByteArray) (w : World) :
    Calls Try.prog 57 #[.agg #[.int .i64 k, .string t], .agg #[.int .i64 k, .string t]] w fun e w' => e = .returned (.bool true) ∧ Below w.heap.size w w' := by
  go_enter Try.func57, Try.ntmps57
  go_wp2
  go_ret
  exact ⟨rfl, below2 _ _ _⟩
/-- element k of a slice of events that is read -/
theorem RE.at_ {w : World} {lo B : Nat} {l : List Ev} {a : Option Addr} {cap : Nat} (h : RE w lo B (.slice a l.length cap) l) {k : Nat} (hk : k < l.length) :
    ∃ g, a = some ⟨g, 0, none⟩ ∧ lo ≤ g ∧ g < B ∧ w.cell? ⟨g, k * 2, none⟩ = some (.int .i64 l[k].kind) ∧ w.cell? ⟨g, k * 2 + 1, none⟩ = some (.string ⟨l[k].text.toArray⟩) := by
  obtain ⟨a', cap', hv, h2⟩ := h
  injection hv with hv1 hv2 hv3
  subst hv1
  obtain ⟨x, hx, hl, hB, hc⟩ := h2 (by omega)
  obtain ⟨e1, e2⟩ := evCs_at l k hk
  rw [Nat.mul_comm] at e1 e2
  exact ⟨x, hx, hl, hB, hc _ _ e1, hc _ _ e2⟩
theorem RE.shape {w : World} {lo B : Nat} {v : Value} {l : List Ev} (h : RE w lo B v l) : ∃ a cap, v = .slice a l.length cap := by
  obtain ⟨a, cap, hv, _⟩ := h
  exact ⟨a, cap, hv⟩
set_option maxHeartbeats 1100000 in
theorem eqEvents_same (v v' : Value) (l : List Ev) (w : World) (lo lo' B B' : Nat) (h : RE w lo B v l) (h' : RE w lo' B' v' l) (hB : B ≤ w.heap.size) (hB' : B' ≤ w.heap.size) (hl : l.length ≤ 1000000000) :
    Calls Try.prog 32 #[v, v'] w fun e w' => e = .returned (.bool true) ∧ Below w.heap.size w w' := by
  obtain ⟨a, cap, rfl⟩ := h.shape
  obtain ⟨a', cap', rfl⟩ := h'.shape
  have H := Lib.hid h
  have H' := Lib.hid h'
  clear h h'
  go_enter Try.func32, Try.ntmps32
  go_wp2
  go_loopw [5] (fun j wr => ∃ k : Nat, k ≤ l.length ∧ j = .int .i64 k ∧ Below w.heap.size w wr) (fun j _ => l.length - (intOf j).toNat)
  case atStart => exact ⟨0, Nat.zero_le _, rfl, Below.refl _ _⟩
  case round =>
    obtain ⟨k, hk, rfl, hb⟩ := hrel
    have HB := Lib.hid hb
    by_cases hlt : k < l.length
    · obtain ⟨x, rfl, _, _, c0, c1⟩ := RE.at_ (H.out.below (hb.mono hB)) hlt
      obtain ⟨x', rfl, _, _, c0', c1'⟩ := RE.at_ (H'.out.below (hb.mono hB')) hlt
      clear hb
      generalize l[k].kind = kk at *
      generalize (⟨l[k].text.toArray⟩ : ByteArray) = tt at *
      go_wp2_with fail
      go_region_with ((go_at_call 57; refine (eqEvent_same kk tt _).mono ?_; rintro e w3 ⟨rfl, hb3⟩))
      all_goals
        have HB3 := Lib.hid (HB.out.drew.trans (hb3.mono HB.out.size))
        clear hb3 c0 c1 c0' c1'
        go_wp2
        go_roundw
        case rel => exact ⟨k + 1, by omega, by go_num, HB3.out⟩
        case measure => simp [intOf]; omega
    · go_wp2
      go_ret
      exact ⟨rfl, HB.out⟩
/-- the mark of element i -/
def markE (i : Nat) : Ev := ⟨1 + 2 * i, markL (2 + 2 * i)⟩
def marks (n : Nat) : List Ev := (List.range n).map markE
theorem marks_len (n : Nat) : (marks n).length = n := by simp [marks]
theorem marks_at (n k : Nat) (h : k < n) : (marks n)[k]'(by rw [marks_len]; exact h) = markE k := by simp [marks]
/-- a cell of an own row stored -/
theorem own_stored {w : World} {base : Nat} {e : TypeId} {size n n' cap : Nat} {g : Nat} {xs : List Value} (h : w.ownsRow base e size (.slice (some ⟨g, 0, none⟩) n' cap) n xs) (j : Nat) (u : Value) :
    (w.setCell ⟨g, j, none⟩ u).ownsRow base e size (.slice (some ⟨g, 0, none⟩) n' cap) n (xs.set j u) := by
  refine ⟨by rw [List.length_set]; exact h.1, ?_⟩
  rcases h.2 with ⟨hv, _⟩ | ⟨g', cap', cur, hv, hb, hg, h1, h2, h3, h4⟩
  · simp at hv
  · have : g = g' := by injection hv with h; injection h with h; injection h
    subst this
    rw [setCell_eq_setRow w g j cur e (0, 0) _ hg]
    refine .inr ⟨g, cap', _, hv, hb, setRow_heap w g cur _ e (0, 0) hg, h1, h2, by simpa using h3, ?_⟩
    rw [Array.toList_setIfInBounds, List.take_set, h4]
theorem own_free {w : World} {base : Nat} {e : TypeId} {size n n' cap : Nat} {g : Nat} {xs : List Value} (h : w.ownsRow base e size (.slice (some ⟨g, 0, none⟩) n' cap) n xs) (j : Nat) : w.frozen? ⟨g, j, none⟩ = false := by
  rcases h.2 with ⟨hv, _⟩ | ⟨g', cap', cur, hv, hb, hg, _⟩
  · simp at hv
  · have : g = g' := by injection hv with h; injection h with h; injection h
    subst this
    simp [World.frozen?, hg]
theorem evCs_set (l : List Ev) (k : Nat) (e : Ev) (h : k < l.length) : ((evCs l).set (k * 2) (.int .i64 e.kind)).set (k * 2 + 1) (.string ⟨e.text.toArray⟩) = evCs (l.set k e) := by
  induction l generalizing k with
  | nil => simp at h
  | cons a l ih =>
    have e1 : evCs (a :: l) = .int .i64 a.kind :: .string ⟨a.text.toArray⟩ :: evCs l := rfl
    rw [e1]
    cases k with
    | zero => rfl
    | succ k =>
      have := ih k (by simpa using h)
      rw [List.set_cons_succ]
      have e2 : evCs (a :: l.set k e) = .int .i64 a.kind :: .string ⟨a.text.toArray⟩ :: evCs (l.set k e) := rfl
      rw [e2, ← this, show (k + 1) * 2 = k * 2 + 1 + 1 by omega]
      rfl
def partM (l : List Ev) (k : Nat) : List Ev := marks k ++ l.drop k
theorem partM_len (l : List Ev) (k : Nat) (h : k ≤ l.length) : (partM l k).length = l.length := by simp [partM, marks_len]; omega
theorem partM_set (l : List Ev) (k : Nat) (h : k < l.length) : (partM l k).set k (markE k) = partM l (k + 1) := by
  unfold partM
  rw [List.set_append_right _ _ (by rw [marks_len]; exact Nat.le_refl _), marks_len, Nat.sub_self, List.drop_eq_getElem_cons h, List.set_cons_zero]
  simp [marks, List.range_succ]
theorem grown_set {w w' : World} {row : Option Nat} (hg : w.grownBy w' row) {g : Nat} (hr : row = some g) (j : Nat) (u : Value) : w.grownBy (w'.setCell ⟨g, j, none⟩ u) row := by
  refine ⟨hg.os, hg.tape, hg.output, by simpa using hg.size, fun k hk hne => ?_⟩
  rw [Below.heap_setCell _ _ _ _ (by rintro rfl; exact hne hr.symm)]
  exact hg.block k hk hne
theorem kgrown_below {w w' w'' : World} {row : Option Nat} (hg : w.grownBy w' row) (hb : Below w'.heap.size w' w'') : w.grownBy w'' row :=
  ⟨hb.os.trans hg.os, hb.tape.trans hg.tape, hb.output.trans hg.output, Nat.le_trans hg.size hb.size, fun k hk hne => (hb.block k (Nat.lt_of_lt_of_le hk hg.size)).trans (hg.block k hk hne)⟩
def MarkPost (w : World) (base : Nat) (v : Value) (n : Nat) (e : Ending) (w' : World) : Prop := e = .returned (.int .i64 (1 + 2 * n)) ∧ OE w' base v (marks n) ∧ w.grownBy w' v.ownBlock
theorem mark_call (k : Nat) (hk : k ≤ 1100000) (w : World) :
    Calls Try.prog 58 #[.int .i64 (1 + 2 * (k : Int) + 1)] w fun e w' => e = .returned (.string ⟨(markL (2 + 2 * k)).toArray⟩) ∧ Below w.heap.size w w' := by
  have h := markText_any (2 + 2 * k) w (by omega) (by omega)
  rw [show ((2 + 2 * k : Nat) : Int) = 1 + 2 * (k : Int) + 1 by omega] at h
  exact h
theorem own_below {w w' : World} {base : Nat} {e : TypeId} {size n : Nat} {v : Value} {xs : List Value} (h : w.ownsRow base e size v n xs) (hb : Below w.heap.size w w') : w'.ownsRow base e size v n xs :=
  h.kept (row := none) ⟨hb.os, hb.tape, hb.output, hb.size, fun g hg _ => hb.block g hg⟩ (by cases v.ownBlock <;> simp)
theorem own_cell {w : World} {base : Nat} {e : TypeId} {size n n' cap g : Nat} {xs : List Value} (h : w.ownsRow base e size (.slice (some ⟨g, 0, none⟩) n' cap) n xs) {j : Nat} {u : Value} (hu : xs[j]? = some u) : w.cell? ⟨g, j, none⟩ = some u := by
  have := h.cells (g := g) rfl j u hu
  rwa [lit_add] at this
theorem mark_row {w : World} {base g n cap k : Nat} {l : List Ev} (hlt : k < l.length) (hpl : (partM l k).length = l.length)
    (h : w.ownsRow base 32 2 (.slice (some ⟨g, 0, none⟩) n cap) (partM l k).length ((evCs (partM l k)).set (k * 2) (.int .i64 (1 + 2 * (k : Int))))) :
    OE (w.setCell ⟨g, k * 2 + 1, none⟩ (.string ⟨(markL (2 + 2 * k)).toArray⟩)) base (.slice (some ⟨g, 0, none⟩) n cap) (partM l (k + 1)) := by
  have h1 := own_stored h (k * 2 + 1) (.string ⟨(markL (2 + 2 * k)).toArray⟩)
  have e := evCs_set (partM l k) k (markE k) (by rw [hpl]; exact hlt)
  have e' : ((evCs (partM l k)).set (k * 2) (.int .i64 (1 + 2 * (k : Int)))).set (k * 2 + 1) (.string ⟨(markL (2 + 2 * k)).toArray⟩) = evCs (partM l (k + 1)) := by
    rw [← partM_set l k hlt]; exact e
  unfold OE
  rw [← e', ← partM_set l k hlt, List.length_set]
  exact h1
set_option maxRecDepth 100000 in
set_option maxHeartbeats 1100000 in
theorem mark_any (v : Value) (l : List Ev) (w : World) (base : Nat) (h : OE w base v l) (hl : l.length ≤ 1100000) :
    Calls Try.prog 34 #[v, .int .i64 1] w (MarkPost w base v l.length) := by
  obtain ⟨a, cap, hv⟩ := h.reads.shape
  have H := Lib.hid h
  have HV := Lib.hid hv
  rw [hv]
  clear h hv
  go_enter Try.func34, Try.ntmps34
  go_wp2
  go_loopw [1, 5] (fun q j wr => ∃ k : Nat, k ≤ l.length ∧ j = .int .i64 k ∧ q = .int .i64 (1 + 2 * (k : Int)) ∧ OE wr base v (partM l k) ∧ w.grownBy wr v.ownBlock) (fun _ j _ => l.length - (intOf j).toNat)
  case atStart => exact ⟨0, Nat.zero_le _, rfl, rfl, H.out, ⟨rfl, rfl, rfl, Nat.le_refl _, fun _ _ _ => rfl⟩⟩
  case round =>
    obtain ⟨k, hk, rfl, rfl, hoe, hg⟩ := hrel
    have HG := Lib.hid hg
    by_cases hlt : k < l.length
    · have HPL := Lib.hid (partM_len l k hk)
      have hre := hoe.reads
      rw [HV.out] at hre hoe
      rw [show l.length = (partM l k).length from HPL.out.symm] at hre
      obtain ⟨g, ha, hg1, hg2, c0, c1⟩ := RE.at_ hre (k := k) (by rw [HPL.out]; exact hlt)
      subst ha
      have f0 := own_free hoe (k * 2)
      have f1 := own_free hoe (k * 2 + 1)
      have HOE := Lib.hid hoe
      clear hoe hre hg
      have HM := Lib.hid (mark_call k (by omega))
      go_wp2_with fail
      refine (HM.out _).mono ?_
      rintro e w3 ⟨rfl, hb3⟩
      have ho1 := own_stored HOE.out (k * 2) (.int .i64 (1 + 2 * (k : Int)))
      have ho3 := own_below ho1 hb3
      have d1 := own_cell ho3 (j := k * 2 + 1) (u := .string ⟨((partM l k)[k]'(by rw [HPL.out]; exact hlt)).text.toArray⟩) (by
        rw [List.getElem?_set_ne (by omega)]
        have := (evCs_at (partM l k) k (by rw [HPL.out]; exact hlt)).2
        rw [Nat.mul_comm] at this; exact this)
      have e1 := own_free ho3 (k * 2 + 1)
      have HO4 := Lib.hid (mark_row hlt HPL.out ho3)
      have HG4 := Lib.hid (grown_set (kgrown_below (grown_set HG.out (g := g) (by rw [HV.out]; rfl) (k * 2) (.int .i64 (1 + 2 * (k : Int)))) hb3) (g := g) (by rw [HV.out]; rfl) (k * 2 + 1) (.string ⟨(markL (2 + 2 * k)).toArray⟩))
      clear ho1 ho3 hb3 c0 c1 f0 f1
      go_wp2
      go_roundw
      case rel => exact ⟨k + 1, by omega, by go_num, val_int (by omega), by rw [HV.out]; exact HO4.out, HG4.out⟩
      case measure => simp [intOf]; omega
    · obtain rfl : k = l.length := by omega
      have HOE := Lib.hid hoe
      clear hoe hg
      go_wp2
      go_ret
      refine ⟨rfl, ?_, ?_⟩
      · have := HOE.out
        rw [partM, List.drop_length, List.append_nil] at this
        rw [← HV.out]; exact this
      · rw [← HV.out]; exact HG.out
set_option maxRecDepth 100000 in
set_option maxHeartbeats 1100000 in
theorem held_any (v : Value) (n : Nat) (w : World) (lo B : Nat) (h : RE w lo B v (marks n)) (hB : B ≤ w.heap.size) (hn : n ≤ 1100000) :
    Calls Try.prog 36 #[v, .int .i64 1] w fun e w' => e = .returned (.int .i64 (1 + 2 * n)) ∧ Below w.heap.size w w' := by
  obtain ⟨a, cap, rfl⟩ := h.shape
  have H := Lib.hid h
  clear h
  rw [marks_len] at H
  rw [marks_len]
  go_enter Try.func36, Try.ntmps36
  go_wp2
  go_loopw [1, 5] (fun q j wr => ∃ k : Nat, k ≤ n ∧ j = .int .i64 k ∧ q = .int .i64 (1 + 2 * (k : Int)) ∧ Below w.heap.size w wr) (fun _ j _ => n - (intOf j).toNat)
  case atStart => exact ⟨0, Nat.zero_le _, rfl, rfl, Below.refl _ _⟩
  case round =>
    obtain ⟨k, hk, rfl, rfl, hb⟩ := hrel
    have HB := Lib.hid hb
    by_cases hlt : k < n
    · have hre := H.out.below (hb.mono hB)
      rw [show Value.slice a n cap = .slice a (marks n).length cap by rw [marks_len]] at hre
      obtain ⟨g, rfl, _, hgB, c0, c1⟩ := RE.at_ hre (k := k) (by rw [marks_len]; exact hlt)
      have hgl : g < wr.heap.size := by have := hb.size; omega
      rw [marks_at n k hlt] at c0 c1
      simp only [markE] at c0 c1
      have HM := Lib.hid (mark_call k (by omega))
      clear hb hre
      go_wp2_with fail
      go_region_with ((go_at_call 58; refine (HM.out _).mono ?_; rintro e w3 ⟨rfl, hb3⟩; have d1 := (hb3.cell (p := ⟨g, k * 2 + 1, none⟩) hgl).trans c1; have HB3 := Lib.hid (HB.out.drew.trans (hb3.mono HB.out.size)); clear hb3))
      all_goals
        clear d1 c0 c1
        go_wp2
        go_roundw
        case rel => exact ⟨k + 1, by omega, by go_num, val_int (by omega), HB3.out⟩
        case measure => simp [intOf]; omega
    · obtain rfl : k = n := by omega
      go_wp2
      go_ret
      exact ⟨rfl, HB.out⟩
end Go.Proofs.Ytplaagkcamjemaa
