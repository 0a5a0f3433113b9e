/- The marks of told texts that begin anywhere. -/
import Derived.Test.YtplaagkcamjemaaTEvK
namespace Go.Proofs.Ytplaagkcamjemaa
open Go.ChangeShapes Go.WideShapes Go.ChangeAt Go.RowKit
/-- the mark of element i -/
def markEK (k0 i : Nat) : Ev := ⟨(k0 : Int) + 2 * i, markL (k0 + 1 + 2 * i)⟩
def marksK (k0 n : Nat) : List Ev := (List.range n).map (markEK k0)
theorem marksK_len (k0 n : Nat) : (marksK k0 n).length = n := by simp [marksK]
theorem marksK_at (k0 n k : Nat) (h : k < n) : (marksK k0 n)[k]'(by rw [marksK_len]; exact h) = markEK k0 k := by simp [marksK]
def partMK (k0 : Nat) (l : List Ev) (k : Nat) : List Ev := marksK k0 k ++ l.drop k
theorem partMK_len (k0 : Nat) (l : List Ev) (k : Nat) (h : k ≤ l.length) : (partMK k0 l k).length = l.length := by simp [partMK, marksK_len]; omega
theorem partMK_set (k0 : Nat) (l : List Ev) (k : Nat) (h : k < l.length) : (partMK k0 l k).set k (markEK k0 k) = partMK k0 l (k + 1) := by
  unfold partMK
  rw [List.set_append_right _ _ (by rw [marksK_len]; exact Nat.le_refl _), marksK_len, Nat.sub_self, List.drop_eq_getElem_cons h, List.set_cons_zero]
  simp [marksK, List.range_succ]
def MarkPostK (k0 : Nat) (w : World) (base : Nat) (v : Value) (n : Nat) (e : Ending) (w' : World) : Prop := e = .returned (.int .i64 ((k0 : Int) + 2 * n)) ∧ OE w' base v (marksK k0 n) ∧ w.grownBy w' v.ownBlock
theorem markK_call (k0 k : Nat) (hk0 : 1 ≤ k0 ∧ k0 ≤ 1100000) (hk : k ≤ 1100000) (w : World) :
    Calls Try.prog 58 #[.int .i64 ((k0 : Int) + 2 * (k : Int) + 1)] w fun e w' => e = .returned (.string ⟨(markL (k0 + 1 + 2 * k)).toArray⟩) ∧ Below w.heap.size w w' := by
  have h := markText_any (k0 + 1 + 2 * k) w (by omega) (by omega)
  rw [show ((k0 + 1 + 2 * k : Nat) : Int) = (k0 : Int) + 2 * (k : Int) + 1 by omega] at h
  exact h
theorem markK_row {k0 : Nat} {w : World} {base g n cap k : Nat} {l : List Ev} (hlt : k < l.length) (hpl : (partMK k0 l k).length = l.length)
    (h : w.ownsRow base 32 2 (.slice (some ⟨g, 0, none⟩) n cap) (partMK k0 l k).length ((evCs (partMK k0 l k)).set (k * 2) (.int .i64 ((k0 : Int) + 2 * (k : Int))))) :
    OE (w.setCell ⟨g, k * 2 + 1, none⟩ (.string ⟨(markL (k0 + 1 + 2 * k)).toArray⟩)) base (.slice (some ⟨g, 0, none⟩) n cap) (partMK k0 l (k + 1)) := by
  have h1 := own_stored h (k * 2 + 1) (.string ⟨(markL (k0 + 1 + 2 * k)).toArray⟩)
  have e := evCs_set (partMK k0 l k) k (markEK k0 k) (by rw [hpl]; exact hlt)
  have e' : ((evCs (partMK k0 l k)).set (k * 2) (.int .i64 ((k0 : Int) + 2 * (k : Int)))).set (k * 2 + 1) (.string ⟨(markL (k0 + 1 + 2 * k)).toArray⟩) = evCs (partMK k0 l (k + 1)) := by
    rw [← partMK_set k0 l k hlt]; exact e
  unfold OE
  rw [← e', ← partMK_set k0 l k hlt, List.length_set]
  exact h1
set_option maxRecDepth 100000 in
set_option maxHeartbeats 1100000 in
theorem markK_any (k0 : Nat) (v : Value) (l : List Ev) (w : World) (base : Nat) (hk0 : 1 ≤ k0 ∧ k0 ≤ 1100000) (h : OE w base v l) (hl : l.length ≤ 1100000) :
    Calls Try.prog 34 #[v, .int .i64 k0] w (MarkPostK k0 w base v l.length) := by
  obtain ⟨a, cap, hv⟩ := h.reads.shape
  have H := Lib.hid h
  have HV := Lib.hid hv
  rw [hv]
  clear h hv
  go_enter Try.func34, Try.ntmps34
  go_wp2
  go_loopw [1, 5] (fun q j wr => ∃ k : Nat, k ≤ l.length ∧ j = .int .i64 k ∧ q = .int .i64 ((k0 : Int) + 2 * (k : Int)) ∧ OE wr base v (partMK k0 l k) ∧ w.grownBy wr v.ownBlock) (fun _ j _ => l.length - (intOf j).toNat)
  case atStart => exact ⟨0, Nat.zero_le _, rfl, rfl, H.out, ⟨rfl, rfl, rfl, Nat.le_refl _, fun _ _ _ => rfl⟩⟩
  case round =>
    obtain ⟨k, hk, rfl, rfl, hoe, hg⟩ := hrel
    have HG := Lib.hid hg
    by_cases hlt : k < l.length
    · have HPL := Lib.hid (partMK_len k0 l k hk)
      have hre := hoe.reads
      rw [HV.out] at hre hoe
      rw [show l.length = (partMK k0 l k).length from HPL.out.symm] at hre
      obtain ⟨g, ha, hg1, hg2, c0, c1⟩ := RE.at_ hre (k := k) (by rw [HPL.out]; exact hlt)
      subst ha
      have f0 := own_free hoe (k * 2)
      have f1 := own_free hoe (k * 2 + 1)
      have HOE := Lib.hid hoe
      clear hoe hre hg
      have HM := Lib.hid (markK_call k0 k hk0 (by omega))
      go_wp2_with fail
      refine (HM.out _).mono ?_
      rintro e w3 ⟨rfl, hb3⟩
      have ho1 := own_stored HOE.out (k * 2) (.int .i64 ((k0 : Int) + 2 * (k : Int)))
      have ho3 := own_below ho1 hb3
      have d1 := own_cell ho3 (j := k * 2 + 1) (u := .string ⟨((partMK k0 l k)[k]'(by rw [HPL.out]; exact hlt)).text.toArray⟩) (by
        rw [List.getElem?_set_ne (by omega)]
        have := (evCs_at (partMK k0 l k) k (by rw [HPL.out]; exact hlt)).2
        rw [Nat.mul_comm] at this; exact this)
      have e1 := own_free ho3 (k * 2 + 1)
      have HO4 := Lib.hid (markK_row hlt HPL.out ho3)
      have HG4 := Lib.hid (grown_set (kgrown_below (grown_set HG.out (g := g) (by rw [HV.out]; rfl) (k * 2) (.int .i64 ((k0 : Int) + 2 * (k : Int)))) hb3) (g := g) (by rw [HV.out]; rfl) (k * 2 + 1) (.string ⟨(markL (k0 + 1 + 2 * k)).toArray⟩))
      clear ho1 ho3 hb3 c0 c1 f0 f1
      go_wp2
      go_roundw
      case rel => exact ⟨k + 1, by omega, by go_num, val_int (by omega), by rw [HV.out]; exact HO4.out, HG4.out⟩
      case measure => simp [intOf]; omega
    · obtain rfl : k = l.length := by omega
      have HOE := Lib.hid hoe
      clear hoe hg
      go_wp2
      go_ret
      refine ⟨rfl, ?_, ?_⟩
      · have := HOE.out
        rw [partMK, List.drop_length, List.append_nil] at this
        rw [← HV.out]; exact this
      · rw [← HV.out]; exact HG.out
set_option maxRecDepth 100000 in
set_option maxHeartbeats 1100000 in
theorem heldK_any (k0 : Nat) (v : Value) (n : Nat) (w : World) (lo B : Nat) (hk0 : 1 ≤ k0 ∧ k0 ≤ 1100000) (h : RE w lo B v (marksK k0 n)) (hB : B ≤ w.heap.size) (hn : n ≤ 1100000) :
    Calls Try.prog 36 #[v, .int .i64 k0] w fun e w' => e = .returned (.int .i64 ((k0 : Int) + 2 * n)) ∧ Below w.heap.size w w' := by
  obtain ⟨a, cap, rfl⟩ := h.shape
  have H := Lib.hid h
  clear h
  rw [marksK_len] at H
  rw [marksK_len]
  go_enter Try.func36, Try.ntmps36
  go_wp2
  go_loopw [1, 5] (fun q j wr => ∃ k : Nat, k ≤ n ∧ j = .int .i64 k ∧ q = .int .i64 ((k0 : Int) + 2 * (k : Int)) ∧ Below w.heap.size w wr) (fun _ j _ => n - (intOf j).toNat)
  case atStart => exact ⟨0, Nat.zero_le _, rfl, rfl, Below.refl _ _⟩
  case round =>
    obtain ⟨k, hk, rfl, rfl, hb⟩ := hrel
    have HB := Lib.hid hb
    by_cases hlt : k < n
    · have hre := H.out.below (hb.mono hB)
      rw [show Value.slice a n cap = .slice a (marksK k0 n).length cap by rw [marksK_len]] at hre
      obtain ⟨g, rfl, _, hgB, c0, c1⟩ := RE.at_ hre (k := k) (by rw [marksK_len]; exact hlt)
      have hgl : g < wr.heap.size := by have := hb.size; omega
      rw [marksK_at k0 n k hlt] at c0 c1
      simp only [markEK] at c0 c1
      have HM := Lib.hid (markK_call k0 k hk0 (by omega))
      clear hb hre
      go_wp2_with fail
      go_region_with ((go_at_call 58; refine (HM.out _).mono ?_; rintro e w3 ⟨rfl, hb3⟩; have d1 := (hb3.cell (p := ⟨g, k * 2 + 1, none⟩) hgl).trans c1; have HB3 := Lib.hid (HB.out.drew.trans (hb3.mono HB.out.size)); clear hb3))
      all_goals
        clear d1 c0 c1
        go_wp2
        go_roundw
        case rel => exact ⟨k + 1, by omega, by go_num, val_int (by omega), HB3.out⟩
        case measure => simp [intOf]; omega
    · obtain rfl : k = n := by omega
      go_wp2
      go_ret
      exact ⟨rfl, HB.out⟩
end Go.Proofs.Ytplaagkcamjemaa
