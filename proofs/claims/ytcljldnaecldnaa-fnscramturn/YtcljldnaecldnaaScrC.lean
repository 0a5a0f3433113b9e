/- What noughts are written as, in the model. -/
import Derived.Test.YtcljldnaecldnaaScrA
import Derived.Laws.MakeOwn
import Derived.Laws.Tables
namespace Go.Proofs.Ytcljldnaecldnaa
open Go.ChangeShapes Go.WideShapes Go.ChangeAt Go.RowKit
/-- the row of noughts, as far as it is laid -/
def zeroA (n k : Nat) : Array Value := ((List.range n).map fun j => byteV (if j < k then 48 else 0)).toArray
theorem zero_none (n : Nat) : madeCells #[.int .u8 0] n = zeroA n 0 := by
  apply Array.ext'
  simp [madeCells, zeroA, byteV, Nat.mod_one]
theorem zero_set {n k : Nat} : (zeroA n k).setIfInBounds k (byteV 48) = zeroA n (k + 1) := by
  unfold zeroA
  apply Array.ext
  · simp
  · intro i h1 h2
    by_cases e : k = i
    · subst e; simp
    · have h3 : (i < k + 1) = (i < k) := by apply propext; omega
      simp [e, h3]
theorem zero_all (n : Nat) : (zeroA n n).toList = (List.replicate n (48 : UInt8)).map byteV := by
  unfold zeroA
  apply List.ext_getElem
  · simp
  · intro i h1 h2
    have hi : i < n := by simpa using h1
    simp [hi]
theorem noughts_ok {n : Nat} (h : n ≤ 1200) : okB (List.replicate n (48 : UInt8)) = true := by
  unfold okB
  rw [Bool.and_eq_true, decide_eq_true_iff, List.length_replicate]
  refine ⟨?_, h⟩
  rw [List.all_eq_true]
  intro x hx
  rw [(List.mem_replicate.1 hx).2]; rfl
def onesOkB (st many : Int) : Bool := stB st && (decide (0 ≤ many) && decide (many ≤ 1200))
theorem specOnes_no (st many : Int) (w : World) (h : onesOkB st many = false) :
    Calls Try.prog 20 #[.int .i64 st, .int .i64 many] w fun e w' => e = .returned (.string ⟨#[]⟩) ∧ w = w' := by
  cases h1 : stB st with
  | false =>
    clear h
    go_enter Try.func20, Try.ntmps20
    go_wp2_with (go_at_call 26; refine (l14State_any _ _).mono ?_; rintro e w' ⟨rfl, rfl⟩; rw [h1])
    go_ret
    exact ⟨rfl, rfl⟩
  | true =>
    unfold onesOkB at h
    rw [h1, Bool.true_and] at h
    have HM := Lib.hid h
    clear h
    go_enter Try.func20, Try.ntmps20
    go_wp2_with (first | (go_at_call 26; refine (l14State_any _ _).mono ?_; rintro e w' ⟨rfl, rfl⟩; rw [h1]) | (go_at_call 35; refine (sl1In_any _ _ _ _).mono ?_; rintro e w' ⟨rfl, rfl⟩; rw [HM.out]))
    go_ret
    exact ⟨rfl, rfl⟩
set_option maxRecDepth 100000 in
set_option maxHeartbeats 800000 in
theorem specOnes_yes (st n : Nat) (w : World) (hs : st < 128) (hn : n ≤ 1200) :
    Calls Try.prog 20 #[.int .i64 st, .int .i64 n] w fun e w' => e = .returned (.string ⟨(onesL st n).toArray⟩) ∧ Below w.heap.size w w' := by
  obtain ⟨i0, hi, hz0, hz1, hz2⟩ := info_parts info_u8
  have hmk : ∀ u : World, (Instr.makeSlice 22 (.int .i64 (n : Int)) (.int .i64 (n : Int))).run Try.prog u = .ok (.slice (some ⟨u.heap.size, 0, none⟩) n n) (u.alloc (.cells (madeCells #[.int .u8 0] n) 5)) := fun u => by
    have h := run_make (P := Try.prog) u 22 5 i0 (.int .u8 0) Try.underlying22 hi hz0 .i64 .i64 (n : Int) (n : Int) (by omega) (by omega) (by rw [hz2]; omega) (by omega)
    simpa [hz1, Value.cells] using h
  have HP0 := Lib.hid (zero_none n)
  have HS1 := Lib.hid (show stB st = true by unfold stB; rw [decide_eq_true (show 0 ≤ (st : Int) by omega), decide_eq_true (show (st : Int) ≤ 127 by omega)]; rfl)
  have HM := Lib.hid (show (decide (0 ≤ (n : Int)) && decide ((n : Int) ≤ 1200)) = true by rw [decide_eq_true (show 0 ≤ (n : Int) by omega), decide_eq_true (show (n : Int) ≤ 1200 by omega)]; rfl)
  clear hi hz0 hz1 hz2
  go_enter Try.func20, Try.ntmps20
  go_wp2_with (first | (go_at_call 26; refine (l14State_any _ _).mono ?_; rintro e w' ⟨rfl, rfl⟩; rw [HS1.out]) | (go_at_call 35; refine (sl1In_any _ _ _ _).mono ?_; rintro e w' ⟨rfl, rfl⟩; rw [HM.out]))
  clear hmk
  go_loopw [6] (fun i wr => ∃ j : Nat, j ≤ n ∧ i = .int .i64 j ∧ wr.heap[w.heap.size]? = some (.cells (zeroA n j) 5 (0, 0)) ∧ Below w.heap.size w wr) (fun i _ => n - (intOf i).toNat)
  case atStart => exact ⟨0, by omega, rfl, by rw [← HP0.out]; exact heap_alloc_new w _, (Below.refl _ _).alloc (Nat.le_refl _) _⟩
  case round =>
    obtain ⟨j, hj, rfl, hh, hb⟩ := hrel
    have HH := Lib.hid hh
    have HB := Lib.hid hb
    by_cases hlt : j < n
    · have c0 : wr.cell? ⟨w.heap.size, j, none⟩ = some (.int .u8 0) := by
        rw [cell_of_row wr _ j _ _ _ hh]
        unfold zeroA byteV
        simp [hlt]
      have f0 : wr.frozen? ⟨w.heap.size, j, none⟩ = false := frozen_of_row wr _ j _ _ hh
      clear hh hb
      go_wp2
      go_roundw
      case rel =>
        refine ⟨j + 1, by omega, by go_num, ?_, HB.out.setCell (p := ⟨w.heap.size, j, none⟩) (Nat.le_refl _) _⟩
        rw [setCell_eq_setRow _ _ _ _ _ (0, 0) _ HH.out]
        rw [show (Value.int .u8 48) = byteV 48 from rfl, zero_set]
        exact setRow_heap _ _ _ _ _ (0, 0) HH.out
      case measure => simp [intOf]; omega
    · obtain rfl : j = n := by omega
      have HO := Lib.hid (show OB 5 wr w.heap.size (.slice (some ⟨w.heap.size, 0, none⟩) (List.replicate j (48 : UInt8)).length j) (List.replicate j 48) from .inr ⟨w.heap.size, j, _, (0, 0), rfl, Nat.le_refl _, hh, .inl rfl, by simp, by unfold maxLen; omega, by simp [zeroA], by rw [List.length_replicate, List.take_of_length_le (by simp [zeroA]), zero_all]⟩)
      have HL := Lib.hid (List.length_replicate (n := j) (a := (48 : UInt8)))
      clear hh hb
      rw [HL.out] at HO
      go_wp2_with (refine wpList_string_of_OB _ rfl 22 9 5 _ rfl w.heap.size _ _ rfl Try.underlying22 Try.underlying5 Try.underlying9 HO.out ?_)
      refine (specScramPut_yes st ⟨(List.replicate j 48).toArray⟩ _ hs (noughts_ok hn)).mono ?_
      rintro e w2 ⟨rfl, hb2⟩
      have HB2 := Lib.hid (HB.out.trans (hb2.mono HB.out.size))
      clear hb2
      go_wp2
      go_ret
      exact ⟨rfl, HB2.out⟩
def onesWB (st many : Int) : ByteArray := if onesOkB st many then ⟨(onesL st.toNat many.toNat).toArray⟩ else ⟨#[]⟩
theorem specOnes_any (st many : Int) (w : World) :
    Calls Try.prog 20 #[.int .i64 st, .int .i64 many] w fun e w' => e = .returned (.string (onesWB st many)) ∧ Below w.heap.size w w' := by
  cases hok : onesOkB st many with
  | false =>
    refine (specOnes_no st many w hok).mono ?_
    rintro e w' ⟨rfl, rfl⟩
    exact ⟨by unfold onesWB; rw [if_neg (by rw [hok]; decide)], Below.refl _ _⟩
  | true =>
    have h := hok
    unfold onesOkB stB at h
    rw [Bool.and_eq_true, Bool.and_eq_true, Bool.and_eq_true, decide_eq_true_iff, decide_eq_true_iff, decide_eq_true_iff, decide_eq_true_iff] at h
    obtain ⟨⟨h1, h2⟩, h3, h4⟩ := h
    obtain ⟨s, rfl⟩ := Int.eq_ofNat_of_zero_le h1
    obtain ⟨n, rfl⟩ := Int.eq_ofNat_of_zero_le h3
    refine (specOnes_yes s n w (by omega) (by omega)).mono ?_
    rintro e w' ⟨rfl, hb⟩
    exact ⟨by unfold onesWB; rw [if_pos hok]; rfl, hb⟩
end Go.Proofs.Ytcljldnaecldnaa
