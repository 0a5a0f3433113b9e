/- The blocks that bytes are cut into: plainly, and in the program. -/
import Derived.Test.YtfojlpnnhghcbaaIdx
import Derived.Test.YtfojlpnnhghcbaaKitBits
import Derived.RegionTactic
namespace Go.Proofs.Ytfojlpnnhghcbaa
open Go.ChangeShapes Go.WideShapes Go.ChangeAt Go.RowKit
/-- how many bytes the first block has -/
def blkN (l : List UInt8) : Nat := ((l.take 254).takeWhile (· != 0)).length
/-- how many bytes are done with the first block -/
def stepN (l : List UInt8) : Nat := if blkN l < 254 then blkN l + 1 else blkN l
theorem takeWhile_le (p : UInt8 → Bool) (l : List UInt8) : (l.takeWhile p).length ≤ l.length := (List.takeWhile_prefix p).length_le
theorem blkN_le (l : List UInt8) : blkN l ≤ 254 ∧ blkN l ≤ l.length := by
  have h := takeWhile_le (· != 0) (l.take 254)
  rw [List.length_take] at h
  unfold blkN
  omega
theorem stepN_pos (l : List UInt8) : 1 ≤ stepN l := by
  have := blkN_le l
  unfold stepN; split <;> omega
/-- the blocks' bytes, one by one -/
def pcs (l : List UInt8) : List (List UInt8) := l.take (blkN l) :: if blkN l < l.length then pcs (l.drop (stepN l)) else []
termination_by l.length
decreasing_by
  have := stepN_pos l
  simp only [List.length_drop]; omega
def putB (p : List UInt8) : List UInt8 := UInt8.ofNat (p.length + 1) :: p
def cob (l : List UInt8) : List UInt8 := (pcs l).flatMap putB
theorem pcs_last {l : List UInt8} (h : l.length ≤ blkN l) : pcs l = [l] := by
  rw [pcs, if_neg (by omega), List.take_of_length_le h]
theorem pcs_more {l : List UInt8} (h : blkN l < l.length) : pcs l = l.take (blkN l) :: pcs (l.drop (stepN l)) := by
  rw [pcs, if_pos h]
theorem cob_last {l : List UInt8} (h : l.length ≤ blkN l) : cob l = putB l := by rw [cob, pcs_last h]; simp
theorem cob_more {l : List UInt8} (h : blkN l < l.length) : cob l = putB (l.take (blkN l)) ++ cob (l.drop (stepN l)) := by rw [cob, pcs_more h]; simp [cob]
theorem pcs_le (l : List UInt8) : (pcs l).length ≤ l.length + 1 := by
  induction hn : l.length using Nat.strongRecOn generalizing l with
  | _ n ih =>
    by_cases h : blkN l < l.length
    · rw [pcs_more h]
      have h1 := stepN_pos l
      have h2 := ih (l.drop (stepN l)).length (by rw [List.length_drop]; omega) _ rfl
      rw [List.length_drop] at h2
      simp only [List.length_cons]; omega
    · rw [pcs_last (by omega)]; simp
/-- what lies at the end of a block: a nought, where it is not full, and not the last -/
theorem idx_takeWhile (l : List UInt8) : Lib.indexByte l 0 = if (l.takeWhile (· != 0)).length < l.length then ((l.takeWhile (· != 0)).length : Int) else -1 := by
  induction l with
  | nil => rfl
  | cons b l ih =>
    by_cases hb : b = 0
    · subst hb; simp [Lib.indexByte]
    · have h1 : (b == 0) = false := beq_eq_false_iff_ne.2 hb
      have h2 : (b != 0) = true := by simp [hb]
      rw [Lib.indexByte, h1, List.takeWhile_cons, if_pos h2, ih]
      simp only [List.length_cons, Nat.add_lt_add_iff_right, Bool.false_eq_true, if_false]
      split
      · have : (((l.takeWhile (· != 0)).length : Int) == -1) = false := beq_eq_false_iff_ne.2 (by omega)
        rw [this]; simp
      · rfl
theorem idx_blk (l : List UInt8) : Lib.indexByte (l.take 254) 0 = if blkN l < 254 ∧ blkN l < l.length then (blkN l : Int) else -1 := by
  rw [idx_takeWhile, List.length_take]
  show (if blkN l < min 254 l.length then _ else _) = _
  congr 1
  simp only [eq_iff_iff]
  omega
theorem ext_to (s : ByteArray) (k : Nat) : s.extract 0 k = ⟨(s.data.toList.take k).toArray⟩ := by
  rw [← Lib.mk_data (s.extract 0 k)]; congr 2; simp
theorem ext_from (s : ByteArray) (k : Nat) : s.extract k s.size = ⟨(s.data.toList.drop k).toArray⟩ := by
  rw [← Lib.mk_data (s.extract k s.size)]; congr 2; simp [List.take_of_length_le]
theorem ext_full (s : ByteArray) : s.extract 0 s.size = s := by
  rw [ext_to, List.take_of_length_le (by simp), Lib.mk_data]
theorem ext_none (s : ByteArray) : s.extract s.size s.size = ByteArray.empty := by
  rw [ext_from, List.drop_eq_nil_of_le (by simp)]; rfl
theorem slice_to (s : ByteArray) (k : Nat) (hk : k ≤ s.size) (u : World) : (Instr.slice 9 (.string s) none (some (.int .i64 (k : Int))) none).run Try.prog u = .ok (.string (s.extract 0 k)) u := by
  rw [run_slice_string_to_if u 9 s .i64 (k : Int) Try.underlying9]
  simp; omega
theorem slice_from (s : ByteArray) (k : Nat) (hk : k ≤ s.size) (u : World) : (Instr.slice 9 (.string s) (some (.int .i64 (k : Int))) none none).run Try.prog u = .ok (.string (s.extract k s.size)) u := by
  rw [run_slice_string_from_if u 9 s .i64 (k : Int) Try.underlying9]
  simp; omega
set_option maxHeartbeats 1000000 in
theorem cutPiece_any (s : ByteArray) (w : World) (hs : s.size ≤ 1000000) :
    Calls Try.prog 146 #[.string s] w fun e w' => e = .returned (.tuple #[.string ⟨(s.data.toList.take (blkN s.data.toList)).toArray⟩, .string ⟨(s.data.toList.drop (stepN s.data.toList)).toArray⟩, .bool (decide (blkN s.data.toList < s.size))]) ∧ Below w.heap.size w w' ∧ w.heap = w'.heap := by
  have HSL := Lib.hid (size_list s)
  have hbl := blkN_le s.data.toList
  rw [HSL.out] at hbl
  have hidx0 := idx_blk s.data.toList
  rw [HSL.out] at hidx0
  obtain ⟨n, hn⟩ : ∃ n, n = blkN s.data.toList := ⟨_, rfl⟩
  rw [← hn] at hidx0 hbl ⊢
  by_cases hA : s.size ≤ 254
  · have hAi : (s.size : Int) ≤ 254 := by omega
    rw [List.take_of_length_le (by rw [HSL.out]; exact hA)] at hidx0
    by_cases hz : n < 254 ∧ n < s.size
    · have HIdx := Lib.hid (show Lib.indexByte s.data.toList 0 = (n : Int) by rw [hidx0, if_pos hz])
      clear hidx0
      have HST := Lib.hid (show stepN s.data.toList = n + 1 by rw [stepN, ← hn, if_pos hz.1])
      have s1 := slice_to s n (by omega)
      have s2 := slice_from s (n + 1) (by omega)
      have hd : (decide (n < s.size)) = true := by simp; omega
      have hni : IntKind.i64.wrap ((n : Int) + 1) = ((n + 1 : Nat) : Int) := by rw [IntKind.wrap_i64]; omega
      have hni2 : (n : Int) + 1 = ((n + 1 : Nat) : Int) := by omega
      rw [HST.out, hd, ← ext_to, ← ext_from]
      clear hn hni2
      go_enter Try.func146, Try.ntmps146
      go_wp2_with fail
      all_goals first | (exfalso; omega) | skip
      refine (idx_any _ _ _).mono ?_
      rintro e w' ⟨rfl, rfl⟩
      rw [show ((0 : Int).toNat.toUInt8) = 0 from rfl, HIdx.out]
      go_wp2
      go_region
      all_goals go_wp2
      all_goals go_ret3
      all_goals exact ⟨rfl, (Below.refl _ _).drew, rfl⟩
    · have HIdx := Lib.hid (show Lib.indexByte s.data.toList 0 = -1 by rw [hidx0, if_neg hz])
      clear hidx0
      have hnm : n = s.size := by omega
      have HST := Lib.hid (show (⟨(s.data.toList.drop (stepN s.data.toList)).toArray⟩ : ByteArray) = s.extract n s.size by
        rw [ext_from]; congr 2; rw [stepN, ← hn]; split
        · rw [List.drop_eq_nil_of_le (by rw [HSL.out]; omega), List.drop_eq_nil_of_le (by rw [HSL.out]; omega)]
        · rfl)
      have s1 := slice_to s n (by omega)
      have s2 := slice_from s n (by omega)
      have hdd : decide (n < s.size) = false := by simp; omega
      rw [HST.out, hdd, ← ext_to]
      clear hn hdd
      subst hnm
      try rw [ext_full, ext_none]
      go_enter Try.func146, Try.ntmps146
      go_wp2_with fail
      all_goals first | (exfalso; omega) | skip
      refine (idx_any _ _ _).mono ?_
      rintro e w' ⟨rfl, rfl⟩
      rw [show ((0 : Int).toNat.toUInt8) = 0 from rfl, HIdx.out]
      go_wp2
      go_region
      all_goals go_wp2
      all_goals go_ret3
      all_goals exact ⟨rfl, (Below.refl _ _).drew, rfl⟩
  · have hBi : (254 : Int) < s.size := by omega
    by_cases hz : n < 254 ∧ n < s.size
    · have HIdx := Lib.hid (show Lib.indexByte (s.extract 0 254).data.toList 0 = (n : Int) by rw [ext_to]; simp only []; rw [hidx0, if_pos hz])
      clear hidx0
      have HST := Lib.hid (show stepN s.data.toList = n + 1 by rw [stepN, ← hn, if_pos hz.1])
      have s1 := slice_to s n (by omega)
      have s2 := slice_from s (n + 1) (by omega)
      have hd : (decide (n < s.size)) = true := by simp; omega
      have hni : IntKind.i64.wrap ((n : Int) + 1) = ((n + 1 : Nat) : Int) := by rw [IntKind.wrap_i64]; omega
      have hni2 : (n : Int) + 1 = ((n + 1 : Nat) : Int) := by omega
      rw [HST.out, hd, ← ext_to, ← ext_from]
      clear hn hni2
      go_enter Try.func146, Try.ntmps146
      go_wp2_with fail
      all_goals first | (exfalso; omega) | skip
      refine (idx_any _ _ _).mono ?_
      rintro e w' ⟨rfl, rfl⟩
      rw [show ((0 : Int).toNat.toUInt8) = 0 from rfl, HIdx.out]
      go_wp2
      go_region
      all_goals go_wp2
      all_goals go_ret3
      all_goals exact ⟨rfl, (Below.refl _ _).drew, rfl⟩
    · have HIdx := Lib.hid (show Lib.indexByte (s.extract 0 254).data.toList 0 = -1 by rw [ext_to]; simp only []; rw [hidx0, if_neg hz])
      clear hidx0
      have hnm : n = 254 := by omega
      have HST := Lib.hid (show (⟨(s.data.toList.drop (stepN s.data.toList)).toArray⟩ : ByteArray) = s.extract n s.size by
        rw [ext_from]; congr 2; rw [stepN, ← hn]; split
        · rw [List.drop_eq_nil_of_le (by rw [HSL.out]; omega), List.drop_eq_nil_of_le (by rw [HSL.out]; omega)]
        · rfl)
      have s1 := slice_to s n (by omega)
      have s2 := slice_from s n (by omega)
      have hdd : decide (n < s.size) = true := by simp; omega
      rw [HST.out, hdd, ← ext_to]
      clear hn hdd
      subst hnm
      try rw [ext_full, ext_none]
      go_enter Try.func146, Try.ntmps146
      go_wp2_with fail
      all_goals first | (exfalso; omega) | skip
      refine (idx_any _ _ _).mono ?_
      rintro e w' ⟨rfl, rfl⟩
      rw [show ((0 : Int).toNat.toUInt8) = 0 from rfl, HIdx.out]
      go_wp2
      go_region
      all_goals go_wp2
      all_goals go_ret3
      all_goals exact ⟨rfl, (Below.refl _ _).drew, rfl⟩
end Go.Proofs.Ytfojlpnnhghcbaa
