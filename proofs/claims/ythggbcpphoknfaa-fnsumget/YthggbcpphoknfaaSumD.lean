/- Contracts of SumRun, SumOf in the program and in the model. -/
import Derived.Test.YthggbcpphoknfaaSumC
namespace Go.Proofs.Ythggbcpphoknfaa
open Go.ChangeShapes Go.WideShapes Go.ChangeAt Go.RowKit

theorem kind_or {k : Int} (h : kindB k = true) : k = 2 ∨ k = 4 := by simpa [kindB] using h
theorem allOf_nat (k : Int) : ∃ n : Nat, allOf k = n ∧ n < 2 ^ 32 ∧ (k = 2 → n = 65535) ∧ (k ≠ 2 → n = 4294967295) := by
  unfold allOf
  by_cases h : k = 2
  · exact ⟨65535, by simp [h], by omega, fun _ => rfl, fun h' => absurd h h'⟩
  · exact ⟨4294967295, by simp [h], by omega, fun h' => absurd h' h, fun _ => rfl⟩

set_option maxRecDepth 100000 in
set_option maxHeartbeats 1000000 in
theorem implRun_yes (kd : Int) (r : Nat) (s : ByteArray) (w : World) (hk : kindB kd = true) (hr : (r : Int) ≤ allOf kd) (hs : s.size ≤ maxLen) :
    Calls Try.prog 19 #[.int .i64 kd, .int .i64 r, .string s] w fun e w' => e = .returned (.int .i64 (crc (polyN kd) r s.data.toList)) ∧ Below w.heap.size w w' := by
  unfold maxLen at hs
  obtain ⟨all, hall, hal, _, _⟩ := allOf_nat kd
  have hp := polyN_lt kd
  have hr' : (r : Int) ≤ all := by rw [← hall]; exact hr
  have hr32 : r < 2 ^ 32 := by omega
  have h0 : decide ((r : Int) < 0) = false := by simp
  have h1 : decide ((all : Int) < (r : Int)) = false := by simp; omega
  have h1' : decide (all < r) = false := by simp; omega
  have HALL := Lib.hid hall
  have HP := Lib.hid (polyI_eq kd)
  clear hall hr
  have hz := zero_table (polyN kd)
  go_enter Try.func19, Try.ntmps19
  go_wp2_with (first | (go_at_call 37; refine (polyOf_yes _ _ hk).mono ?_; rintro e w' ⟨rfl, rfl⟩; rw [HP.out]) | (go_at_call 18; refine (implStart_yes _ _ hk).mono ?_; rintro e w' ⟨rfl, rfl⟩; rw [HALL.out]))
  refine (table_any _ _ hp).mono ?_
  rintro e w1 ⟨rfl, hb1⟩
  have H2 := Lib.hid (heap_alloc_new w1 (.cells (tabCells (polyN kd) 0) 48))
  have HB := Lib.hid hb1
  have H3 := Lib.hid (setRow_heap _ _ _ (tabCells (polyN kd) 256) _ _ H2.out)
  clear hb1
  go_wp2_with (refine wpList_store_row rfl 48 _ _ rfl w1.heap.size (tabCells (polyN kd) 256) rfl rfl 48 (tabCells (polyN kd) 0) H2.out info_table ((tab_size _ _).trans (tab_size _ _).symm) (tab_one _ 256) ?_)
  have HBW := Lib.hid (below_setRow (HB.out.trans ((Below.refl w1.heap.size w1).alloc (Nat.le_refl _) (.cells (tabCells (polyN kd) 0) 48) |>.mono HB.out.size)) HB.out.size (tabCells (polyN kd) 256))
  generalize (w1.alloc (.cells (tabCells (polyN kd) 0) 48)).setRow w1.heap.size (tabCells (polyN kd) 256) = w2 at *
  clear hz
  go_loop [10, 11, 35] (fun x _ i => ∃ k : Nat, k ≤ s.size ∧ i = .int .i64 k ∧ x = .int .u32 (crc (polyN kd) r (s.data.toList.take k))) (fun _ _ i => s.size - (intOf i).toNat)
  case atStart => exact ⟨0, Nat.zero_le _, rfl, rfl⟩
  case round =>
    obtain ⟨k, hk, rfl, rfl⟩ := hrel
    have hcl : crc (polyN kd) r (s.data.toList.take k) < 2 ^ 32 := crc_lt hp (by omega) _ hr32
    by_cases hlt : k < s.size
    · have HS := Lib.hid (show crc (polyN kd) r (s.data.toList.take (k + 1)) = crcB (polyN kd) (crc (polyN kd) r (s.data.toList.take k)) s[k] by rw [take_snoc s k hlt, crc_snoc]; rfl)
      go_wp2_with (go_at_call 39; refine (take_any (polyN kd) _ w1.heap.size _ _ _ hcl hp H3.out).mono ?_; rintro e w' ⟨rfl, rfl⟩)
      go_round
      case rel => exact ⟨k + 1, by omega, by go_num, val_int (by rw [HS.out])⟩
      case measure => simp [intOf]; omega
    · go_wp2
      go_ret
      exact ⟨ret_int (by rw [List.take_of_length_le (by simp; omega)]), HBW.out⟩

def runOkB (kd sum : Int) : Bool := kindB kd && (decide (0 ≤ sum) && decide (sum ≤ allOf kd))
set_option maxRecDepth 100000 in
theorem implRun_no (kd sum : Int) (s : ByteArray) (w : World) (h : runOkB kd sum = false) :
    Calls Try.prog 19 #[.int .i64 kd, .int .i64 sum, .string s] w fun e w' => e = .returned (.int .i64 (-1)) ∧ w = w' := by
  cases hk : kindB kd with
  | false =>
    have HK := Lib.hid hk
    clear hk h
    go_enter Try.func19, Try.ntmps19
    go_wp2_with (go_at_call 37; refine (polyOf_no _ _ HK.out).mono ?_; rintro e w' ⟨rfl, rfl⟩)
    go_ret
    exact ⟨rfl, rfl⟩
  | true =>
    have h' : 0 ≤ sum → allOf kd < sum := by simpa [runOkB, hk] using h
    have HK := Lib.hid hk
    clear hk h
    by_cases h0 : sum < 0
    · clear h'
      go_enter Try.func19, Try.ntmps19
      go_wp2_with (go_at_call 37; refine (polyOf_yes _ _ HK.out).mono ?_; rintro e w' ⟨rfl, rfl⟩)
      go_ret
      exact ⟨rfl, rfl⟩
    · have h1 : allOf kd < sum := h' (by omega)
      clear h'
      go_enter Try.func19, Try.ntmps19
      go_wp2_with (first | (go_at_call 37; refine (polyOf_yes _ _ HK.out).mono ?_; rintro e w' ⟨rfl, rfl⟩) | (go_at_call 18; refine (implStart_yes _ _ HK.out).mono ?_; rintro e w' ⟨rfl, rfl⟩))
      go_ret
      exact ⟨rfl, rfl⟩

theorem specRun_no (kd sum : Int) (s : ByteArray) (w : World) (h : runOkB kd sum = false) :
    Calls Try.prog 21 #[.int .i64 kd, .int .i64 sum, .string s] w fun e w' => e = .returned (.int .i64 (-1)) ∧ w = w' := by
  cases hk : kindB kd with
  | false =>
    clear h
    go_enter Try.func21, Try.ntmps21
    go_wp2_with (go_at_call 35; refine (l1Kind_any _ _).mono ?_; rintro e w' ⟨rfl, rfl⟩)
    go_ret
    exact ⟨rfl, rfl⟩
  | true =>
    have h' : inB sum 0 (allOf kd) = false := by simpa [runOkB, hk, inB] using h
    clear h
    go_enter Try.func21, Try.ntmps21
    go_wp2_with (first | (go_at_call 35; refine (l1Kind_any _ _).mono ?_; rintro e w' ⟨rfl, rfl⟩) | (go_at_call 43; refine (l1All_any _ _).mono ?_; rintro e w' ⟨rfl, rfl⟩) | (go_at_call 42; refine (l1In_any _ _ _ _).mono ?_; rintro e w' ⟨rfl, rfl⟩))
    go_ret
    exact ⟨rfl, rfl⟩
theorem specRun_yes (kd : Int) (r : Nat) (s : ByteArray) (w : World) (hk : kindB kd = true) (hr : (r : Int) ≤ allOf kd) (hs : s.size ≤ maxLen) :
    Calls Try.prog 21 #[.int .i64 kd, .int .i64 r, .string s] w fun e w' => e = .returned (.int .i64 (crc (polyN kd) r s.data.toList)) ∧ w = w' := by
  have h' : inB r 0 (allOf kd) = true := by simp [inB, hr]
  have hr32 : r < 2 ^ 32 := by obtain ⟨all, hall, hal, _, _⟩ := allOf_nat kd; omega
  clear hr
  go_enter Try.func21, Try.ntmps21
  go_wp2_with (first | (go_at_call 35; refine (l1Kind_any _ _).mono ?_; rintro e w' ⟨rfl, rfl⟩) | (go_at_call 43; refine (l1All_any _ _).mono ?_; rintro e w' ⟨rfl, rfl⟩) | (go_at_call 42; refine (l1In_any _ _ _ _).mono ?_; rintro e w' ⟨rfl, rfl⟩) | (go_at_call 44; refine (l1Run_any _ _ _ _ hr32 hs).mono ?_; rintro e w' ⟨rfl, rfl⟩))
  go_ret
  exact ⟨rfl, rfl⟩

/-- the sum of bytes -/
def sumN (kd : Int) (l : List UInt8) : Nat := crc (polyN kd) (allOf kd).toNat l ^^^ (allOf kd).toNat
theorem sumN_lt (kd : Int) (l : List UInt8) : sumN kd l < 2 ^ 32 := by
  obtain ⟨all, hall, hal, _, _⟩ := allOf_nat kd
  unfold sumN
  rw [hall]
  exact Nat.xor_lt_two_pow (crc_lt (polyN_lt kd) (by omega) _ (by simpa using hal)) (by simpa using hal)
theorem sum_xor (kd : Int) (l : List UInt8) : bits .xor .i64 ((crc (polyN kd) (allOf kd).toNat l : Nat) : Int) (allOf kd) = (sumN kd l : Nat) := by
  obtain ⟨all, hall, hal, _, _⟩ := allOf_nat kd
  unfold sumN
  rw [hall, Int.toNat_natCast]
  have := crc_lt (polyN_lt kd) (by omega) l hal
  exact bits_xor_i64_nat _ _ (by omega) (by omega)
theorem runOk_iff {kd sum : Int} (h : runOkB kd sum = true) : kindB kd = true ∧ 0 ≤ sum ∧ sum ≤ allOf kd := by simpa [runOkB] using h
theorem runOk_all {kd : Int} (hk : kindB kd = true) : runOkB kd (allOf kd) = true := by
  obtain ⟨all, hall, _⟩ := allOf_nat kd
  simp [runOkB, hk]; omega
theorem implRun_ok (kd sum : Int) (s : ByteArray) (w : World) (h : runOkB kd sum = true) (hs : s.size ≤ maxLen) :
    Calls Try.prog 19 #[.int .i64 kd, .int .i64 sum, .string s] w fun e w' => e = .returned (.int .i64 (crc (polyN kd) sum.toNat s.data.toList)) ∧ Below w.heap.size w w' := by
  obtain ⟨hk, h0, h1⟩ := runOk_iff h
  obtain ⟨n, rfl⟩ := Int.eq_ofNat_of_zero_le h0
  rw [Int.toNat_natCast]
  exact implRun_yes kd n s w hk h1 hs
theorem specRun_ok (kd sum : Int) (s : ByteArray) (w : World) (h : runOkB kd sum = true) (hs : s.size ≤ maxLen) :
    Calls Try.prog 21 #[.int .i64 kd, .int .i64 sum, .string s] w fun e w' => e = .returned (.int .i64 (crc (polyN kd) sum.toNat s.data.toList)) ∧ w = w' := by
  obtain ⟨hk, h0, h1⟩ := runOk_iff h
  obtain ⟨n, rfl⟩ := Int.eq_ofNat_of_zero_le h0
  rw [Int.toNat_natCast]
  exact specRun_yes kd n s w hk h1 hs
theorem l1Run_all (kd : Int) (s : ByteArray) (w : World) (hs : s.size ≤ maxLen) :
    Calls Try.prog 44 #[.int .i64 kd, .int .i64 (allOf kd), .string s] w fun e w' => e = .returned (.int .i64 (crc (polyN kd) (allOf kd).toNat s.data.toList)) ∧ w = w' := by
  obtain ⟨all, hall, hal, _⟩ := allOf_nat kd
  rw [hall, Int.toNat_natCast]
  exact l1Run_any kd all s w hal hs
theorem implOf_yes (kd : Int) (s : ByteArray) (w : World) (hk : kindB kd = true) (hs : s.size ≤ maxLen) :
    Calls Try.prog 16 #[.int .i64 kd, .string s] w fun e w' => e = .returned (.int .i64 (sumN kd s.data.toList)) ∧ Below w.heap.size w w' := by
  have HX := Lib.hid (sum_xor kd s.data.toList)
  have h0 : 0 ≤ allOf kd := by obtain ⟨all, hall, _⟩ := allOf_nat kd; omega
  go_enter Try.func16, Try.ntmps16
  go_wp2_with (go_at_call 18; refine (implStart_yes _ _ hk).mono ?_; rintro e w' ⟨rfl, rfl⟩)
  refine (implRun_ok _ _ _ _ (runOk_all hk) hs).mono ?_
  rintro e w1 ⟨rfl, hb1⟩
  go_wp2
  go_ret
  exact ⟨ret_int HX.out, hb1⟩
theorem implOf_no (kd : Int) (s : ByteArray) (w : World) (hk : kindB kd = false) :
    Calls Try.prog 16 #[.int .i64 kd, .string s] w fun e w' => e = .returned (.int .i64 (-1)) ∧ w = w' := by
  go_enter Try.func16, Try.ntmps16
  go_wp2_with (go_at_call 18; refine (implStart_no _ _ hk).mono ?_; rintro e w' ⟨rfl, rfl⟩)
  go_ret
  exact ⟨rfl, rfl⟩
theorem l1Of_any (kd : Int) (s : ByteArray) (w : World) (hs : s.size ≤ maxLen) :
    Calls Try.prog 36 #[.int .i64 kd, .string s] w fun e w' => e = .returned (.int .i64 (sumN kd s.data.toList)) ∧ w = w' := by
  have HX := Lib.hid (sum_xor kd s.data.toList)
  go_enter Try.func36, Try.ntmps36
  go_wp2_with (first | (go_at_call 43; refine (l1All_any _ _).mono ?_; rintro e w' ⟨rfl, rfl⟩) | (go_at_call 44; refine (l1Run_all _ _ _ hs).mono ?_; rintro e w' ⟨rfl, rfl⟩))
  go_ret
  exact ⟨ret_int HX.out, rfl⟩
theorem specOf_yes (kd : Int) (s : ByteArray) (w : World) (hk : kindB kd = true) (hs : s.size ≤ maxLen) :
    Calls Try.prog 17 #[.int .i64 kd, .string s] w fun e w' => e = .returned (.int .i64 (sumN kd s.data.toList)) ∧ w = w' := by
  go_enter Try.func17, Try.ntmps17
  go_wp2_with (first | (go_at_call 35; refine (l1Kind_any _ _).mono ?_; rintro e w' ⟨rfl, rfl⟩) | (go_at_call 36; refine (l1Of_any _ _ _ hs).mono ?_; rintro e w' ⟨rfl, rfl⟩))
  go_ret
  exact ⟨rfl, rfl⟩
theorem specOf_no (kd : Int) (s : ByteArray) (w : World) (hk : kindB kd = false) :
    Calls Try.prog 17 #[.int .i64 kd, .string s] w fun e w' => e = .returned (.int .i64 (-1)) ∧ w = w' := by
  go_enter Try.func17, Try.ntmps17
  go_wp2_with (go_at_call 35; refine (l1Kind_any _ _).mono ?_; rintro e w' ⟨rfl, rfl⟩)
  go_ret
  exact ⟨rfl, rfl⟩
end Go.Proofs.Ythggbcpphoknfaa
