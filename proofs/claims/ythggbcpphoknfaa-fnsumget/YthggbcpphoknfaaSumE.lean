/- Contracts of SumPut in the program and in the model. -/
import Derived.Test.YthggbcpphoknfaaSumD
import Derived.Test.YthggbcpphoknfaaOwn
namespace Go.Proofs.Ythggbcpphoknfaa
open Go.ChangeShapes Go.WideShapes Go.ChangeAt Go.RowKit

/-- the k lowest bytes of a number, the lowest first -/
def leB (n k : Nat) : List UInt8 := (List.range k).map fun i => UInt8.ofNat (n / 256 ^ i % 256)
theorem leB_succ (n k : Nat) : leB n (k + 1) = leB n k ++ [UInt8.ofNat (n / 256 ^ k % 256)] := by
  simp [leB, List.range_succ]
theorem leB_length (n k : Nat) : (leB n k).length = k := by simp [leB]
theorem div_step (n k : Nat) : n / 256 ^ k / 256 = n / 256 ^ (k + 1) := by rw [Nat.div_div_eq_div_mul, Nat.pow_succ]
set_option maxRecDepth 100000 in
set_option maxHeartbeats 1000000 in
theorem l1Put_any (kd : Int) (s : ByteArray) (w : World) (hk : kindB kd = true) (hs : s.size ≤ 140737488355000) :
    Calls Try.prog 45 #[.int .i64 kd, .string s] w fun e w' => e = .returned (.string ⟨(s.data.toList ++ leB (sumN kd s.data.toList) kd.toNat).toArray⟩) ∧ Below w.heap.size w w' := by
  have hmax : s.size ≤ maxLen := by unfold maxLen; omega
  have hsl : s.data.toList.length = s.size := by simp
  obtain ⟨i0, hi, hz0, hz1, hz2⟩ := info_parts info_u8
  have HI := Lib.hid hi
  have HZ0 := Lib.hid hz0
  have HZ1 := Lib.hid hz1
  have HZ2 := Lib.hid hz2
  have HSL := Lib.hid hsl
  have hkk : 2 ≤ kd ∧ kd ≤ 4 := by rcases kind_or hk with rfl | rfl <;> omega
  obtain ⟨hk2, hk4⟩ := hkk
  clear hi hz0 hz1 hz2 hk hsl
  go_enter Try.func45, Try.ntmps45
  go_wp2_with (first | (refine wpList_bytes_of_string _ rfl 9 22 5 _ rfl s rfl Try.underlying9 Try.underlying22 Try.underlying5 hmax ?_; intro v1 w1 hown1 hb1) | (go_at_call 36; refine (l1Of_any _ _ _ hmax).mono ?_; rintro e w' ⟨rfl, rfl⟩))
  have hsum := sumN_lt kd s.data.toList
  generalize hsm : sumN kd s.data.toList = S at *
  have HSM := Lib.hid hsm
  clear hsm
  go_loopw [5, 6, 7] (fun v n i wr => ∃ k : Nat, (k : Int) ≤ kd ∧ i = .int .i64 k ∧ n = .int .i64 ((S / 256 ^ k : Nat) : Int) ∧ OB 5 wr w.heap.size v (s.data.toList ++ leB S k) ∧ Below w.heap.size w wr) (fun _ _ i _ => kd.toNat - (intOf i).toNat)
  case atStart => exact ⟨0, by omega, rfl, by simp, by simpa [leB] using hown1, hb1⟩
  case round =>
    obtain ⟨k, hk, rfl, rfl, hown, hb⟩ := hrel
    have hx : S / 256 ^ k < 2 ^ 32 := Nat.lt_of_le_of_lt (Nat.div_le_self _ _) hsum
    have HO := Lib.hid hown
    have HB := Lib.hid hb
    clear hown hb hown1 hb1
    by_cases hlt : (k : Int) < kd
    · have hl : (s.data.toList ++ leB S k).length + [UInt8.ofNat (S / 256 ^ k % 256)].length ≤ 140737488355328 := by rw [List.length_append, HSL.out, leB_length]; simp; omega
      have HL := Lib.hid hl
      clear hl
      generalize hX : S / 256 ^ k = X at *
      have HX := Lib.hid hX
      clear hX
      go_wp2_with (at_builtin; refine wpList_append_OB _ rfl _ _ 22 rfl w.heap.size 5 i0 Try.underlying22 HI.out HZ0.out HZ1.out HZ2.out _ (s.data.toList ++ leB S k) rfl (HO.out.alloc _) ⟨wr.heap.size, 0, none⟩ 1 1 [UInt8.ofNat (X % 256)] rfl rfl (one_new wr _ _ _ (byteV_of X)) HL.out (by have := HB.out.size; simp; omega) ?_; intro v2 w2 hown2 hg2)
      go_roundw
      case rel =>
        refine ⟨k + 1, by omega, by go_num, val_int (by rw [← div_step, HX.out]; omega), ?_, ?_⟩
        · rw [leB_succ, HX.out, ← List.append_assoc]; exact hown2
        · exact (HB.out.alloc HB.out.size _).grown hg2 (by have := HB.out.size; simp; omega) (fun k hk => (HO.out.lt k hk).1)
      case measure => simp [intOf]; omega
    · go_wp2_with (refine wpList_string_of_OB _ rfl 22 9 5 _ rfl w.heap.size _ _ rfl Try.underlying22 Try.underlying5 Try.underlying9 HO.out ?_)
      go_ret
      exact ⟨by rw [HSM.out, show k = kd.toNat from by omega]; rfl, HB.out⟩

set_option maxRecDepth 100000 in
set_option maxHeartbeats 1000000 in
theorem implPut_yes (kd : Int) (s : ByteArray) (w : World) (hk : kindB kd = true) (hs : s.size ≤ 140737488355000) :
    Calls Try.prog 23 #[.int .i64 kd, .string s] w fun e w' => e = .returned (.string ⟨(s.data.toList ++ leB (sumN kd s.data.toList) kd.toNat).toArray⟩) ∧ Below w.heap.size w w' := by
  have hmax : s.size ≤ maxLen := by unfold maxLen; omega
  have hsl : s.data.toList.length = s.size := by simp
  obtain ⟨i0, hi, hz0, hz1, hz2⟩ := info_parts info_u8
  have HI := Lib.hid hi
  have HZ0 := Lib.hid hz0
  have HZ1 := Lib.hid hz1
  have HZ2 := Lib.hid hz2
  have HSL := Lib.hid hsl
  have HK := Lib.hid hk
  have hkk : 2 ≤ kd ∧ kd ≤ 4 := by rcases kind_or hk with rfl | rfl <;> omega
  obtain ⟨hk2, hk4⟩ := hkk
  have hsum := sumN_lt kd s.data.toList
  have hn0 : decide (((sumN kd s.data.toList : Nat) : Int) < 0) = false := by simp
  clear hi hz0 hz1 hz2 hk hsl
  go_enter Try.func23, Try.ntmps23
  go_wp2_with (first | (go_at_call 16; refine (implOf_yes _ _ _ HK.out hmax).mono ?_; rintro e w0 ⟨rfl, hb0⟩) | (refine wpList_bytes_of_string _ rfl 9 22 5 _ rfl s rfl Try.underlying9 Try.underlying22 Try.underlying5 hmax ?_; intro v1 w1 hown1 hb1))
  generalize hsm : sumN kd s.data.toList = S at *
  have HSM := Lib.hid hsm
  clear hsm
  have hown1' := hown1.mono hb0.size
  have hb1' := hb0.trans (hb1.mono hb0.size)
  clear hown1 hb1 hb0
  go_loopw [5, 6, 15] (fun n v i wr => ∃ k : Nat, (k : Int) ≤ kd ∧ i = .int .i64 k ∧ n = .int .i64 ((S / 256 ^ k : Nat) : Int) ∧ OB 5 wr w.heap.size v (s.data.toList ++ leB S k) ∧ Below w.heap.size w wr) (fun _ _ i _ => kd.toNat - (intOf i).toNat)
  case atStart => exact ⟨0, by omega, rfl, by simp, by simpa [leB] using hown1', hb1'⟩
  case round =>
    obtain ⟨k, hk, rfl, rfl, hown, hb⟩ := hrel
    have hx : S / 256 ^ k < 2 ^ 32 := Nat.lt_of_le_of_lt (Nat.div_le_self _ _) hsum
    have HO := Lib.hid hown
    have HB := Lib.hid hb
    clear hown hb hown1' hb1'
    by_cases hlt : (k : Int) < kd
    · have hl : (s.data.toList ++ leB S k).length + [UInt8.ofNat (S / 256 ^ k % 256)].length ≤ 140737488355328 := by rw [List.length_append, HSL.out, leB_length]; simp; omega
      have HL := Lib.hid hl
      clear hl
      generalize hX : S / 256 ^ k = X at *
      have HX := Lib.hid hX
      clear hX
      go_wp2_with (at_builtin; refine wpList_append_OB _ rfl _ _ 22 rfl w.heap.size 5 i0 Try.underlying22 HI.out HZ0.out HZ1.out HZ2.out _ (s.data.toList ++ leB S k) rfl (HO.out.alloc _) ⟨wr.heap.size, 0, none⟩ 1 1 [UInt8.ofNat (X % 256)] rfl rfl (one_new wr _ _ _ (byteV_of X)) HL.out (by have := HB.out.size; simp; omega) ?_; intro v2 w2 hown2 hg2)
      go_roundw
      case rel =>
        refine ⟨k + 1, by omega, by go_num, val_int (by rw [← div_step, HX.out]; omega), ?_, ?_⟩
        · rw [leB_succ, HX.out, ← List.append_assoc]; exact hown2
        · exact (HB.out.alloc HB.out.size _).grown hg2 (by have := HB.out.size; simp; omega) (fun k hk => (HO.out.lt k hk).1)
      case measure => simp [intOf]; omega
    · go_wp2_with (refine wpList_string_of_OB _ rfl 22 9 5 _ rfl w.heap.size _ _ rfl Try.underlying22 Try.underlying5 Try.underlying9 HO.out ?_)
      go_ret
      exact ⟨by rw [HSM.out, show k = kd.toNat from by omega]; rfl, HB.out⟩
theorem implPut_no (kd : Int) (s : ByteArray) (w : World) (hk : kindB kd = false) :
    Calls Try.prog 23 #[.int .i64 kd, .string s] w fun e w' => e = .returned (.string ⟨#[]⟩) ∧ w = w' := by
  go_enter Try.func23, Try.ntmps23
  go_wp2_with (go_at_call 16; refine (implOf_no _ _ _ hk).mono ?_; rintro e w0 ⟨rfl, rfl⟩)
  go_ret
  exact ⟨rfl, rfl⟩
theorem specPut_no (kd : Int) (s : ByteArray) (w : World) (hk : kindB kd = false) :
    Calls Try.prog 24 #[.int .i64 kd, .string s] w fun e w' => e = .returned (.string ⟨#[]⟩) ∧ w = w' := by
  go_enter Try.func24, Try.ntmps24
  go_wp2_with (go_at_call 35; refine (l1Kind_any _ _).mono ?_; rintro e w' ⟨rfl, rfl⟩)
  go_ret
  exact ⟨rfl, rfl⟩
theorem specPut_yes (kd : Int) (s : ByteArray) (w : World) (hk : kindB kd = true) (hs : s.size ≤ 140737488355000) :
    Calls Try.prog 24 #[.int .i64 kd, .string s] w fun e w' => e = .returned (.string ⟨(s.data.toList ++ leB (sumN kd s.data.toList) kd.toNat).toArray⟩) ∧ Below w.heap.size w w' := by
  have HK := Lib.hid hk
  go_enter Try.func24, Try.ntmps24
  go_wp2_with (first | (go_at_call 35; refine (l1Kind_any _ _).mono ?_; rintro e w' ⟨rfl, rfl⟩) | (go_at_call 45; refine (l1Put_any _ _ _ HK.out hs).mono ?_; rintro e w' ⟨rfl, hb⟩))
  go_ret
  exact ⟨rfl, hb⟩
/-- whatever the kind: some text, not much longer -/
theorem putAny (kd : Int) (s : ByteArray) (w : World) (hs : s.size ≤ 140737488355000) :
    Calls Try.prog 24 #[.int .i64 kd, .string s] w fun e w' => ∃ t : ByteArray, e = .returned (.string t) ∧ t.size ≤ s.size + 4 ∧ Below w.heap.size w w' := by
  cases hk : kindB kd with
  | false => exact (specPut_no kd s w hk).mono fun e w' ⟨he, hw⟩ => ⟨⟨#[]⟩, he, Nat.zero_le _, by rw [hw]; exact Below.refl _ _⟩
  | true =>
    refine (specPut_yes kd s w hk hs).mono fun e w' ⟨he, hw⟩ => ⟨_, he, ?_, hw⟩
    show (s.data.toList ++ leB (sumN kd s.data.toList) kd.toNat).toArray.size ≤ s.size + 4
    have : s.data.toList.length = s.size := by simp
    rw [List.size_toArray, List.length_append, leB_length, this]
    rcases kind_or hk with rfl | rfl <;> simp
end Go.Proofs.Ythggbcpphoknfaa
