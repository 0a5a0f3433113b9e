/- Contract of BitsTo in the program. -/
import Derived.Test.YtabdejafmhnaaaaBitsD
namespace Go.Proofs.Ytabdejafmhnaaaa
open Go.ChangeShapes Go.WideShapes Go.ChangeAt Go.RowKit

/-- what is written behind k bits -/
def partL (l : List UInt8) (n k : Nat) : List UInt8 := (List.range n).map (octAt (l.take k))
theorem partL_len (l : List UInt8) (n k : Nat) : (partL l n k).length = n := by simp [partL]
theorem oct_cut (l : List UInt8) (k m : Nat) : ((l.take k).drop (8 * m)).take 8 = (l.drop (8 * m)).take (min 8 (k - 8 * m)) := by
  rw [List.drop_take, List.take_take]
theorem partL_zero (l : List UInt8) (n : Nat) : partL l n 0 = List.replicate n 0 := by
  apply List.ext_getElem
  · simp [partL]
  · intro i h1 h2
    simp [partL, octAt, octN]
/-- a nought turns nothing -/
theorem octN_take_nought (l : List UInt8) (k : Nat) (h : k < l.length) (hb : bitN l[k] = 0) : octN (l.take (k + 1)) = octN (l.take k) := by
  rw [List.take_succ_eq_append_getElem h, octN_snoc, hb]; simp
theorem octN_take_one (l : List UInt8) (k : Nat) (h : k < l.length) (hb : bitN l[k] = 1) : octN (l.take (k + 1)) = octN (l.take k) + 2 ^ k := by
  rw [List.take_succ_eq_append_getElem h, octN_snoc, hb, List.length_take, Nat.min_eq_left (by omega)]; simp
theorem octAt_other (l : List UInt8) (k m : Nat) (h : m ≠ k / 8) : octAt (l.take (k + 1)) m = octAt (l.take k) m := by
  unfold octAt
  rw [oct_cut, oct_cut]
  congr 3
  rcases Nat.lt_or_ge (8 * m) k with h1 | h1
  · rcases Nat.lt_or_ge k (8 * m + 8) with h2 | h2
    · exfalso; apply h; omega
    · omega
  · have : ¬ 8 * m = k := by intro h0; apply h; omega
    omega
theorem octAt_nought (l : List UInt8) (k : Nat) (hk : k < l.length) (hb : bitN l[k] = 0) : octAt (l.take (k + 1)) (k / 8) = octAt (l.take k) (k / 8) := by
  unfold octAt
  rw [oct_cut, oct_cut, show min 8 (k + 1 - 8 * (k / 8)) = k % 8 + 1 by omega, show min 8 (k - 8 * (k / 8)) = k % 8 by omega]
  rw [octN_take_nought _ _ (by simp; omega) (by rw [List.getElem_drop]; simpa [show 8 * (k / 8) + k % 8 = k by omega] using hb)]
theorem octAt_one (l : List UInt8) (k : Nat) (hk : k < l.length) (hb : bitN l[k] = 1) : octAt (l.take (k + 1)) (k / 8) = octAt (l.take k) (k / 8) ||| UInt8.ofNat (2 ^ (k % 8)) := by
  unfold octAt
  rw [oct_cut, oct_cut, show min 8 (k + 1 - 8 * (k / 8)) = k % 8 + 1 by omega, show min 8 (k - 8 * (k / 8)) = k % 8 by omega]
  rw [octN_take_one _ _ (by simp; omega) (by rw [List.getElem_drop]; simpa [show 8 * (k / 8) + k % 8 = k by omega] using hb)]
  have hlt := octN_lt ((l.drop (8 * (k / 8))).take (k % 8))
  have hlen : ((l.drop (8 * (k / 8))).take (k % 8)).length = k % 8 := by simp; omega
  rw [hlen] at hlt
  have hk8 : k % 8 < 8 := Nat.mod_lt _ (by omega)
  have hp : 2 ^ (k % 8) ≤ 2 ^ 7 := Nat.pow_le_pow_right (by omega) (by omega)
  generalize octN ((l.drop (8 * (k / 8))).take (k % 8)) = X at *
  apply UInt8.toNat_inj.1
  rw [UInt8.toNat_or]
  simp only [UInt8.toNat_ofNat']
  rw [Nat.mod_eq_of_lt (show X < 2 ^ 8 by omega), Nat.mod_eq_of_lt (show 2 ^ (k % 8) < 2 ^ 8 by omega), Nat.mod_eq_of_lt (show X + 2 ^ (k % 8) < 2 ^ 8 by omega)]
  have := Nat.two_pow_add_eq_or_of_lt hlt 1
  rw [Nat.mul_one] at this
  rw [Nat.add_comm, this, Nat.or_comm]
theorem partL_same (l : List UInt8) (n k : Nat) (hk : k < l.length) (hb : bitN l[k] = 0) : partL l n (k + 1) = partL l n k := by
  apply List.map_congr_left
  intro m _
  by_cases h : m = k / 8
  · subst h; exact octAt_nought l k hk hb
  · exact octAt_other l k m h
theorem partL_set (l : List UInt8) (n k : Nat) (hk : k < l.length) (hb : bitN l[k] = 1) : partL l n (k + 1) = (partL l n k).set (k / 8) (octAt (l.take k) (k / 8) ||| UInt8.ofNat (2 ^ (k % 8))) := by
  apply List.ext_getElem
  · simp [partL]
  · intro m h1 h2
    rw [List.getElem_set]
    by_cases h : k / 8 = m
    · rw [if_pos h]
      subst h
      simp only [partL, List.getElem_map, List.getElem_range]
      exact octAt_one l k hk hb
    · rw [if_neg h]
      simp only [partL, List.getElem_map, List.getElem_range]
      exact octAt_other l k m (Ne.symm h)
theorem or_pow : ∀ j, j < 8 → ((2 : Int) ^ j % 256 = ((2 ^ j : Nat) : Int) ∧ (UInt8.ofNat (2 ^ j)).toNat = 2 ^ j) := by decide
theorem or_byte (B : UInt8) (j : Nat) (hj : j < 8) : bits .or .u8 (B.toNat : Int) ((2 : Int) ^ j % 256) = ((B ||| UInt8.ofNat (2 ^ j)).toNat : Int) := by
  obtain ⟨h1, h2⟩ := or_pow j hj
  rw [h1, UInt8.toNat_or, h2]
  refine u8_or_nat _ _ (UInt8.toNat_lt B) ?_
  rw [← h2]; exact UInt8.toNat_lt _

set_option maxRecDepth 100000 in
set_option maxHeartbeats 4000000 in
theorem implTo_yes (s : ByteArray) (w : World) (h : okB s.data.toList = true) (h8 : s.size % 8 = 0) :
    Calls Try.prog 21 #[.string s] w fun e w' => e = .returned (.tuple #[.string ⟨(toL s.data.toList).toArray⟩, .bool true]) ∧ Below w.heap.size w w' := by
  have hsz := ok_size h
  have hmax : s.size ≤ maxLen := by unfold maxLen; omega
  obtain ⟨i0, hi, hz0, hz1, hz2⟩ := info_parts info_u8
  have hmk : ∀ u : World, (Instr.makeSlice 22 (.int .i64 ((s.size : Int) / 8)) (.int .i64 ((s.size : Int) / 8))).run Try.prog u = .ok (.slice (some ⟨u.heap.size, 0, none⟩) (s.size / 8) (s.size / 8)) (u.alloc (.cells (madeCells #[.int .u8 0] (s.size / 8)) 5)) := fun u => by
    have h := run_make (P := Try.prog) u 22 5 i0 (.int .u8 0) Try.underlying22 hi hz0 .i64 .i64 ((s.size : Int) / 8) ((s.size : Int) / 8) (by omega) (Int.le_refl _) (by rw [hz2]; omega) (by omega)
    have e : ((s.size : Int) / 8).toNat = s.size / 8 := by omega
    rw [e] at h
    simpa [hz1, Value.cells] using h
  have HSL := Lib.hid (size_list s)
  have H := Lib.hid h
  have hm8 : ((s.size : Int) % 8 != 0) = false := by rw [show (s.size : Int) % 8 = 0 by omega]; rfl
  clear hi hz0 hz1 hz2
  go_enter Try.func21, Try.ntmps21
  go_wp2_with (go_at_call 22; refine (implOk_any _ _ hmax).mono ?_; rintro e w' ⟨rfl, rfl⟩)
  clear hmk
  have HO0 := Lib.hid (OB_made 5 w (s.size / 8) (by unfold maxLen; omega) w.heap.size (Nat.le_refl _))
  go_loopw [5, 21] (fun _ i wr => ∃ k : Nat, k ≤ s.size ∧ i = .int .i64 k ∧ OB 5 wr w.heap.size (.slice (some ⟨w.heap.size, 0, none⟩) (s.size / 8) (s.size / 8)) (partL s.data.toList (s.size / 8) k) ∧ Below w.heap.size w wr) (fun _ i _ => s.size - (intOf i).toNat)
  case atStart => exact ⟨0, Nat.zero_le _, rfl, by rw [partL_zero]; exact HO0.out, (Below.refl _ _).alloc (Nat.le_refl _) _⟩
  case round =>
    obtain ⟨k, hk, rfl, hown, hb⟩ := hrel
    have HO := Lib.hid hown
    have HB := Lib.hid hb
    clear hown hb HO0
    by_cases hlt : k < s.size
    · have hkl : k < s.data.toList.length := by rw [HSL.out]; exact hlt
      have hbe : s[k] = s.data.toList[k] := rfl
      rcases ok_bit H.out hlt with hbit | hbit
      · have hc : ((s[k].toNat : Int) == 49) = false := by rw [hbit]; rfl
        have HV := Lib.hid (partL_same s.data.toList (s.size / 8) k hkl (by rw [← hbe, hbit]; rfl))
        clear hbit hbe
        go_wp2
        go_roundw
        case rel => exact ⟨k + 1, by omega, by go_num, by rw [HV.out]; exact HO.out, HB.out⟩
        case measure => simp [intOf]; omega
      · have hc : ((s[k].toNat : Int) == 49) = true := by rw [hbit]; rfl
        have HV := Lib.hid (partL_set s.data.toList (s.size / 8) k hkl (by rw [← hbe, hbit]; rfl))
        have hkm : k / 8 < (partL s.data.toList (s.size / 8) k).length := by rw [partL_len]; omega
        have hcell := HO.out.cellAt hkm
        have hfrz := HO.out.frozenAt hkm
        have hoct : (partL s.data.toList (s.size / 8) k)[k / 8] = octAt (s.data.toList.take k) (k / 8) := by simp [partL]
        rw [hoct] at hcell
        unfold byteV at hcell
        have HOB := Lib.hid (or_byte (octAt (s.data.toList.take k) (k / 8)) (k % 8) (Nat.mod_lt _ (by omega)))
        have hbl := UInt8.toNat_lt (octAt (s.data.toList.take k) (k / 8))
        generalize octAt (s.data.toList.take k) (k / 8) = B at *
        obtain ⟨m, hm⟩ : ∃ m, k / 8 = m := ⟨_, rfl⟩
        obtain ⟨j, hj⟩ : ∃ j, k % 8 = j := ⟨_, rfl⟩
        rw [hm] at hcell hfrz HV
        rw [hj] at HOB HV
        have hmi : (k : Int) / 8 = (m : Int) := by omega
        have hmi2 : (k : Int).tdiv 8 = (m : Int) := by rw [Int.tdiv_eq_ediv_of_nonneg (by omega)]; exact hmi
        have hji : (k : Int) % 8 = (j : Int) := by omega
        have hji2 : (k : Int).tmod 8 = (j : Int) := by rw [Int.tmod_eq_emod_of_nonneg (by omega)]; exact hji
        have hms : m < s.size / 8 := by omega
        have hmsI : (m : Int) < ((s.size / 8 : Nat) : Int) := by omega
        have hj8 : j < 8 := by omega
        clear hbit hbe hm hj hkm hoct
        go_wp2_with fail
        go_region
        have HO2 := Lib.hid ((HO.out.stored m (B ||| UInt8.ofNat (2 ^ j))).drew)
        have HB2 := Lib.hid ((HB.out.setCell (p := ⟨w.heap.size, m, none⟩) (Nat.le_refl _) (byteV (B ||| UInt8.ofNat (2 ^ j)))).drew)
        unfold byteV at HO2 HB2
        rw [HOB.out]
        go_wp2
        go_roundw
        case rel => exact ⟨k + 1, by omega, by go_num, by rw [HV.out]; exact HO2.out, HB2.out⟩
        case measure => simp [intOf]; omega
    · go_wp2_with (refine wpList_string_of_OB _ rfl 22 9 5 _ rfl w.heap.size _ _ rfl Try.underlying22 Try.underlying5 Try.underlying9 HO.out ?_)
      go_ret2
      refine ⟨?_, HB.out⟩
      have e : partL s.data.toList (s.size / 8) k = toL s.data.toList := by
        unfold partL toL
        rw [take_all s k (by omega), HSL.out]
      rw [e]
      rfl
theorem implTo_no (s : ByteArray) (w : World) (hs : s.size ≤ maxLen) (h : (okB s.data.toList && decide (s.size % 8 = 0)) = false) :
    Calls Try.prog 21 #[.string s] w fun e w' => e = .returned (.tuple #[.string ⟨#[]⟩, .bool false]) ∧ w = w' := by
  cases hk : okB s.data.toList with
  | false =>
    clear h
    go_enter Try.func21, Try.ntmps21
    go_wp2_with (go_at_call 22; refine (implOk_any _ _ hs).mono ?_; rintro e w' ⟨rfl, rfl⟩)
    go_ret2
    exact ⟨rfl, rfl⟩
  | true =>
    have h8 : ¬ s.size % 8 = 0 := by simpa [hk] using h
    have hm8 : ((s.size : Int) % 8 != 0) = true := by rw [bne_iff_ne]; omega
    clear h h8
    go_enter Try.func21, Try.ntmps21
    go_wp2_with (go_at_call 22; refine (implOk_any _ _ hs).mono ?_; rintro e w' ⟨rfl, rfl⟩)
    go_ret2
    exact ⟨rfl, rfl⟩
theorem specTo_no (s : ByteArray) (w : World) (hs : s.size ≤ maxLen) (h : (okB s.data.toList && decide (s.size % 8 = 0)) = false) :
    Calls Try.prog 24 #[.string s] w fun e w' => e = .returned (.tuple #[.string ⟨#[]⟩, .bool false]) ∧ w = w' := by
  cases hk : okB s.data.toList with
  | false =>
    clear h
    go_enter Try.func24, Try.ntmps24
    go_wp2_with (go_at_call 49; refine (l2Ok_any _ _ hs).mono ?_; rintro e w' ⟨rfl, rfl⟩)
    go_ret2
    exact ⟨rfl, rfl⟩
  | true =>
    have h8 : ¬ s.size % 8 = 0 := by simpa [hk] using h
    have hm8 : ((s.size : Int) % 8 != 0) = true := by rw [bne_iff_ne]; omega
    clear h h8
    go_enter Try.func24, Try.ntmps24
    go_wp2_with (go_at_call 49; refine (l2Ok_any _ _ hs).mono ?_; rintro e w' ⟨rfl, rfl⟩)
    go_ret2
    exact ⟨rfl, rfl⟩
theorem specTo_yes (s : ByteArray) (w : World) (h : okB s.data.toList = true) (h8 : s.size % 8 = 0) :
    Calls Try.prog 24 #[.string s] w fun e w' => e = .returned (.tuple #[.string ⟨(toL s.data.toList).toArray⟩, .bool true]) ∧ Below w.heap.size w w' := by
  have hsz := ok_size h
  have hmax : s.size ≤ maxLen := by unfold maxLen; omega
  have hm8 : ((s.size : Int) % 8 != 0) = false := by rw [show (s.size : Int) % 8 = 0 by omega]; rfl
  have H := Lib.hid h
  go_enter Try.func24, Try.ntmps24
  go_wp2_with (first | (go_at_call 49; refine (l2Ok_any _ _ hmax).mono ?_; rintro e w' ⟨rfl, rfl⟩) | (go_at_call 50; refine (l2To_any _ _ H.out).mono ?_; rintro e w2 ⟨rfl, hb⟩))
  go_ret2
  exact ⟨rfl, hb⟩
end Go.Proofs.Ytabdejafmhnaaaa
