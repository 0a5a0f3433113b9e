/- Contract of the model's l1Run. -/
import Derived.Test.YthggbcpphoknfaaSumM
import Derived.Test.YthggbcpphoknfaaSumA
import Derived.Test.YthggbcpphoknfaaOwn
import Derived.IntWalk
import Derived.Lib.Hide
import Derived.Laws.BitsAllLaws
import Derived.Laws.BitsLemmas
namespace Go.Proofs.Ythggbcpphoknfaa
open Go.ChangeShapes Go.WideShapes Go.ChangeAt Go.RowKit

def polyN (k : Int) : Nat := if k = 2 then 33800 else 3988292384
theorem polyN_lt (k : Int) : polyN k < 2 ^ 32 := by unfold polyN; split <;> decide
theorem polyI_eq (k : Int) : polyI k = (polyN k : Int) := by unfold polyI polyN; split <;> rfl
theorem take_snoc (s : ByteArray) (k : Nat) (h : k < s.size) : s.data.toList.take (k + 1) = s.data.toList.take k ++ [s[k]] := by
  rw [List.take_succ_eq_append_getElem (by simpa using h)]; rfl
theorem stp_odd (kd : Int) (x : Nat) (h : ((x : Int) % 2 == 1) = true) (hx : x < 2 ^ 32) : bits .xor .i64 ((x : Int) / 2) (polyI kd) = (stp (polyN kd) x : Nat) := by
  have h' : (x : Int) % 2 = 1 := by simpa using h
  have hp := polyN_lt kd
  rw [polyI_eq, show ((x : Int) / 2) = ((x / 2 : Nat) : Int) by omega, bits_xor_i64_nat _ _ (by omega) (by omega), stp, if_pos (by omega)]
theorem stp_evn (p x : Nat) (h : ((x : Int) % 2 == 1) = false) : ((x : Int) / 2) = (stp p x : Nat) := by
  have h' : ¬ (x : Int) % 2 = 1 := by simpa using h
  rw [stp, if_neg (by omega)]; omega

set_option maxHeartbeats 400000 in
theorem l1Run_any (kd : Int) (r : Nat) (s : ByteArray) (w : World) (hr : r < 2 ^ 32) (hs : s.size ≤ maxLen) :
    Calls Try.prog 44 #[.int .i64 kd, .int .i64 r, .string s] w fun e w' => e = .returned (.int .i64 (crc (polyN kd) r s.data.toList)) ∧ w = w' := by
  unfold maxLen at hs
  go_enter Try.func44, Try.ntmps44
  go_wp2
  go_loop [1, 7, 8] (fun x i _k => ∃ k : Nat, k ≤ s.size ∧ i = .int .i64 k ∧ x = .int .i64 (crc (polyN kd) r (s.data.toList.take k))) (fun _ i _ => s.size - (intOf i).toNat)
  case atStart => exact ⟨0, Nat.zero_le _, rfl, rfl⟩
  case round =>
    obtain ⟨k, hk, rfl, rfl⟩ := hrel
    by_cases hlt : k < s.size
    · have HS := Lib.hid (show crc (polyN kd) r (s.data.toList.take (k + 1)) = stpN (polyN kd) 8 (crc (polyN kd) r (s.data.toList.take k) ^^^ s[k].toNat) by rw [take_snoc s k hlt, crc_snoc])
      have hcl : crc (polyN kd) r (s.data.toList.take k) < 2 ^ 32 := crc_lt (polyN_lt kd) (by omega) _ hr
      have hbl := UInt8.toNat_lt s[k]
      have hxl : crc (polyN kd) r (s.data.toList.take k) ^^^ s[k].toNat < 2 ^ 32 := Nat.xor_lt_two_pow hcl (by omega)
      go_wp2_with fail
      go_loop [1, 8] (fun x j => ∃ m : Nat, m ≤ 8 ∧ j = .int .i64 m ∧ x = .int .i64 (stpN (polyN kd) m (crc (polyN kd) r (s.data.toList.take k) ^^^ s[k].toNat))) (fun _ j => 8 - (intOf j).toNat)
      case atStart => exact ⟨0, by omega, rfl, val_int (by rw [bits_xor_i64_nat _ _ (by omega) (by omega)]; rfl)⟩
      case round =>
        obtain ⟨m, hm, rfl, rfl⟩ := hrel
        have hml := stpN_lt (polyN_lt kd) hxl m
        have HN := Lib.hid (show stpN (polyN kd) (m + 1) (crc (polyN kd) r (s.data.toList.take k) ^^^ s[k].toNat) = stp (polyN kd) (stpN (polyN kd) m (crc (polyN kd) r (s.data.toList.take k) ^^^ s[k].toNat)) from rfl)
        by_cases hm8 : m < 8
        · go_wp2_with (go_at_call 51; refine (l1Poly_any _ _).mono ?_; rintro e w' ⟨rfl, rfl⟩)
          all_goals
            go_round
            case rel =>
              refine ⟨m + 1, by omega, by go_num, val_int ?_⟩
              rw [HN.out]
              generalize stpN (polyN kd) m (crc (polyN kd) r (s.data.toList.take k) ^^^ s[k].toNat) = x at *
              first | exact stp_odd _ _ ‹_› (by omega) | exact stp_evn _ _ ‹_›
            case measure => simp [intOf]; omega
        · go_wp2
          go_round
          case rel => exact ⟨k + 1, by omega, by go_num, val_int (by rw [HS.out, show m = 8 from by omega])⟩
          case measure => simp [intOf]; omega
    · go_wp2
      go_ret
      exact ⟨ret_int (by rw [List.take_of_length_le (by simp; omega)]), rfl⟩
end Go.Proofs.Ythggbcpphoknfaa
