/- Contracts of BitsOk in the program and in the model. -/
import Derived.Test.YtabdejafmhnaaaaBase
namespace Go.Proofs.Ytabdejafmhnaaaa
open Go.ChangeShapes Go.WideShapes Go.ChangeAt Go.RowKit

def bitB (b : UInt8) : Bool := b == 48 || b == 49
/-- noughts and ones, not too many -/
def okB (l : List UInt8) : Bool := l.all bitB && decide (l.length ≤ 1200)
theorem snoc_take (s : ByteArray) (k : Nat) (h : k < s.size) : s.data.toList.take (k + 1) = s.data.toList.take k ++ [s[k]] := by
  rw [List.take_succ_eq_append_getElem (by simpa using h)]; rfl
theorem take_all (s : ByteArray) (k : Nat) (h : s.size ≤ k) : s.data.toList.take k = s.data.toList := by
  rw [List.take_of_length_le (by simpa using h)]
theorem size_list (s : ByteArray) : s.data.toList.length = s.size := by simp
theorem ret_bool {a b : Bool} (h : a = b) : Ending.returned (.bool a) = .returned (.bool b) := by rw [h]
theorem all_stop {s : ByteArray} {k : Nat} (h : k < s.size) (hb : bitB s[k] = false) : s.data.toList.all bitB = false := by
  rw [List.all_eq_false]
  exact ⟨s[k], by
    have : s[k] = s.data.toList[k]'(by simpa using h) := rfl
    rw [this]; exact List.getElem_mem _, by simp [hb]⟩
/-- a byte is a nought, a one or none -/
theorem bit_cases (b : UInt8) : (b = 48 ∨ b = 49) ∨ ((b.toNat : Int) ≠ 48 ∧ (b.toNat : Int) ≠ 49 ∧ bitB b = false) := by
  by_cases h1 : b = 48
  · exact .inl (.inl h1)
  by_cases h2 : b = 49
  · exact .inl (.inr h2)
  refine .inr ⟨fun h => h1 ?_, fun h => h2 ?_, by simp [bitB, h1, h2]⟩
  · apply UInt8.toNat_inj.1; show b.toNat = 48; omega
  · apply UInt8.toNat_inj.1; show b.toNat = 49; omega

set_option maxHeartbeats 1000000 in
theorem implOk_any (s : ByteArray) (w : World) (hs : s.size ≤ maxLen) :
    Calls Try.prog 22 #[.string s] w fun e w' => e = .returned (.bool (okB s.data.toList)) ∧ w = w' := by
  unfold maxLen at hs
  by_cases hbig : 1200 < s.size
  · have HF := Lib.hid (show okB s.data.toList = false by simp [okB]; omega)
    go_enter Try.func22, Try.ntmps22
    go_wp2
    go_ret
    exact ⟨ret_bool HF.out.symm, rfl⟩
  · have hb1 : decide ((1200 : Int) < (s.size : Int)) = false := by simp; omega
    go_enter Try.func22, Try.ntmps22
    go_wp2
    go_loop [3, 9] (fun _ i => ∃ k : Nat, k ≤ s.size ∧ i = .int .i64 k ∧ (s.data.toList.take k).all bitB = true) (fun _ i => s.size - (intOf i).toNat)
    case atStart => exact ⟨0, Nat.zero_le _, rfl, rfl⟩
    case round =>
      obtain ⟨k, hk, rfl, hall⟩ := hrel
      have HA := Lib.hid hall
      clear hall
      by_cases hlt : k < s.size
      · have HS := Lib.hid (snoc_take s k hlt)
        have HST := Lib.hid (@all_stop s k hlt)
        rcases bit_cases s[k] with (h | h) | ⟨h1, h2, h3⟩
        · have h' : (s[k].toNat : Int) = 48 := by rw [h]; rfl
          have H := Lib.hid h
          have hb : ((s[k].toNat : Int) != 48) = false := by rw [h']; rfl
          clear h h'
          go_wp2
          go_round
          case rel => exact ⟨k + 1, by omega, by go_num, by rw [HS.out, List.all_append, HA.out, H.out]; rfl⟩
          case measure => simp [intOf]; omega
        · have h' : (s[k].toNat : Int) = 49 := by rw [h]; rfl
          have H := Lib.hid h
          have hb : ((s[k].toNat : Int) != 48) = true := by rw [h']; rfl
          have hb2 : ((s[k].toNat : Int) != 49) = false := by rw [h']; rfl
          clear h h'
          go_wp2
          go_round
          case rel => exact ⟨k + 1, by omega, by go_num, by rw [HS.out, List.all_append, HA.out, H.out]; rfl⟩
          case measure => simp [intOf]; omega
        · have hb : ((s[k].toNat : Int) != 48) = true := by rw [bne_iff_ne]; exact h1
          have hb2 : ((s[k].toNat : Int) != 49) = true := by rw [bne_iff_ne]; exact h2
          have HF := Lib.hid (show okB s.data.toList = false by simp [okB, HST.out h3])
          clear h1 h2 h3
          go_wp2
          go_ret
          exact ⟨ret_bool HF.out.symm, rfl⟩
      · have HF := Lib.hid (show okB s.data.toList = true by
          have := HA.out
          rw [take_all s k (by omega)] at this
          unfold okB
          rw [this, size_list, decide_eq_true (by omega)]; rfl)
        go_wp2
        go_ret
        exact ⟨ret_bool HF.out.symm, rfl⟩

set_option maxHeartbeats 1000000 in
theorem l2Ok_any (s : ByteArray) (w : World) (hs : s.size ≤ maxLen) :
    Calls Try.prog 49 #[.string s] w fun e w' => e = .returned (.bool (okB s.data.toList)) ∧ w = w' := by
  unfold maxLen at hs
  go_enter Try.func49, Try.ntmps49
  go_wp2
  go_loop [3] (fun i => ∃ k : Nat, k ≤ s.size ∧ i = .int .i64 k ∧ (s.data.toList.take k).all bitB = true) (fun i => s.size - (intOf i).toNat)
  case atStart => exact ⟨0, Nat.zero_le _, rfl, rfl⟩
  case round =>
    obtain ⟨k, hk, rfl, hall⟩ := hrel
    have HA := Lib.hid hall
    clear hall
    by_cases hlt : k < s.size
    · have HS := Lib.hid (snoc_take s k hlt)
      have HST := Lib.hid (@all_stop s k hlt)
      rcases bit_cases s[k] with (h | h) | ⟨h1, h2, h3⟩
      · have h' : (s[k].toNat : Int) = 48 := by rw [h]; rfl
        have H := Lib.hid h
        have hb : ((s[k].toNat : Int) != 48) = false := by rw [h']; rfl
        clear h h'
        go_wp2
        go_round
        case rel => exact ⟨k + 1, by omega, by go_num, by rw [HS.out, List.all_append, HA.out, H.out]; rfl⟩
        case measure => simp [intOf]; omega
      · have h' : (s[k].toNat : Int) = 49 := by rw [h]; rfl
        have H := Lib.hid h
        have hb : ((s[k].toNat : Int) != 48) = true := by rw [h']; rfl
        have hb2 : ((s[k].toNat : Int) != 49) = false := by rw [h']; rfl
        clear h h'
        go_wp2
        go_round
        case rel => exact ⟨k + 1, by omega, by go_num, by rw [HS.out, List.all_append, HA.out, H.out]; rfl⟩
        case measure => simp [intOf]; omega
      · have hb : ((s[k].toNat : Int) != 48) = true := by rw [bne_iff_ne]; exact h1
        have hb2 : ((s[k].toNat : Int) != 49) = true := by rw [bne_iff_ne]; exact h2
        have HF := Lib.hid (show okB s.data.toList = false by simp [okB, HST.out h3])
        clear h1 h2 h3
        go_wp2
        go_ret
        exact ⟨ret_bool HF.out.symm, rfl⟩
    · have HF := Lib.hid (show okB s.data.toList = decide ((s.size : Int) ≤ 1200) by
        have := HA.out
        rw [take_all s k (by omega)] at this
        unfold okB
        rw [this, size_list, Bool.true_and]
        exact decide_eq_decide.2 (by omega))
      go_wp2
      go_ret
      exact ⟨ret_bool HF.out.symm, rfl⟩
theorem specOk_any (s : ByteArray) (w : World) (hs : s.size ≤ maxLen) :
    Calls Try.prog 25 #[.string s] w fun e w' => e = .returned (.bool (okB s.data.toList)) ∧ w = w' := by
  go_enter Try.func25, Try.ntmps25
  go_wp2_with (go_at_call 49; refine (l2Ok_any _ _ hs).mono ?_; rintro e w' ⟨rfl, rfl⟩)
  go_ret
  exact ⟨rfl, rfl⟩
end Go.Proofs.Ytabdejafmhnaaaa
