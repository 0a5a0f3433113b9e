/- Contracts of BitsRun in the program and in the model. -/
import Derived.Test.YtabdejafmhnaaaaBitsA
import Derived.Test.YtabdejafmhnaaaaOwn
namespace Go.Proofs.Ytabdejafmhnaaaa
open Go.ChangeShapes Go.WideShapes Go.ChangeAt Go.RowKit

def runStep (p : Nat × Nat) (b : UInt8) : Nat × Nat := if b = 49 then (max p.1 (p.2 + 1), p.2 + 1) else (p.1, 0)
/-- the longest run of ones so far, and the run at the end -/
def runS (l : List UInt8) : Nat × Nat := l.foldl runStep (0, 0)
def runN (l : List UInt8) : Nat := (runS l).1
theorem runS_snoc (l : List UInt8) (b : UInt8) : runS (l ++ [b]) = runStep (runS l) b := by simp [runS, List.foldl_append]
theorem runS_le (l : List UInt8) : (runS l).1 ≤ l.length ∧ (runS l).2 ≤ l.length := by
  unfold runS
  suffices h : ∀ (l : List UInt8) (p : Nat × Nat) (n : Nat), p.1 ≤ n → p.2 ≤ n → (l.foldl runStep p).1 ≤ n + l.length ∧ (l.foldl runStep p).2 ≤ n + l.length by
    simpa using h l (0, 0) 0 (Nat.le_refl _) (Nat.le_refl _)
  intro l
  induction l with
  | nil => intro p n h1 h2; exact ⟨h1, h2⟩
  | cons b l ih =>
    intro p n h1 h2
    rw [List.foldl_cons, List.length_cons]
    have := ih (runStep p b) (n + 1) (by unfold runStep; split <;> simp <;> omega) (by unfold runStep; split <;> simp <;> omega)
    omega
theorem ok_bit {s : ByteArray} (h : okB s.data.toList = true) {k : Nat} (hk : k < s.size) : s[k] = 48 ∨ s[k] = 49 := by
  have h1 : s.data.toList.all bitB = true := by unfold okB at h; exact (Bool.and_eq_true_iff.1 h).1
  have := List.all_eq_true.1 h1 s[k] (by
    have : s[k] = s.data.toList[k]'(by simpa using hk) := rfl
    rw [this]; exact List.getElem_mem _)
  simpa [bitB] using this
theorem ok_size {s : ByteArray} (h : okB s.data.toList = true) : s.size ≤ 1200 := by
  unfold okB at h
  have := (Bool.and_eq_true_iff.1 h).2
  rw [decide_eq_true_iff, size_list] at this
  exact this

set_option maxHeartbeats 1000000 in
theorem implBitsRun_yes (s : ByteArray) (w : World) (h : okB s.data.toList = true) :
    Calls Try.prog 27 #[.string s] w fun e w' => e = .returned (.int .i64 (runN s.data.toList)) ∧ w = w' := by
  have hsz := ok_size h
  have hmax : s.size ≤ maxLen := by unfold maxLen; omega
  have H := Lib.hid h
  go_enter Try.func27, Try.ntmps27
  go_wp2_with (go_at_call 22; refine (implOk_any _ _ hmax).mono ?_; rintro e w' ⟨rfl, rfl⟩)
  go_loop [3, 4, 5, 11] (fun m n _ i => ∃ k : Nat, k ≤ s.size ∧ i = .int .i64 k ∧ m = .int .i64 (runS (s.data.toList.take k)).1 ∧ n = .int .i64 (runS (s.data.toList.take k)).2) (fun _ _ _ i => s.size - (intOf i).toNat)
  case atStart => exact ⟨0, Nat.zero_le _, rfl, rfl, rfl⟩
  case round =>
    obtain ⟨k, hk, rfl, rfl, rfl⟩ := hrel
    have hle := runS_le (s.data.toList.take k)
    have hl2 : (s.data.toList.take k).length ≤ k := List.length_take_le _ _
    by_cases hlt : k < s.size
    · have HS := Lib.hid (show runS (s.data.toList.take (k + 1)) = runStep (runS (s.data.toList.take k)) s[k] by rw [snoc_take s k hlt, runS_snoc])
      generalize runS (s.data.toList.take k) = p at *
      obtain ⟨m, n⟩ := p
      simp only at hle
      rcases ok_bit H.out hlt with hb | hb
      · have hb1 : ((s[k].toNat : Int) == 49) = false := by rw [hb]; rfl
        have HB := Lib.hid hb
        clear hb
        go_wp2
        all_goals
          go_round
          case rel =>
            refine ⟨k + 1, by omega, by go_num, ?_, ?_⟩
            · rw [HS.out, HB.out]; exact val_int (by simp [runStep]; try omega)
            · rw [HS.out, HB.out]; exact val_int (by simp [runStep])
          case measure => simp [intOf]; omega
      · have hb1 : ((s[k].toNat : Int) == 49) = true := by rw [hb]; rfl
        have HB := Lib.hid hb
        clear hb
        go_wp2
        all_goals
          go_round
          case rel =>
            refine ⟨k + 1, by omega, by go_num, ?_, ?_⟩
            · rw [HS.out, HB.out]; exact val_int (by simp [runStep]; try omega)
            · rw [HS.out, HB.out]; exact val_int (by simp [runStep])
          case measure => simp [intOf]; omega
    · go_wp2
      go_ret
      exact ⟨ret_int (by rw [take_all s k (by omega)]; rfl), rfl⟩
theorem implBitsRun_no (s : ByteArray) (w : World) (hs : s.size ≤ maxLen) (h : okB s.data.toList = false) :
    Calls Try.prog 27 #[.string s] w fun e w' => e = .returned (.int .i64 (-1)) ∧ w = w' := by
  go_enter Try.func27, Try.ntmps27
  go_wp2_with (go_at_call 22; refine (implOk_any _ _ hs).mono ?_; rintro e w' ⟨rfl, rfl⟩)
  go_ret
  exact ⟨rfl, rfl⟩
theorem specBitsRun_no (s : ByteArray) (w : World) (hs : s.size ≤ maxLen) (h : okB s.data.toList = false) :
    Calls Try.prog 28 #[.string s] w fun e w' => e = .returned (.int .i64 (-1)) ∧ w = w' := by
  go_enter Try.func28, Try.ntmps28
  go_wp2_with (go_at_call 49; refine (l2Ok_any _ _ hs).mono ?_; rintro e w' ⟨rfl, rfl⟩)
  go_ret
  exact ⟨rfl, rfl⟩
set_option maxHeartbeats 1000000 in
theorem specBitsRun_yes (s : ByteArray) (w : World) (h : okB s.data.toList = true) :
    Calls Try.prog 28 #[.string s] w fun e w' => e = .returned (.int .i64 (runN s.data.toList)) ∧ w = w' := by
  have hsz := ok_size h
  have hmax : s.size ≤ maxLen := by unfold maxLen; omega
  have H := Lib.hid h
  go_enter Try.func28, Try.ntmps28
  go_wp2_with (go_at_call 49; refine (l2Ok_any _ _ hmax).mono ?_; rintro e w' ⟨rfl, rfl⟩)
  go_loop [3, 4, 5] (fun m n i => ∃ k : Nat, k ≤ s.size ∧ i = .int .i64 k ∧ m = .int .i64 (runS (s.data.toList.take k)).1 ∧ n = .int .i64 (runS (s.data.toList.take k)).2) (fun _ _ i => s.size - (intOf i).toNat)
  case atStart => exact ⟨0, Nat.zero_le _, rfl, rfl, rfl⟩
  case round =>
    obtain ⟨k, hk, rfl, rfl, rfl⟩ := hrel
    have hle := runS_le (s.data.toList.take k)
    have hl2 : (s.data.toList.take k).length ≤ k := List.length_take_le _ _
    by_cases hlt : k < s.size
    · have HS := Lib.hid (show runS (s.data.toList.take (k + 1)) = runStep (runS (s.data.toList.take k)) s[k] by rw [snoc_take s k hlt, runS_snoc])
      generalize runS (s.data.toList.take k) = p at *
      obtain ⟨m, n⟩ := p
      simp only at hle
      rcases ok_bit H.out hlt with hb | hb
      · have hb1 : ((s[k].toNat : Int) == 48) = true := by rw [hb]; rfl
        have HB := Lib.hid hb
        clear hb
        go_wp2
        all_goals
          go_round
          case rel =>
            refine ⟨k + 1, by omega, by go_num, ?_, ?_⟩
            · rw [HS.out, HB.out]; exact val_int (by simp [runStep]; try omega)
            · rw [HS.out, HB.out]; exact val_int (by simp [runStep])
          case measure => simp [intOf]; omega
      · have hb1 : ((s[k].toNat : Int) == 48) = false := by rw [hb]; rfl
        have HB := Lib.hid hb
        clear hb
        go_wp2
        all_goals
          go_round
          case rel =>
            refine ⟨k + 1, by omega, by go_num, ?_, ?_⟩
            · rw [HS.out, HB.out]; exact val_int (by simp [runStep]; try omega)
            · rw [HS.out, HB.out]; exact val_int (by simp [runStep])
          case measure => simp [intOf]; omega
    · go_wp2
      go_ret
      exact ⟨ret_int (by rw [take_all s k (by omega)]; rfl), rfl⟩
end Go.Proofs.Ytabdejafmhnaaaa
