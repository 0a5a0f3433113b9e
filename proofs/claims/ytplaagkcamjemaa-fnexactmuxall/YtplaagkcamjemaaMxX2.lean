/- The size of a slice of strings told, what is left behind it. -/
import Derived.Test.YtplaagkcamjemaaMxC
namespace Go.Proofs.Ytplaagkcamjemaa
open Go.ChangeShapes Go.WideShapes Go.ChangeAt Go.RowKit
def SzT (w : World) (ss : List ByteArray) (y0 : Nat) (e : Ending) (w' : World) : Prop := ∃ x : Int, e = .returned (.int .i64 x) ∧ Below w.heap.size w w' ∧ (x = -1 ∨ ∃ y : Nat, x = (y : Int) ∧ y + ss.length ≤ y0 ∧ ∀ s ∈ ss, s.size ≤ 1048576)
set_option maxRecDepth 100000 in
set_option maxHeartbeats 400000 in
theorem szT_any (v : Value) (ss : List ByteArray) (y0 : Nat) (w : World) (B : Nat) (h : RS w B v ss) (hy0 : y0 ≤ 1048576) (hl : ss.length ≤ maxLen) (hz : ∀ s ∈ ss, s.size ≤ maxLen) :
    Calls Try.prog 37 #[v, .int .i64 y0] w (SzT w ss y0) := by
  unfold maxLen at hl hz
  obtain ⟨a, cap, rfl⟩ := h.shape
  have H := Lib.hid h
  have HZ := Lib.hid hz
  clear h hz
  by_cases hbig : y0 < ss.length
  · go_enter Try.func37, Try.ntmps37
    go_wp2
    go_ret
    exact ⟨_, rfl, Below.refl _ _, .inl rfl⟩
  have hsm : ss.length ≤ y0 := by omega
  clear hbig
  go_enter Try.func37, Try.ntmps37
  go_wp2
  go_loop [1, 5] (fun q j => ∃ (k y : Nat), k ≤ ss.length ∧ j = .int .i64 k ∧ q = .int .i64 y ∧ y + ss.length ≤ y0 ∧ ∀ s ∈ ss.take k, s.size ≤ 1048576) (fun _ j => ss.length - (intOf j).toNat)
  case atStart => exact ⟨0, y0 - ss.length, Nat.zero_le _, rfl, val_int (by omega), by omega, fun s hs => by simp at hs⟩
  case round =>
    obtain ⟨k, y, hk, rfl, rfl, hy, hall⟩ := hrel
    have HA := Lib.hid hall
    clear hall
    by_cases hlt : k < ss.length
    · obtain ⟨x, rfl, _, c0⟩ := H.out.at_ hlt
      have hsz := HZ.out ss[k] (List.getElem_mem _)
      have HT := Lib.hid (show ss.take (k + 1) = ss.take k ++ [ss[k]] from List.take_succ_eq_append_getElem hlt)
      generalize ss[k] = t at *
      by_cases hn : y < t.size
      · go_wp2
        go_ret
        exact ⟨_, rfl, Below.refl _ _, .inl rfl⟩
      · go_wp2
        go_round
        case rel =>
          refine ⟨k + 1, y - t.size, by omega, by go_num, val_int (by omega), by omega, fun s hs => ?_⟩
          rw [HT.out, List.mem_append] at hs
          rcases hs with hs | hs
          · exact HA.out s hs
          · rw [List.mem_singleton.1 hs]; omega
        case measure => simp [intOf]; omega
    · go_wp2
      go_ret
      refine ⟨(y : Int), rfl, Below.refl _ _, .inr ⟨y, rfl, by omega, fun s hs => HA.out s ?_⟩⟩
      rw [List.take_of_length_le (by omega)]; exact hs
end Go.Proofs.Ytplaagkcamjemaa
