/- How far bits are apart, in the program. -/
import Derived.Test.YtcljldnaecldnaaWavP
import Derived.Test.YtcljldnaecldnaaApb
import Derived.RegionTactic
namespace Go.Proofs.Ytcljldnaecldnaa
open Go.ChangeShapes Go.WideShapes Go.ChangeAt Go.RowKit
theorem ub_ne_true {a b : UInt8} (h : a ≠ b) : ((a.toNat : Int) != (b.toNat : Int)) = true := by
  rw [bne_iff_ne]; intro e; exact h (by apply UInt8.toNat_inj.1; omega)
theorem ub_ne_false {a b : UInt8} (h : a = b) : ((a.toNat : Int) != (b.toNat : Int)) = false := by rw [h]; simp
def farOkB (a b : List UInt8) : Bool := okB a && okB b && decide (a.length = b.length)
def farI (a b : List UInt8) : Int := if farOkB a b = true then (farN a b : Int) else -1
theorem far_take (s t : ByteArray) (k : Nat) (h : k < s.size) (h2 : k < t.size) : farN (s.data.toList.take (k + 1)) (t.data.toList.take (k + 1)) = farN (s.data.toList.take k) (t.data.toList.take k) + (if s[k] ≠ t[k] then 1 else 0) := by
  rw [snoc_take s k h, snoc_take t k h2, farN_snoc _ _ (by rw [List.length_take, List.length_take, size_list, size_list]; omega)]
theorem far_take_le (s t : ByteArray) (k : Nat) : farN (s.data.toList.take k) (t.data.toList.take k) ≤ k := Nat.le_trans (farN_le _ _) (List.length_take_le _ _)
theorem farOk_parts {s t : ByteArray} (h : farOkB s.data.toList t.data.toList = true) : okB s.data.toList = true ∧ okB t.data.toList = true ∧ s.size = t.size := by
  unfold farOkB at h
  rw [Bool.and_eq_true, Bool.and_eq_true, decide_eq_true_iff, size_list, size_list] at h
  exact ⟨h.1.1, h.1.2, h.2⟩
theorem implFar_no (s t : ByteArray) (w : World) (hs : s.size ≤ maxLen) (ht : t.size ≤ maxLen) (h : farOkB s.data.toList t.data.toList = false) :
    Calls Try.prog 17 #[.string s, .string t] w fun e w' => e = .returned (.int .i64 (-1)) ∧ w = w' := by
  cases hs1 : okB s.data.toList with
  | false =>
    clear h
    go_enter Try.func17, Try.ntmps17
    go_wp2_with (go_at_call 31; refine (implOk_any _ _ hs).mono ?_; rintro e w' ⟨rfl, rfl⟩)
    go_ret
    exact ⟨rfl, rfl⟩
  | true =>
    cases ht1 : okB t.data.toList with
    | false =>
      clear h
      go_enter Try.func17, Try.ntmps17
      go_wp2_with fail
      refine (implOk_any _ _ hs).mono ?_
      rintro e w' ⟨rfl, rfl⟩
      go_wp2_with fail
      refine (implOk_any _ _ ht).mono ?_
      rintro e w' ⟨rfl, rfl⟩
      go_wp2
      go_ret
      exact ⟨rfl, rfl⟩
    | true =>
      have hne : ((s.size : Int) != (t.size : Int)) = true := by
        unfold farOkB at h
        rw [hs1, ht1, Bool.true_and, Bool.true_and, decide_eq_false_iff_not, size_list, size_list] at h
        rw [bne_iff_ne]; omega
      clear h
      go_enter Try.func17, Try.ntmps17
      go_wp2_with fail
      refine (implOk_any _ _ hs).mono ?_
      rintro e w' ⟨rfl, rfl⟩
      go_wp2_with fail
      refine (implOk_any _ _ ht).mono ?_
      rintro e w' ⟨rfl, rfl⟩
      go_wp2
      go_ret
      exact ⟨rfl, rfl⟩
set_option maxRecDepth 100000 in
set_option maxHeartbeats 4000000 in
theorem implFar_yes (s t : ByteArray) (w : World) (h : farOkB s.data.toList t.data.toList = true) :
    Calls Try.prog 17 #[.string s, .string t] w fun e w' => e = .returned (.int .i64 (farN s.data.toList t.data.toList : Int)) ∧ Below w.heap.size w w' := by
  obtain ⟨h1, h2, h3⟩ := farOk_parts h
  have hsz := ok_size h1
  have htz := ok_size h2
  have hs : s.size ≤ maxLen := by unfold maxLen; omega
  have ht : t.size ≤ maxLen := by unfold maxLen; omega
  have hne : ((s.size : Int) != (t.size : Int)) = false := by rw [h3]; simp
  have H3 := Lib.hid h3
  clear h h3
  go_enter Try.func17, Try.ntmps17
  go_wp2_with fail
  refine (implOk_any _ _ hs).mono ?_
  rintro e w' ⟨rfl, rfl⟩
  go_wp2_with fail
  refine (implOk_any _ _ ht).mono ?_
  rintro e w' ⟨rfl, rfl⟩
  go_wp2
  clear h1 h2 hne
  go_loopw [5, 6, 24] (fun n _ i wr => ∃ k : Nat, k ≤ s.size ∧ i = .int .i64 k ∧ n = .int .i64 (farN (s.data.toList.take k) (t.data.toList.take k) : Int) ∧ Below w.heap.size w wr) (fun _ _ i _ => s.size - (intOf i).toNat)
  case atStart => exact ⟨0, by omega, rfl, rfl, Below.refl _ _⟩
  case round =>
    obtain ⟨k, hk, rfl, rfl, hb⟩ := hrel
    have HB := Lib.hid hb
    clear hb
    have hle := far_take_le s t k
    by_cases hlt : k < s.size
    · have hlt2 : k < t.size := by have := H3.out; omega
      have HS := Lib.hid (far_take s t k hlt hlt2)
      generalize hW : farN (s.data.toList.take k) (t.data.toList.take k) = W at *
      clear hW
      by_cases he : s[k] = t[k]
      · have hc := ub_ne_false he
        have HS2 := Lib.hid (show farN (s.data.toList.take (k + 1)) (t.data.toList.take (k + 1)) = W by rw [HS.out, if_neg (by simpa using he)]; rfl)
        clear he HS
        go_wp2_with fail
        go_region
        go_wp2
        go_roundw
        case rel => exact ⟨k + 1, by omega, by go_num, by rw [HS2.out], HB.out.drew⟩
        case measure => simp [intOf]; omega
      · have hc := ub_ne_true he
        have HS2 := Lib.hid (show farN (s.data.toList.take (k + 1)) (t.data.toList.take (k + 1)) = W + 1 by rw [HS.out, if_pos he])
        clear he HS
        go_wp2_with fail
        go_region
        go_wp2
        go_roundw
        case rel => exact ⟨k + 1, by omega, by go_num, by rw [HS2.out]; go_num, HB.out.drew⟩
        case measure => simp [intOf]; omega
    · have HE := Lib.hid (take_all s k (by omega))
      have HE2 := Lib.hid (take_all t k (by have := H3.out; omega))
      go_wp2
      go_ret
      exact ⟨by rw [HE.out, HE2.out]; rfl, HB.out⟩
theorem implFar_any (s t : ByteArray) (w : World) (hs : s.size ≤ maxLen) (ht : t.size ≤ maxLen) :
    Calls Try.prog 17 #[.string s, .string t] w fun e w' => e = .returned (.int .i64 (farI s.data.toList t.data.toList)) ∧ Below w.heap.size w w' := by
  cases h : farOkB s.data.toList t.data.toList with
  | false => exact (implFar_no s t w hs ht h).mono fun e w' ⟨h1, h2⟩ => ⟨by rw [h1, farI, if_neg (by rw [h]; decide)], h2 ▸ Below.refl _ _⟩
  | true => exact (implFar_yes s t w h).mono fun e w' ⟨h1, h2⟩ => ⟨by rw [h1, farI, if_pos h], h2⟩
end Go.Proofs.Ytcljldnaecldnaa
