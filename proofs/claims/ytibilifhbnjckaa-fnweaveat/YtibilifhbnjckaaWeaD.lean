/- Where places go, in the model. -/
import Derived.Test.YtibilifhbnjckaaWeaC
namespace Go.Proofs.Ytibilifhbnjckaa
open Go.ChangeShapes Go.WideShapes Go.ChangeAt Go.RowKit
theorem specAt_no (n k p : Int) (w : World) (hok : atOkB n k p = false) :
    Calls Try.prog 17 #[.int .i64 n, .int .i64 k, .int .i64 p] w fun e w' => e = .returned (.int .i64 (-1)) ∧ w = w' := by
  by_cases hk : (decide (1 ≤ k) && decide (k ≤ 16)) = true
  · have hk2 := hk
    rw [Bool.and_eq_true, decide_eq_true_iff, decide_eq_true_iff] at hk2
    obtain ⟨k1, k2⟩ := hk2
    have HK := Lib.hid hk
    have hz : (k == 0) = false := beq_eq_false_iff_ne.2 (by omega)
    have hz2 : k ≠ 0 := by omega
    have hm1 : (k == -1) = false := beq_eq_false_iff_ne.2 (by omega)
    clear hk
    by_cases hn : (decide (1 ≤ n) && decide (n ≤ 600)) = true
    · have hn2 := hn
      rw [Bool.and_eq_true, decide_eq_true_iff, decide_eq_true_iff] at hn2
      obtain ⟨n1, n2⟩ := hn2
      have HN := Lib.hid hn
      have HT := Lib.hid (show n.tmod k = n % k from Int.tmod_eq_emod_of_nonneg (by omega))
      clear hn
      have hrest : (n % k == 0 && (decide (0 ≤ p) && decide (p ≤ n - 1))) = false := by
        rw [← hok]
        unfold atOkB wOkB
        rw [decide_eq_true n2, decide_eq_true k1, decide_eq_true k2, Bool.true_and, Bool.true_and, Bool.true_and, HT.out, Bool.and_assoc]
        congr 2
        exact decide_eq_decide.2 (by omega)
      clear hok
      cases hm : n % k == 0 with
      | false =>
        have hm2 : (n % k != 0) = true := by rw [bne, hm]; rfl
        clear hrest
        go_enter Try.func17, Try.ntmps17
        go_wp2_with (go_at_call 29; refine (wl1In_any _ _ _ _).mono ?_; rintro e w' ⟨rfl, rfl⟩; first | rw [HK.out] | rw [HN.out])
        go_ret
        exact ⟨rfl, rfl⟩
      | true =>
        rw [hm, Bool.true_and] at hrest
        have HR := Lib.hid hrest
        have hm2 : (n % k != 0) = false := by rw [bne, hm]; rfl
        clear hrest
        go_enter Try.func17, Try.ntmps17
        go_wp2_with (go_at_call 29; refine (wl1In_any _ _ _ _).mono ?_; rintro e w' ⟨rfl, rfl⟩; first | rw [HK.out] | rw [HN.out] | rw [HR.out])
        go_ret
        exact ⟨rfl, rfl⟩
    · have hn : (decide (1 ≤ n) && decide (n ≤ 600)) = false := by simpa using hn
      have HN := Lib.hid hn
      clear hn hok
      go_enter Try.func17, Try.ntmps17
      go_wp2_with (go_at_call 29; refine (wl1In_any _ _ _ _).mono ?_; rintro e w' ⟨rfl, rfl⟩; first | rw [HK.out] | rw [HN.out])
      go_ret
      exact ⟨rfl, rfl⟩
  · have hk : (decide (1 ≤ k) && decide (k ≤ 16)) = false := by simpa using hk
    have HK := Lib.hid hk
    clear hk hok
    go_enter Try.func17, Try.ntmps17
    go_wp2_with (go_at_call 29; refine (wl1In_any k 1 16 _).mono ?_; rintro e w' ⟨rfl, rfl⟩; rw [HK.out])
    go_ret
    exact ⟨rfl, rfl⟩
set_option maxHeartbeats 800000 in
theorem specAt_yes (n k cols p : Nat) (w : World) (hs : n = k * cols) (hk : 1 ≤ k) (hk2 : k ≤ 16) (h6 : n ≤ 600) (hp : p < n) (hc : 1 ≤ cols) :
    Calls Try.prog 17 #[.int .i64 n, .int .i64 k, .int .i64 p] w fun e w' => e = .returned (.int .i64 (atW k cols p : Nat)) ∧ Below w.heap.size w w' := by
  have HK := Lib.hid (show (decide (1 ≤ (k : Int)) && decide ((k : Int) ≤ 16)) = true by rw [decide_eq_true (show 1 ≤ (k : Int) by omega), decide_eq_true (show (k : Int) ≤ 16 by omega)]; rfl)
  have HN := Lib.hid (show (decide (1 ≤ (n : Int)) && decide ((n : Int) ≤ 600)) = true by rw [decide_eq_true (show 1 ≤ (n : Int) by omega), decide_eq_true (show (n : Int) ≤ 600 by omega)]; rfl)
  have HR := Lib.hid (show (decide (0 ≤ (p : Int)) && decide ((p : Int) ≤ (n : Int) - 1)) = true by rw [decide_eq_true (show 0 ≤ (p : Int) by omega), decide_eq_true (show (p : Int) ≤ (n : Int) - 1 by omega)]; rfl)
  have hz : ((k : Int) == 0) = false := beq_eq_false_iff_ne.2 (by omega)
  have hz2 : (k : Int) ≠ 0 := by omega
  have hm1 : ((k : Int) == -1) = false := beq_eq_false_iff_ne.2 (by omega)
  have hcz : ((cols : Int) == 0) = false := beq_eq_false_iff_ne.2 (by omega)
  have hcz2 : (cols : Int) ≠ 0 := by omega
  have hcm1 : ((cols : Int) == -1) = false := beq_eq_false_iff_ne.2 (by omega)
  have hcl := cols_le hs hk h6
  have hmod : (n : Int) % (k : Int) = 0 := by rw [hs, Int.natCast_mul]; exact Int.mul_emod_right _ _
  have hdiv := div_of hs hk
  have hpm : (p : Int) % (cols : Int) = ((p % cols : Nat) : Int) := by rw [Int.natCast_emod]
  have hpd : (p : Int) / (cols : Int) = ((p / cols : Nat) : Int) := by rw [Int.natCast_ediv]
  have h1 : p / cols < k := (Nat.div_lt_iff_lt_mul (by omega)).2 (by rw [← hs]; exact hp)
  have h2 : p % cols < cols := Nat.mod_lt _ (by omega)
  have h3 : (p % cols) * k ≤ cols * k := Nat.mul_le_mul_right _ (by omega)
  have h4 : p % cols * k + p / cols = atW k cols p := rfl
  rw [Nat.mul_comm cols k, ← hs] at h3
  generalize p % cols = a at hpm h2 h3 h4
  generalize p / cols = b at hpd h1 h4
  obtain ⟨c, hcc⟩ : ∃ c, a * k = c := ⟨_, rfl⟩
  have hmul : (a : Int) * (k : Int) = (c : Int) := by rw [← hcc, Int.natCast_mul]
  rw [hcc] at h3 h4
  have HA := Lib.hid h4
  clear hs h4 hcc
  go_enter Try.func17, Try.ntmps17
  go_wp2_with (go_at_call 29; refine (wl1In_any _ _ _ _).mono ?_; rintro e w' ⟨rfl, rfl⟩; first | rw [HK.out] | rw [HN.out] | rw [HR.out])
  go_region
  go_wp2
  go_ret
  refine ⟨?_, (Below.refl _ _).drew⟩
  rw [← HA.out]
  rfl
theorem implAt_any (n k p : Int) (w : World) (h0 : -9223372036854775808 ≤ n) (h1 : n ≤ 9223372036854775807) :
    Calls Try.prog 16 #[.int .i64 n, .int .i64 k, .int .i64 p] w fun e w' => e = .returned (.int .i64 (atWB n k p)) ∧ Below w.heap.size w w' := by
  cases hok : atOkB n k p with
  | false =>
    refine (implAt_no n k p w hok h0 h1).mono ?_
    rintro e w' ⟨rfl, rfl⟩
    exact ⟨by unfold atWB; rw [if_neg (by rw [hok]; decide)], Below.refl _ _⟩
  | true =>
    obtain ⟨hw, n, k, cols, p, rfl, rfl, rfl, hk, hk2, hs, h6, hp, hc, he⟩ := atOk_parts hok
    refine (implAt_yes n k cols p w hw hs hk hk2 h6 hp hc).mono ?_
    rintro e w' ⟨rfl, hb⟩
    exact ⟨by rw [he], hb⟩
theorem specAt_any (n k p : Int) (w : World) :
    Calls Try.prog 17 #[.int .i64 n, .int .i64 k, .int .i64 p] w fun e w' => e = .returned (.int .i64 (atWB n k p)) ∧ Below w.heap.size w w' := by
  cases hok : atOkB n k p with
  | false =>
    refine (specAt_no n k p w hok).mono ?_
    rintro e w' ⟨rfl, rfl⟩
    exact ⟨by unfold atWB; rw [if_neg (by rw [hok]; decide)], Below.refl _ _⟩
  | true =>
    obtain ⟨_, n, k, cols, p, rfl, rfl, rfl, hk, hk2, hs, h6, hp, hc, he⟩ := atOk_parts hok
    refine (specAt_yes n k cols p w hs hk hk2 h6 hp hc).mono ?_
    rintro e w' ⟨rfl, hb⟩
    exact ⟨by rw [he], hb⟩
end Go.Proofs.Ytibilifhbnjckaa
