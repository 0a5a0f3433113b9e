/- VarGet of the model. -/
import Derived.Test.YthbijeicdjpbeaaVarC
namespace Go.Proofs.Ythbijeicdjpbeaa
open Go.ChangeShapes Go.WideShapes Go.ChangeAt Go.RowKit
theorem w64 (x : Int) (h0 : 0 ≤ x) (h1 : x < 9223372036854775808) : wrap64 x = x := by unfold wrap64; omega
theorem okV_all {t : List UInt8} {i : Nat} (ha : ∀ j, (h : j < t.length) → j < i → 128 ≤ t[j].toNat) (hi : t.length ≤ i ∨ 9 ≤ i) : okV t = false := by
  cases h : okV t with
  | false => rfl
  | true =>
    obtain ⟨hk, h1, _⟩ := okV_get h
    have h2 := (kV_le 8 t).1
    have := ha _ hk (by omega)
    omega
theorem okV_zero {t : List UInt8} {i : Nat} (hi : i < t.length) (h0 : 0 < i) (h8 : i ≤ 8) (hz : t[i].toNat = 0) (ha : ∀ j, (h : j < t.length) → j < i → 128 ≤ t[j].toNat) : okV t = false := by
  have hk := kV_at 8 t i h8 hi ha (fun _ _ => by omega)
  cases h : okV t with
  | false => rfl
  | true =>
    obtain ⟨hk2, _, h3⟩ := okV_get h
    have h4 := h3 (by simp only [hk]; exact hz)
    omega
theorem okV_here {t : List UInt8} {i : Nat} (hi : i < t.length) (h8 : i ≤ 8) (hb : t[i].toNat < 128) (hz : t[i].toNat = 0 → i = 0) (ha : ∀ j, (h : j < t.length) → j < i → 128 ≤ t[j].toNat) : okV t = true ∧ getV t = (valL (t.take (i + 1)), i + 1) := by
  have hk := kV_at 8 t i h8 hi ha (fun _ _ => hb)
  have h : okV t = true := okV_of (by rw [hk]; exact hi) (by simp only [hk]; exact hb) (by simp only [hk]; exact hz)
  exact ⟨h, by rw [getV_yes h, hk]⟩
theorem pow_le8 {i : Nat} (h : i ≤ 8) : 128 ^ i ≤ 72057594037927936 := Nat.le_trans (Nat.pow_le_pow_right (by decide) h) (by decide)
theorem pow_le7 {i : Nat} (h : i ≤ 7) : 128 ^ i ≤ 562949953421312 := Nat.le_trans (Nat.pow_le_pow_right (by decide) h) (by decide)
theorem valL_take {t : List UInt8} {i : Nat} (hi : i < t.length) : valL (t.take (i + 1)) = valL (t.take i) + t[i].toNat % 128 * 128 ^ i := by
  rw [take_snoc hi, valL_append, List.length_take, Nat.min_eq_left (by omega), Nat.mul_comm]
  simp [valL]
set_option maxRecDepth 100000 in
set_option maxHeartbeats 4000000 in
theorem specVarGet_any (s : ByteArray) (w : World) :
    Calls Try.prog 22 #[.string s] w fun e w' => e = .returned (.tuple #[.int .i64 (((getV s.data.toList).1 : Nat) : Int), .int .i64 ((getV s.data.toList).2 : Nat)]) ∧ Below w.heap.size w w' := by
  have HSL := Lib.hid (size_list s)
  go_enter Try.func22, Try.ntmps22
  go_wp2
  go_loopw [4, 5, 6] (fun n u i wr => ∃ k : Nat, k ≤ s.size ∧ k ≤ 9 ∧ i = .int .i64 k ∧ n = .int .i64 ((valL (s.data.toList.take k) : Nat) : Int) ∧ u = .int .i64 ((128 ^ (min k 8) : Nat) : Int) ∧ (∀ j, (h : j < s.data.toList.length) → j < k → 128 ≤ s.data.toList[j].toNat) ∧ w = wr) (fun _ _ i _ => s.size - (intOf i).toNat)
  case atStart => exact ⟨0, Nat.zero_le _, by omega, rfl, rfl, rfl, fun _ _ h => absurd h (by omega), rfl⟩
  case round =>
    obtain ⟨k, hk, hk9, rfl, rfl, rfl, ha, rfl⟩ := hrel
    have HA := Lib.hid ha
    clear ha
    by_cases hlt : k < s.size ∧ k < 9
    · obtain ⟨hl1, hl2⟩ := hlt
      have HL := Lib.hid (show k < s.data.toList.length by rw [HSL.out]; exact hl1)
      have HVT := Lib.hid (valL_take HL.out)
      have hkk : s.data.toList[k]'HL.out = s[k] := rfl
      rw [hkk] at HVT
      have HKK := Lib.hid hkk
      clear hkk
      have hb8 := UInt8.toNat_lt s[k]
      have hvl := valL_lt (s.data.toList.take k)
      have hvl1 := valL_lt (s.data.toList.take (k + 1))
      rw [List.length_take, HSL.out, Nat.min_eq_left (by omega)] at hvl hvl1
      rw [Nat.min_eq_left (show k ≤ 8 by omega)]
      have hu := pow_le8 (show k ≤ 8 by omega)
      have hv9 : valL (s.data.toList.take (k + 1)) < 9223372036854775808 := Nat.lt_of_lt_of_le hvl1 (Nat.le_trans (Nat.pow_le_pow_right (by decide) (show k + 1 ≤ 9 by omega)) (by decide))
      have hu7 : k < 8 → 128 ^ k ≤ 562949953421312 := fun h => pow_le7 (by omega)
      have hun : 128 ^ (k + 1) = 128 ^ k * 128 := Nat.pow_succ _ _
      have HUN := Lib.hid (show k < 8 → 128 ^ (min (k + 1) 8) = 128 ^ k * 128 by intro h; rw [Nat.min_eq_left (by omega), hun])
      have HU8 := Lib.hid (show k = 8 → 128 ^ (min (k + 1) 8) = 128 ^ k by intro h; rw [h]; rfl)
      have HX2 := Lib.hid (show (s.data.toList[k]'HL.out).toNat = s[k].toNat by rw [HKK.out])
      generalize valL (s.data.toList.take k) = n at *
      generalize 128 ^ k = u at *
      have HFIN := Lib.hid (show wrap64 ((n : Int) + wrap64 ((s[k].toNat : Int) % 128 * (u : Int))) = ((n + s[k].toNat % 128 * u : Nat) : Int) by
        have h1 : ((s[k].toNat : Int) % 128 * (u : Int)) = ((s[k].toNat % 128 * u : Nat) : Int) := by simp
        have h2 : n + s[k].toNat % 128 * u < 9223372036854775808 := by rw [← HVT.out]; exact hv9
        rw [h1]
        generalize s[k].toNat % 128 * u = p at h2 ⊢
        rw [w64 (p : Int) (by omega) (by omega), w64 _ (by omega) (by omega)]
        simp)
      have hn9 : n < 9223372036854775808 := Nat.lt_of_lt_of_le hvl (Nat.le_trans hu (by decide))
      have HF0 := Lib.hid (show s[k].toNat = 0 → wrap64 ((n : Int) + wrap64 0) = ((n + s[k].toNat % 128 * u : Nat) : Int) by
        intro h
        rw [h, w64 0 (by omega) (by omega), w64 _ (by omega) (by omega)]
        simp)
      clear hvl hvl1 hv9 hun HKK
      by_cases hb : s[k].toNat < 128
      · by_cases hz : s[k].toNat = 0
        · have HFZ := Lib.hid (HF0.out hz)
          by_cases hk0 : k = 0
          · obtain ⟨e1, e2⟩ := okV_here HL.out (by omega) (by rw [HX2.out]; exact hb) (fun _ => hk0) HA.out
            have HE := Lib.hid e2
            have hki : decide ((0 : Int) < (k : Int)) = false := decide_eq_false (by omega)
            have hki2 : decide (0 < k) = false := decide_eq_false (by omega)
            clear e1 e2 hk0
            go_wp2
            go_ret2
            exact ⟨by rw [HE.out, HVT.out, ← HFZ.out]; rfl, Below.refl _ _⟩
          · have HE := Lib.hid (getV_no (okV_zero HL.out (by omega) (by omega) (by rw [HX2.out]; exact hz) HA.out))
            have hki : decide ((0 : Int) < (k : Int)) = true := decide_eq_true (by omega)
            have hki2 : decide (0 < k) = true := decide_eq_true (by omega)
            go_wp2
            go_ret2
            exact ⟨by rw [HE.out]; rfl, Below.refl _ _⟩
        · obtain ⟨e1, e2⟩ := okV_here HL.out (by omega) (by rw [HX2.out]; exact hb) (fun h => absurd (by rw [← HX2.out]; exact h) hz) HA.out
          have HE := Lib.hid e2
          clear e1 e2
          have hzb : ((s[k].toNat : Int) == 0) = false := beq_eq_false_iff_ne.2 (by omega)
          go_wp2
          go_ret2
          exact ⟨by rw [HE.out, HVT.out, ← HFIN.out]; rfl, Below.refl _ _⟩
      · have HA2 := Lib.hid (show ∀ j, (h : j < s.data.toList.length) → j < k + 1 → 128 ≤ s.data.toList[j].toNat by
          intro j h hj
          by_cases e : j = k
          · subst e; rw [HX2.out]; omega
          · exact HA.out j h (by omega))
        by_cases h8 : k < 8
        · have hu77 := hu7 h8
          clear hu7
          go_wp2
          go_roundw
          case rel => exact ⟨k + 1, by omega, by omega, by go_num, by rw [HVT.out, ← HFIN.out]; rfl, by rw [HUN.out h8]; exact val_int (by omega), HA2.out, trivial⟩
          case measure => simp [intOf]; omega
        · clear hu7
          go_wp2
          go_roundw
          case rel => exact ⟨k + 1, by omega, by omega, by go_num, by rw [HVT.out, ← HFIN.out]; rfl, by rw [HU8.out (by omega)], HA2.out, trivial⟩
          case measure => simp [intOf]; omega
    · have HE := Lib.hid (getV_no (okV_all HA.out (show s.data.toList.length ≤ k ∨ 9 ≤ k by rw [HSL.out]; omega)))
      by_cases hl1 : k < s.size
      · have h9 : (9 : Int) ≤ (k : Int) := by omega
        go_wp2
        go_ret2
        exact ⟨by rw [HE.out]; rfl, Below.refl _ _⟩
      · go_wp2
        go_ret2
        exact ⟨by rw [HE.out]; rfl, Below.refl _ _⟩
end Go.Proofs.Ythbijeicdjpbeaa
