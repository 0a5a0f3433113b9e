/- Groups in the model: HamPut and HamGet. -/
import Derived.Test.YtjnehfbeokpgpaaDoorHamJ
namespace Go.Proofs.YtjnehfbeokpgpaaDoor
open Go.ChangeShapes Go.WideShapes Go.ChangeAt Go.RowKit
set_option maxRecDepth 100000 in
set_option maxHeartbeats 8000000 in
theorem specHam_yes (s : ByteArray) (w : World) (h : hamOkB s.data.toList = true) :
    Calls Tryd.prog 10 #[.string s] w fun e w' => e = .returned (.string ⟨(hamL s.data.toList).toArray⟩) ∧ Below w.heap.size w w' := by
  obtain ⟨hok, hsz, h4⟩ := hamOk_parts h
  have hmax : s.size ≤ maxLen := by unfold maxLen; omega
  have H := Lib.hid hok
  have hm4 : ((s.size : Int) % 4 != 0) = false := by rw [show (s.size : Int) % 4 = 0 by omega]; rfl
  have H4 := Lib.hid h4
  clear h h4
  go_enter Tryd.func10, Tryd.ntmps10
  go_wp2_with (go_at_call 22; refine (l2Ok_any _ _ hmax).mono ?_; rintro e w' ⟨rfl, rfl⟩)
  clear hok hm4
  go_loopw [3, 4] (fun v i wr => ∃ (k : Nat) (X : ByteArray), 4 * k ≤ s.size ∧ i = .int .i64 ((4 * k : Nat) : Int) ∧ v = .string X ∧ X.data.toList = hamL (s.data.toList.take (4 * k)) ∧ Below w.heap.size w wr) (fun _ i _ => s.size + 4 - (intOf i).toNat)
  case atStart => exact ⟨0, ⟨#[]⟩, by omega, rfl, rfl, rfl, Below.refl _ _⟩
  case round =>
    obtain ⟨k, X, hk, rfl, rfl, hX, hb⟩ := hrel
    obtain ⟨i, hi4⟩ : ∃ i, 4 * k = i := ⟨_, rfl⟩
    rw [hi4] at hk hX ⊢
    have HI4 := Lib.hid hi4
    have HX := Lib.hid hX
    have HB := Lib.hid hb
    clear hX hb hi4
    by_cases hlt : i < s.size
    · obtain ⟨i4, hi4, hi4s⟩ : ∃ i4 : Nat, (i : Int) + 4 = (i4 : Int) ∧ i4 ≤ s.size := ⟨i + 4, by omega, by have := HI4.out; have := H4.out; omega⟩
      have hi4n : i4 = i + 4 := by omega
      have hii : (i : Int) ≤ (i4 : Int) := by omega
      have hi4i : (i4 : Int) ≤ (s.size : Int) := by omega
      have hXs : X.size ≤ 1100 := by
        rw [← size_list, HX.out, hamL_take_len s i (by have := HI4.out; omega) (by omega)]; omega
      have HS := Lib.hid (show hamL (s.data.toList.take i4) = hamL (s.data.toList.take i) ++ ham7 s[i] (s[i + 1]'(by omega)) (s[i + 2]'(by omega)) (s[i + 3]'(by omega)) by
        subst hi4n
        exact hamL_take s i (by have := HI4.out; omega) hi4s)
      obtain ⟨t, ht⟩ : ∃ t, s.extract i i4 = t := ⟨_, rfl⟩
      have ht4 : 4 ≤ t.size := by rw [← ht, ByteArray.size_extract]; omega
      have e0 : t[0] = s[i + 0]'(by omega) := by subst ht; exact ext_at s i i4 0 hi4s (by omega)
      have b0 : t[0] = 48 ∨ t[0] = 49 := by rw [e0]; exact ok_bit H.out (by omega)
      have e1 : t[1] = s[i + 1]'(by omega) := by subst ht; exact ext_at s i i4 1 hi4s (by omega)
      have b1 : t[1] = 48 ∨ t[1] = 49 := by rw [e1]; exact ok_bit H.out (by omega)
      have e2 : t[2] = s[i + 2]'(by omega) := by subst ht; exact ext_at s i i4 2 hi4s (by omega)
      have b2 : t[2] = 48 ∨ t[2] = 49 := by rw [e2]; exact ok_bit H.out (by omega)
      have e3 : t[3] = s[i + 3]'(by omega) := by subst ht; exact ext_at s i i4 3 hi4s (by omega)
      have b3 : t[3] = 48 ∨ t[3] = 49 := by rw [e3]; exact ok_bit H.out (by omega)
      have HT := Lib.hid (show ham7 s[i] (s[i + 1]'(by omega)) (s[i + 2]'(by omega)) (s[i + 3]'(by omega)) = ham7 t[0] t[1] t[2] t[3] by
        rw [e0, e1, e2, e3]; rfl)
      have B0 := Lib.hid b0
      have B1 := Lib.hid b1
      have B2 := Lib.hid b2
      have B3 := Lib.hid b3
      have HTE := Lib.hid ht
      clear e0 e1 e2 e3 b0 b1 b2 b3 ht hi4n
      go_wp2_with fail
      have hw : (s.extract i i4) = t := HTE.out
      rw [hw]
      clear hw
      refine (l12Block_any t _ ht4 B0.out B1.out B2.out B3.out).mono ?_
      rintro e w1 ⟨rfl, hb1⟩
      have HB1 := Lib.hid (HB.out.trans (hb1.mono HB.out.size))
      clear hb1
      obtain ⟨Y, hY⟩ : ∃ Y : ByteArray, Y = ⟨(ham7 t[0] t[1] t[2] t[3]).toArray⟩ := ⟨_, rfl⟩
      have hYs : Y.size ≤ 7 := by rw [hY]; exact Nat.le_refl 7
      have HY := Lib.hid (show Y.data.toList = ham7 t[0] t[1] t[2] t[3] by rw [hY])
      rw [← hY]
      clear hY
      go_wp2
      go_roundw
      case rel =>
        refine ⟨k + 1, X ++ Y, by have := HI4.out; omega, val_int (by have := HI4.out; omega), rfl, ?_, HB1.out⟩
        rw [show 4 * (k + 1) = i4 by have := HI4.out; omega, HS.out, HT.out, ← HY.out, ← HX.out]; simp
      case measure => simp [intOf]; omega
    · have HE := Lib.hid (take_all s i (by omega))
      go_wp2
      go_ret
      refine ⟨?_, HB.out⟩
      rw [← HE.out, ← HX.out, Lib.mk_data]; rfl
theorem specHam_no (s : ByteArray) (w : World) (hs : s.size ≤ maxLen) (h : hamOkB s.data.toList = false) :
    Calls Tryd.prog 10 #[.string s] w fun e w' => e = .returned (.string ⟨#[]⟩) ∧ w = w' := by
  have hs0 := hs
  unfold maxLen at hs0
  cases hk : okB s.data.toList with
  | false =>
    clear h
    go_enter Tryd.func10, Tryd.ntmps10
    go_wp2_with (go_at_call 22; refine (l2Ok_any _ _ hs).mono ?_; rintro e w' ⟨rfl, rfl⟩)
    go_ret
    exact ⟨rfl, rfl⟩
  | true =>
    by_cases hm : s.size % 4 = 0
    · have hbi : (600 : Int) < (s.size : Int) := by
        unfold hamOkB at h
        rw [hk, Bool.true_and, size_list, decide_eq_true hm, Bool.and_true, decide_eq_false_iff_not] at h
        omega
      have hm4 : ((s.size : Int) % 4 != 0) = false := by rw [show (s.size : Int) % 4 = 0 by omega]; rfl
      clear h hm
      go_enter Tryd.func10, Tryd.ntmps10
      go_wp2_with (go_at_call 22; refine (l2Ok_any _ _ hs).mono ?_; rintro e w' ⟨rfl, rfl⟩)
      go_ret
      exact ⟨rfl, rfl⟩
    · have hm4 : ((s.size : Int) % 4 != 0) = true := by rw [bne_iff_ne]; omega
      clear h hm
      go_enter Tryd.func10, Tryd.ntmps10
      go_wp2_with (go_at_call 22; refine (l2Ok_any _ _ hs).mono ?_; rintro e w' ⟨rfl, rfl⟩)
      go_ret
      exact ⟨rfl, rfl⟩
theorem specHam_any (s : ByteArray) (w : World) (hs : s.size ≤ maxLen) :
    Calls Tryd.prog 10 #[.string s] w fun e w' => e = .returned (.string ⟨(hamPutL s.data.toList).toArray⟩) ∧ Below w.heap.size w w' := by
  cases hk : hamOkB s.data.toList with
  | false => exact (specHam_no s w hs hk).mono fun e w' ⟨h1, h2⟩ => ⟨by rw [hamPutL_no hk]; exact h1, h2 ▸ Below.refl _ _⟩
  | true => exact (specHam_yes s w hk).mono fun e w' ⟨h1, h2⟩ => ⟨by rw [hamPutL_yes hk]; exact h1, h2⟩
theorem place_lt : ∀ y0 y1 y2 y3 y4 y5 y6 : Bool, ∀ k, k ≤ 7 → placeN ([bitC y0, bitC y1, bitC y2, bitC y3, bitC y4, bitC y5, bitC y6].take k) < 8 := by decide +kernel
theorem place_step : ∀ y0 y1 y2 y3 y4 y5 y6 : Bool, ∀ k, k < 7 → placeN ([bitC y0, bitC y1, bitC y2, bitC y3, bitC y4, bitC y5, bitC y6].take (k + 1)) = if [y0, y1, y2, y3, y4, y5, y6].getD k false then placeN ([bitC y0, bitC y1, bitC y2, bitC y3, bitC y4, bitC y5, bitC y6].take k) ^^^ (k + 1) else placeN ([bitC y0, bitC y1, bitC y2, bitC y3, bitC y4, bitC y5, bitC y6].take k) := by decide +kernel
set_option maxRecDepth 100000 in
set_option maxHeartbeats 8000000 in
theorem l12Place_any (t : ByteArray) (y0 y1 y2 y3 y4 y5 y6 : Bool) (w : World) (ht : 7 ≤ t.size)
    (b0 : ((t[0].toNat : Int) == 49) = y0) (b1 : ((t[1].toNat : Int) == 49) = y1) (b2 : ((t[2].toNat : Int) == 49) = y2) (b3 : ((t[3].toNat : Int) == 49) = y3) (b4 : ((t[4].toNat : Int) == 49) = y4) (b5 : ((t[5].toNat : Int) == 49) = y5) (b6 : ((t[6].toNat : Int) == 49) = y6) :
    Calls Tryd.prog 30 #[.string t] w fun e w' => e = .returned (.int .i64 (placeN [bitC y0, bitC y1, bitC y2, bitC y3, bitC y4, bitC y5, bitC y6] : Int)) ∧ w = w' := by
  have B0 := Lib.hid b0
  have B1 := Lib.hid b1
  have B2 := Lib.hid b2
  have B3 := Lib.hid b3
  have B4 := Lib.hid b4
  have B5 := Lib.hid b5
  have B6 := Lib.hid b6
  clear b0 b1 b2 b3 b4 b5 b6
  go_enter Tryd.func30, Tryd.ntmps30
  go_wp2
  go_loop [3, 4] (fun n i => ∃ k : Nat, k ≤ 7 ∧ i = .int .i64 k ∧ n = .int .i64 (placeN ([bitC y0, bitC y1, bitC y2, bitC y3, bitC y4, bitC y5, bitC y6].take k) : Int)) (fun _ i => 7 - (intOf i).toNat)
  case atStart => exact ⟨0, by omega, rfl, rfl⟩
  case round =>
    obtain ⟨k, hk, rfl, rfl⟩ := hrel
    have hlt := place_lt y0 y1 y2 y3 y4 y5 y6 k hk
    by_cases h7 : k < 7
    · have HS := Lib.hid (place_step y0 y1 y2 y3 y4 y5 y6 k h7)
      obtain ⟨S, hS⟩ : ∃ S, placeN ([bitC y0, bitC y1, bitC y2, bitC y3, bitC y4, bitC y5, bitC y6].take k) = S := ⟨_, rfl⟩
      rw [hS] at hlt HS ⊢
      clear hS
      rcases (show k = 0 ∨ k = 1 ∨ k = 2 ∨ k = 3 ∨ k = 4 ∨ k = 5 ∨ k = 6 by omega) with rfl | rfl | rfl | rfl | rfl | rfl | rfl
      · have hx : bits .xor .i64 (S : Int) 1 = ((S ^^^ 1 : Nat) : Int) := bits_xor_i64_nat S 1 (by omega) (by omega)
        have hc := B0.out
        cases y0
        all_goals
          go_wp2
          go_round
          case rel => exact ⟨1, by omega, rfl, by rw [HS.out]; first | rfl | simp⟩
          case measure => simp [intOf]
      · have hx : bits .xor .i64 (S : Int) 2 = ((S ^^^ 2 : Nat) : Int) := bits_xor_i64_nat S 2 (by omega) (by omega)
        have hc := B1.out
        cases y1
        all_goals
          go_wp2
          go_round
          case rel => exact ⟨2, by omega, rfl, by rw [HS.out]; first | rfl | simp⟩
          case measure => simp [intOf]
      · have hx : bits .xor .i64 (S : Int) 3 = ((S ^^^ 3 : Nat) : Int) := bits_xor_i64_nat S 3 (by omega) (by omega)
        have hc := B2.out
        cases y2
        all_goals
          go_wp2
          go_round
          case rel => exact ⟨3, by omega, rfl, by rw [HS.out]; first | rfl | simp⟩
          case measure => simp [intOf]
      · have hx : bits .xor .i64 (S : Int) 4 = ((S ^^^ 4 : Nat) : Int) := bits_xor_i64_nat S 4 (by omega) (by omega)
        have hc := B3.out
        cases y3
        all_goals
          go_wp2
          go_round
          case rel => exact ⟨4, by omega, rfl, by rw [HS.out]; first | rfl | simp⟩
          case measure => simp [intOf]
      · have hx : bits .xor .i64 (S : Int) 5 = ((S ^^^ 5 : Nat) : Int) := bits_xor_i64_nat S 5 (by omega) (by omega)
        have hc := B4.out
        cases y4
        all_goals
          go_wp2
          go_round
          case rel => exact ⟨5, by omega, rfl, by rw [HS.out]; first | rfl | simp⟩
          case measure => simp [intOf]
      · have hx : bits .xor .i64 (S : Int) 6 = ((S ^^^ 6 : Nat) : Int) := bits_xor_i64_nat S 6 (by omega) (by omega)
        have hc := B5.out
        cases y5
        all_goals
          go_wp2
          go_round
          case rel => exact ⟨6, by omega, rfl, by rw [HS.out]; first | rfl | simp⟩
          case measure => simp [intOf]
      · have hx : bits .xor .i64 (S : Int) 7 = ((S ^^^ 7 : Nat) : Int) := bits_xor_i64_nat S 7 (by omega) (by omega)
        have hc := B6.out
        cases y6
        all_goals
          go_wp2
          go_round
          case rel => exact ⟨7, by omega, rfl, by rw [HS.out]; first | rfl | simp⟩
          case measure => simp [intOf]
    · obtain rfl : k = 7 := by omega
      go_wp2
      go_ret
      exact ⟨rfl, rfl⟩
theorem specHamGet_no (s : ByteArray) (w : World) (hs : s.size ≤ maxLen) (h : getOk7 s.data.toList = false) :
    Calls Tryd.prog 14 #[.string s] w fun e w' => e = .returned (.tuple #[.string ⟨#[]⟩, .int .i64 0, .bool false]) ∧ w = w' := by
  have hs0 := hs
  unfold maxLen at hs0
  cases hk : okB s.data.toList with
  | false =>
    clear h
    go_enter Tryd.func14, Tryd.ntmps14
    go_wp2_with (go_at_call 22; refine (l2Ok_any _ _ hs).mono ?_; rintro e w' ⟨rfl, rfl⟩)
    exact bodyPost_ret (v := .tuple #[.string ⟨#[]⟩, .int .i64 0, .bool false]) (by simp [results, Tryd.results14, go_sem]) rfl ⟨rfl, rfl⟩
  | true =>
    have hm7 : ((s.size : Int) % 7 != 0) = true := by
      rw [bne_iff_ne]
      intro h0
      unfold getOk7 at h
      rw [hk, Bool.true_and, size_list, decide_eq_false_iff_not] at h
      omega
    clear h
    go_enter Tryd.func14, Tryd.ntmps14
    go_wp2_with (go_at_call 22; refine (l2Ok_any _ _ hs).mono ?_; rintro e w' ⟨rfl, rfl⟩)
    exact bodyPost_ret (v := .tuple #[.string ⟨#[]⟩, .int .i64 0, .bool false]) (by simp [results, Tryd.results14, go_sem]) rfl ⟨rfl, rfl⟩
theorem data4_ext (X t : ByteArray) (ht : 7 ≤ t.size) : ((X ++ t.extract 2 3) ++ t.extract 4 7).data.toList = X.data.toList ++ [t[2], t[4], t[5], t[6]] := by
  have e1 : (t.extract 2 3).data.toList = [t[2]] := by
    rw [Lib.extract_data, drop_cons t 2 (by omega)]; rfl
  have e2 : (t.extract 4 7).data.toList = [t[4], t[5], t[6]] := by
    rw [Lib.extract_data, drop_cons t 4 (by omega), drop_cons t 5 (by omega), drop_cons t 6 (by omega)]; rfl
  rw [ByteArray.data_append, ByteArray.data_append, Array.toList_append, Array.toList_append, e1, e2, List.append_assoc]; rfl
theorem seven_list (t : ByteArray) (h : t.size = 7) : t.data.toList = [t[0], t[1], t[2], t[3], t[4], t[5], t[6]] := by
  have h2 := take_seven t 0 (by omega)
  rw [take_all t (0 + 7) (by omega)] at h2
  rw [h2]; rfl
set_option maxRecDepth 100000 in
set_option maxHeartbeats 16000000 in
theorem specHamGet_yes (s : ByteArray) (w : World) (h : getOk7 s.data.toList = true) :
    Calls Tryd.prog 14 #[.string s] w fun e w' => e = .returned (.tuple #[.string ⟨(unhamL s.data.toList).1.toArray⟩, .int .i64 ((unhamL s.data.toList).2 : Int), .bool true]) ∧ Below w.heap.size w w' := by
  obtain ⟨hok, h7⟩ := getOk7_parts h
  have hsz := ok_size hok
  have hmax : s.size ≤ maxLen := by unfold maxLen; omega
  have H := Lib.hid hok
  have hm7 : ((s.size : Int) % 7 != 0) = false := by rw [show (s.size : Int) % 7 = 0 by omega]; rfl
  have H7 := Lib.hid h7
  clear h h7
  go_enter Tryd.func14, Tryd.ntmps14
  go_wp2_with (go_at_call 22; refine (l2Ok_any _ _ hmax).mono ?_; rintro e w' ⟨rfl, rfl⟩)
  clear hok hm7
  go_loopw [5, 6, 7, 8, 9] (fun v n i _ _ wr => ∃ (k : Nat) (X : ByteArray), 7 * k ≤ s.size ∧ i = .int .i64 ((7 * k : Nat) : Int) ∧ v = .string X ∧ X.data.toList = (unhamL (s.data.toList.take (7 * k))).1 ∧ n = .int .i64 ((unhamL (s.data.toList.take (7 * k))).2 : Int) ∧ Below w.heap.size w wr) (fun _ _ i _ _ _ => s.size + 7 - (intOf i).toNat)
  case atStart => exact ⟨0, ⟨#[]⟩, by omega, rfl, rfl, rfl, rfl, Below.refl _ _⟩
  case round =>
    obtain ⟨k, X, hk, rfl, rfl, hX, rfl, hb⟩ := hrel
    obtain ⟨i, hi7⟩ : ∃ i, 7 * k = i := ⟨_, rfl⟩
    rw [hi7] at hk hX ⊢
    have HI7 := Lib.hid hi7
    have HB := Lib.hid hb
    clear hb hi7
    obtain ⟨hL1, hL2⟩ := unhamL_take_len s i (by have := HI7.out; omega) (by omega)
    have hXs : X.size ≤ 1200 := by rw [← size_list, hX]; omega
    have HX := Lib.hid hX
    clear hX
    by_cases hlt : i < s.size
    · obtain ⟨i7, hi7, hi7s⟩ : ∃ i7 : Nat, (i : Int) + 7 = (i7 : Int) ∧ i7 ≤ s.size := ⟨i + 7, by omega, by have := HI7.out; have := H7.out; omega⟩
      have hi7n : i7 = i + 7 := by omega
      have hii : (i : Int) ≤ (i7 : Int) := by omega
      have hi7i : (i7 : Int) ≤ (s.size : Int) := by omega
      obtain ⟨t, ht⟩ : ∃ t, s.extract i i7 = t := ⟨_, rfl⟩
      have ht7 : 7 ≤ t.size := by rw [← ht, ByteArray.size_extract]; omega
      have ht7b : t.size ≤ 7 := by rw [← ht, ByteArray.size_extract]; omega
      have e0 : t[0] = s[i + 0]'(by omega) := by subst ht; exact ext_at s i i7 0 hi7s (by omega)
      have b0 : t[0] = 48 ∨ t[0] = 49 := by rw [e0]; exact ok_bit H.out (by omega)
      have e1 : t[1] = s[i + 1]'(by omega) := by subst ht; exact ext_at s i i7 1 hi7s (by omega)
      have b1 : t[1] = 48 ∨ t[1] = 49 := by rw [e1]; exact ok_bit H.out (by omega)
      have e2 : t[2] = s[i + 2]'(by omega) := by subst ht; exact ext_at s i i7 2 hi7s (by omega)
      have b2 : t[2] = 48 ∨ t[2] = 49 := by rw [e2]; exact ok_bit H.out (by omega)
      have e3 : t[3] = s[i + 3]'(by omega) := by subst ht; exact ext_at s i i7 3 hi7s (by omega)
      have b3 : t[3] = 48 ∨ t[3] = 49 := by rw [e3]; exact ok_bit H.out (by omega)
      have e4 : t[4] = s[i + 4]'(by omega) := by subst ht; exact ext_at s i i7 4 hi7s (by omega)
      have b4 : t[4] = 48 ∨ t[4] = 49 := by rw [e4]; exact ok_bit H.out (by omega)
      have e5 : t[5] = s[i + 5]'(by omega) := by subst ht; exact ext_at s i i7 5 hi7s (by omega)
      have b5 : t[5] = 48 ∨ t[5] = 49 := by rw [e5]; exact ok_bit H.out (by omega)
      have e6 : t[6] = s[i + 6]'(by omega) := by subst ht; exact ext_at s i i7 6 hi7s (by omega)
      have b6 : t[6] = 48 ∨ t[6] = 49 := by rw [e6]; exact ok_bit H.out (by omega)
      have HT := Lib.hid (show [s[i], (s[i + 1]'(by omega)), (s[i + 2]'(by omega)), (s[i + 3]'(by omega)), (s[i + 4]'(by omega)), (s[i + 5]'(by omega)), (s[i + 6]'(by omega))] = t.data.toList by
        rw [seven_list t (by omega), e0, e1, e2, e3, e4, e5, e6]; rfl)
      have HTB := Lib.hid (show [bitC ((t[0].toNat : Int) == 49), bitC ((t[1].toNat : Int) == 49), bitC ((t[2].toNat : Int) == 49), bitC ((t[3].toNat : Int) == 49), bitC ((t[4].toNat : Int) == 49), bitC ((t[5].toNat : Int) == 49), bitC ((t[6].toNat : Int) == 49)] = t.data.toList by
        rw [seven_list t (by omega), one_bit b0, one_bit b1, one_bit b2, one_bit b3, one_bit b4, one_bit b5, one_bit b6])
      have HS := Lib.hid (show unhamL (s.data.toList.take i7) = ((unhamL (s.data.toList.take i)).1 ++ data4 (mend [s[i], (s[i + 1]'(by omega)), (s[i + 2]'(by omega)), (s[i + 3]'(by omega)), (s[i + 4]'(by omega)), (s[i + 5]'(by omega)), (s[i + 6]'(by omega))]), (unhamL (s.data.toList.take i)).2 + wrongN [s[i], (s[i + 1]'(by omega)), (s[i + 2]'(by omega)), (s[i + 3]'(by omega)), (s[i + 4]'(by omega)), (s[i + 5]'(by omega)), (s[i + 6]'(by omega))]) by
        subst hi7n
        exact unhamL_take s i (by have := HI7.out; omega) hi7s)
      rw [HT.out] at HS
      have hbit : ∀ j (hj : j < t.size), t[j] = 48 ∨ t[j] = 49 := by
        intro j hj
        rcases (show j = 0 ∨ j = 1 ∨ j = 2 ∨ j = 3 ∨ j = 4 ∨ j = 5 ∨ j = 6 by omega) with rfl | rfl | rfl | rfl | rfl | rfl | rfl <;> assumption
      have HBIT := Lib.hid hbit
      have HTE := Lib.hid ht
      clear e0 e1 e2 e3 e4 e5 e6 b0 b1 b2 b3 b4 b5 b6 ht hi7n HT hbit
      generalize unhamL (s.data.toList.take i) = M at *
      obtain ⟨m1, m2⟩ := M
      simp only at hL1 hL2 HX
      have hlt8 := place_lt ((t[0].toNat : Int) == 49) ((t[1].toNat : Int) == 49) ((t[2].toNat : Int) == 49) ((t[3].toNat : Int) == 49) ((t[4].toNat : Int) == 49) ((t[5].toNat : Int) == 49) ((t[6].toNat : Int) == 49) 7 (by omega)
      rw [show ∀ l : List UInt8, l.length = 7 → l.take 7 = l from fun l h => List.take_of_length_le (by omega)] at hlt8
      rotate_left
      · rfl
      rw [HTB.out] at hlt8
      go_wp2_with fail
      have hw : (s.extract i i7) = t := HTE.out
      rw [hw]
      clear hw
      refine (l12Place_any t _ _ _ _ _ _ _ _ ht7 rfl rfl rfl rfl rfl rfl rfl).mono ?_
      rintro e w' ⟨rfl, rfl⟩
      rw [HTB.out]
      by_cases h0 : placeN t.data.toList = 0
      · have HM := Lib.hid (show mend t.data.toList = t.data.toList ∧ wrongN t.data.toList = 0 by
          unfold mend wrongN; rw [if_pos h0, if_pos h0]; exact ⟨rfl, rfl⟩)
        rw [HM.out.1, HM.out.2] at HS
        rw [h0]
        have HD := Lib.hid (show ((X ++ t.extract 2 3) ++ t.extract 4 7).data.toList = m1 ++ data4 t.data.toList by
          rw [data4_ext X t ht7, HX.out, seven_list t (by omega)]; rfl)
        have hz1 : (t.extract 2 3).size ≤ 1 := by rw [ByteArray.size_extract]; omega
        have hz2 : (t.extract 4 7).size ≤ 3 := by rw [ByteArray.size_extract]; omega
        have hti : (7 : Int) ≤ (t.size : Int) := by omega
        have hadd1 : ∀ u : World, (Op.stringOp .add X (t.extract 2 3)).run Tryd.prog u = .ok (.string (X ++ t.extract 2 3)) u := fun u => run_string_add_sum u _ _ (by omega)
        have hadd2 : ∀ u : World, (Op.stringOp .add (X ++ t.extract 2 3) (t.extract 4 7)).run Tryd.prog u = .ok (.string ((X ++ t.extract 2 3) ++ t.extract 4 7)) u := fun u => run_string_add_sum u _ _ (by rw [ByteArray.size_append]; omega)
        have hsl1 : ∀ u : World, (Instr.slice 9 (.string t) (some (.int .i64 2)) (some (.int .i64 3)) none).run Tryd.prog u = .ok (.string (t.extract 2 3)) u := fun u => run_slice_string u 9 t .i64 .i64 2 3 Tryd.underlying9 (by omega) (by omega) (by omega)
        have hsl2 : ∀ u : World, (Instr.slice 9 (.string t) (some (.int .i64 4)) (some (.int .i64 7)) none).run Tryd.prog u = .ok (.string (t.extract 4 7)) u := fun u => run_slice_string u 9 t .i64 .i64 4 7 Tryd.underlying9 (by omega) (by omega) (by omega)
        clear h0 hlt8 hz1 hz2
        go_wp2_with fail
        have hS : True := trivial
        refine wp_region_held_drew (S := (fun _ => True)) (by kernel_rfl) hS (fun hHeld => ?_)
        refine wpAnyH_take (i := 0) (v := ?_) rfl (by kernel_rfl) (by kernel_rfl) (by kernel_rfl) (fun _ _ _ h => h) (Or.inl ⟨by rfl, ?_⟩) (by assumption) ?_
        rotate_left
        · intro wq hSw
          (try dsimp only at hSw)
          (try simp only [List.getElem_toArray, List.getElem_cons_zero])
          go_simp
          (try with_reducible rfl)
        simp only [Act.put, List.getElem_toArray, List.getElem_cons_zero, List.setIfInBounds_toArray, List.set_cons_zero, List.set_cons_succ]
        refine wpAnyH_take (i := 1) (v := ?_) rfl (by kernel_rfl) (by kernel_rfl) (by kernel_rfl) (fun _ _ _ h => h) (Or.inl ⟨by rfl, ?_⟩) (by assumption) ?_
        rotate_left
        · intro wq hSw
          (try dsimp only at hSw)
          (try simp only [List.getElem_toArray, List.getElem_cons_succ, List.getElem_cons_zero])
          go_simp
          (try with_reducible rfl)
        simp only [Act.put, List.getElem_toArray, List.getElem_cons_succ, List.getElem_cons_zero, List.setIfInBounds_toArray, List.set_cons_zero, List.set_cons_succ]
        refine wpAnyH_take (i := 2) (v := ?_) rfl (by kernel_rfl) (by kernel_rfl) (by kernel_rfl) (fun _ _ _ h => h) (Or.inl ⟨by rfl, ?_⟩) (by assumption) ?_
        rotate_left
        · intro wq hSw
          (try dsimp only at hSw)
          (try simp only [List.getElem_toArray, List.getElem_cons_succ, List.getElem_cons_zero])
          go_simp
          (try with_reducible rfl)
        simp only [Act.put, List.getElem_toArray, List.getElem_cons_succ, List.getElem_cons_zero, List.setIfInBounds_toArray, List.set_cons_zero, List.set_cons_succ]
        refine wpAnyH_take (i := 3) (v := ?_) rfl (by kernel_rfl) (by kernel_rfl) (by kernel_rfl) (fun _ _ _ h => h) (Or.inl ⟨by rfl, ?_⟩) (by assumption) ?_
        rotate_left
        · intro wq hSw
          (try dsimp only at hSw)
          (try simp only [List.getElem_toArray, List.getElem_cons_succ, List.getElem_cons_zero])
          go_simp
          (try with_reducible rfl)
        simp only [Act.put, List.getElem_toArray, List.getElem_cons_succ, List.getElem_cons_zero, List.setIfInBounds_toArray, List.set_cons_zero, List.set_cons_succ]
        refine wpAnyH_take (i := 4) (v := ?_) rfl (by kernel_rfl) (by kernel_rfl) (by kernel_rfl) (fun _ _ _ h => h) (Or.inl ⟨by rfl, ?_⟩) (by assumption) ?_
        rotate_left
        · intro wq hSw
          (try dsimp only at hSw)
          (try simp only [List.getElem_toArray, List.getElem_cons_succ, List.getElem_cons_zero])
          go_simp
          (try with_reducible rfl)
        simp only [Act.put, List.getElem_toArray, List.getElem_cons_succ, List.getElem_cons_zero, List.setIfInBounds_toArray, List.set_cons_zero, List.set_cons_succ]
        refine wpAnyH_take (i := 5) (v := ?_) rfl (by kernel_rfl) (by kernel_rfl) (by kernel_rfl) (fun _ _ _ h => h) (Or.inl ⟨by rfl, ?_⟩) (by assumption) ?_
        rotate_left
        · intro wq hSw
          (try dsimp only at hSw)
          (try simp only [List.getElem_toArray, List.getElem_cons_succ, List.getElem_cons_zero])
          go_simp
          (try with_reducible rfl)
        simp only [Act.put, List.getElem_toArray, List.getElem_cons_succ, List.getElem_cons_zero, List.setIfInBounds_toArray, List.set_cons_zero, List.set_cons_succ]
        refine wpAnyH_take (i := 6) (v := ?_) rfl (by kernel_rfl) (by kernel_rfl) (by kernel_rfl) (fun _ _ _ h => h) (Or.inl ⟨by rfl, ?_⟩) (by assumption) ?_
        rotate_left
        · intro wq hSw
          (try dsimp only at hSw)
          (try simp only [List.getElem_toArray, List.getElem_cons_succ, List.getElem_cons_zero])
          go_simp
          (try with_reducible rfl)
        simp only [Act.put, List.getElem_toArray, List.getElem_cons_succ, List.getElem_cons_zero, List.setIfInBounds_toArray, List.set_cons_zero, List.set_cons_succ]
        refine wpAnyH_take (i := 7) (v := ?_) rfl (by kernel_rfl) (by kernel_rfl) (by kernel_rfl) (fun _ _ _ h => h) (Or.inl ⟨by rfl, ?_⟩) (by assumption) ?_
        rotate_left
        · intro wq hSw
          (try dsimp only at hSw)
          (try simp only [List.getElem_toArray, List.getElem_cons_succ, List.getElem_cons_zero])
          go_simp
          (try with_reducible rfl)
        simp only [Act.put, List.getElem_toArray, List.getElem_cons_succ, List.getElem_cons_zero, List.setIfInBounds_toArray, List.set_cons_zero, List.set_cons_succ]
        refine wpAnyH_done (by kernel_rfl) ?_ _
        clear hadd1 hadd2 hsl1 hsl2
        go_wp2
        go_roundw
        case rel =>
          refine ⟨k + 1, _, by have := HI7.out; omega, val_int (by have := HI7.out; omega), rfl, ?_, ?_, HB.out.drew⟩
          · rw [show 7 * (k + 1) = i7 by have := HI7.out; omega, HS.out]; exact HD.out
          · rw [show 7 * (k + 1) = i7 by have := HI7.out; omega, HS.out]; rfl
        case measure => simp [intOf]; omega
      · obtain ⟨p, hp⟩ : ∃ p, placeN t.data.toList = p + 1 := ⟨placeN t.data.toList - 1, by omega⟩
        have hp7 : p < t.size := by omega
        have HM := Lib.hid (show mend t.data.toList = turnL t.data.toList p ∧ wrongN t.data.toList = 1 by
          unfold mend wrongN turnL; rw [if_neg h0, if_neg h0, hp]; exact ⟨rfl, rfl⟩)
        rw [HM.out.1, HM.out.2] at HS
        rw [hp]
        clear hp h0 hlt8
        go_wp2_with fail
        have hcast : ((p + 1 : Nat) : Int) - 1 = (p : Int) := by omega
        refine (l12Turn_any t p _ (by omega) hp7 (HBIT.out p hp7)).mono ?_
        rintro e w1 ⟨rfl, hb1⟩
        have HB1 := Lib.hid (HB.out.trans (hb1.mono HB.out.size))
        clear hb1
        obtain ⟨u, hu⟩ : ∃ u : ByteArray, u = ⟨(turnL t.data.toList p).toArray⟩ := ⟨_, rfl⟩
        have hul : u.data.toList = turnL t.data.toList p := by rw [hu]
        have hus : u.size = 7 := by rw [← size_list, hul]; unfold turnL; rw [List.length_set, size_list]; omega
        have hu7 : 7 ≤ u.size := by omega
        rw [← hu]
        have HD := Lib.hid (show ((X ++ u.extract 2 3) ++ u.extract 4 7).data.toList = m1 ++ data4 (turnL t.data.toList p) by
          rw [data4_ext X u hu7, HX.out, ← hul, seven_list u hus]; rfl)
        have hz1 : (u.extract 2 3).size ≤ 1 := by rw [ByteArray.size_extract]; omega
        have hz2 : (u.extract 4 7).size ≤ 3 := by rw [ByteArray.size_extract]; omega
        have hadd1 : ∀ v : World, (Op.stringOp .add X (u.extract 2 3)).run Tryd.prog v = .ok (.string (X ++ u.extract 2 3)) v := fun v => run_string_add_sum v _ _ (by omega)
        have hadd2 : ∀ v : World, (Op.stringOp .add (X ++ u.extract 2 3) (u.extract 4 7)).run Tryd.prog v = .ok (.string ((X ++ u.extract 2 3) ++ u.extract 4 7)) v := fun v => run_string_add_sum v _ _ (by rw [ByteArray.size_append]; omega)
        have hsl1 : ∀ v : World, (Instr.slice 9 (.string u) (some (.int .i64 2)) (some (.int .i64 3)) none).run Tryd.prog v = .ok (.string (u.extract 2 3)) v := fun v => run_slice_string v 9 u .i64 .i64 2 3 Tryd.underlying9 (by omega) (by omega) (by omega)
        have hsl2 : ∀ v : World, (Instr.slice 9 (.string u) (some (.int .i64 4)) (some (.int .i64 7)) none).run Tryd.prog v = .ok (.string (u.extract 4 7)) v := fun v => run_slice_string v 9 u .i64 .i64 4 7 Tryd.underlying9 (by omega) (by omega) (by omega)
        clear hu hul hus hz1 hz2 hcast
        go_wp2_with fail
        have hS : True := trivial
        refine wp_region_held_drew (S := (fun _ => True)) (by kernel_rfl) hS (fun hHeld => ?_)
        refine wpAnyH_take (i := 0) (v := ?_) rfl (by kernel_rfl) (by kernel_rfl) (by kernel_rfl) (fun _ _ _ h => h) (Or.inl ⟨by rfl, ?_⟩) (by assumption) ?_
        rotate_left
        · intro wq hSw
          (try dsimp only at hSw)
          (try simp only [List.getElem_toArray, List.getElem_cons_zero])
          go_simp
          (try with_reducible rfl)
        simp only [Act.put, List.getElem_toArray, List.getElem_cons_zero, List.setIfInBounds_toArray, List.set_cons_zero, List.set_cons_succ]
        refine wpAnyH_take (i := 1) (v := ?_) rfl (by kernel_rfl) (by kernel_rfl) (by kernel_rfl) (fun _ _ _ h => h) (Or.inl ⟨by rfl, ?_⟩) (by assumption) ?_
        rotate_left
        · intro wq hSw
          (try dsimp only at hSw)
          (try simp only [List.getElem_toArray, List.getElem_cons_succ, List.getElem_cons_zero])
          go_simp
          (try with_reducible rfl)
        simp only [Act.put, List.getElem_toArray, List.getElem_cons_succ, List.getElem_cons_zero, List.setIfInBounds_toArray, List.set_cons_zero, List.set_cons_succ]
        refine wpAnyH_take (i := 2) (v := ?_) rfl (by kernel_rfl) (by kernel_rfl) (by kernel_rfl) (fun _ _ _ h => h) (Or.inl ⟨by rfl, ?_⟩) (by assumption) ?_
        rotate_left
        · intro wq hSw
          (try dsimp only at hSw)
          (try simp only [List.getElem_toArray, List.getElem_cons_succ, List.getElem_cons_zero])
          go_simp
          (try with_reducible rfl)
        simp only [Act.put, List.getElem_toArray, List.getElem_cons_succ, List.getElem_cons_zero, List.setIfInBounds_toArray, List.set_cons_zero, List.set_cons_succ]
        refine wpAnyH_take (i := 3) (v := ?_) rfl (by kernel_rfl) (by kernel_rfl) (by kernel_rfl) (fun _ _ _ h => h) (Or.inl ⟨by rfl, ?_⟩) (by assumption) ?_
        rotate_left
        · intro wq hSw
          (try dsimp only at hSw)
          (try simp only [List.getElem_toArray, List.getElem_cons_succ, List.getElem_cons_zero])
          go_simp
          (try with_reducible rfl)
        simp only [Act.put, List.getElem_toArray, List.getElem_cons_succ, List.getElem_cons_zero, List.setIfInBounds_toArray, List.set_cons_zero, List.set_cons_succ]
        refine wpAnyH_take (i := 4) (v := ?_) rfl (by kernel_rfl) (by kernel_rfl) (by kernel_rfl) (fun _ _ _ h => h) (Or.inl ⟨by rfl, ?_⟩) (by assumption) ?_
        rotate_left
        · intro wq hSw
          (try dsimp only at hSw)
          (try simp only [List.getElem_toArray, List.getElem_cons_succ, List.getElem_cons_zero])
          go_simp
          (try with_reducible rfl)
        simp only [Act.put, List.getElem_toArray, List.getElem_cons_succ, List.getElem_cons_zero, List.setIfInBounds_toArray, List.set_cons_zero, List.set_cons_succ]
        refine wpAnyH_take (i := 5) (v := ?_) rfl (by kernel_rfl) (by kernel_rfl) (by kernel_rfl) (fun _ _ _ h => h) (Or.inl ⟨by rfl, ?_⟩) (by assumption) ?_
        rotate_left
        · intro wq hSw
          (try dsimp only at hSw)
          (try simp only [List.getElem_toArray, List.getElem_cons_succ, List.getElem_cons_zero])
          go_simp
          (try with_reducible rfl)
        simp only [Act.put, List.getElem_toArray, List.getElem_cons_succ, List.getElem_cons_zero, List.setIfInBounds_toArray, List.set_cons_zero, List.set_cons_succ]
        refine wpAnyH_take (i := 6) (v := ?_) rfl (by kernel_rfl) (by kernel_rfl) (by kernel_rfl) (fun _ _ _ h => h) (Or.inl ⟨by rfl, ?_⟩) (by assumption) ?_
        rotate_left
        · intro wq hSw
          (try dsimp only at hSw)
          (try simp only [List.getElem_toArray, List.getElem_cons_succ, List.getElem_cons_zero])
          go_simp
          (try with_reducible rfl)
        simp only [Act.put, List.getElem_toArray, List.getElem_cons_succ, List.getElem_cons_zero, List.setIfInBounds_toArray, List.set_cons_zero, List.set_cons_succ]
        refine wpAnyH_take (i := 7) (v := ?_) rfl (by kernel_rfl) (by kernel_rfl) (by kernel_rfl) (fun _ _ _ h => h) (Or.inl ⟨by rfl, ?_⟩) (by assumption) ?_
        rotate_left
        · intro wq hSw
          (try dsimp only at hSw)
          (try simp only [List.getElem_toArray, List.getElem_cons_succ, List.getElem_cons_zero])
          go_simp
          (try with_reducible rfl)
        simp only [Act.put, List.getElem_toArray, List.getElem_cons_succ, List.getElem_cons_zero, List.setIfInBounds_toArray, List.set_cons_zero, List.set_cons_succ]
        refine wpAnyH_done (by kernel_rfl) ?_ _
        clear hadd1 hadd2 hsl1 hsl2
        go_wp2
        go_roundw
        case rel =>
          refine ⟨k + 1, _, by have := HI7.out; omega, val_int (by have := HI7.out; omega), rfl, ?_, ?_, HB1.out.drew⟩
          · rw [show 7 * (k + 1) = i7 by have := HI7.out; omega, HS.out]; exact HD.out
          · rw [show 7 * (k + 1) = i7 by have := HI7.out; omega, HS.out]; exact val_int (by simp)
        case measure => simp [intOf]; omega
    · have HE := Lib.hid (take_all s i (by omega))
      go_wp2
      rw [HE.out] at HX ⊢
      have HXX := Lib.hid (show X = ⟨(unhamL s.data.toList).1.toArray⟩ by rw [← HX.out, Lib.mk_data])
      exact bodyPost_ret (v := .tuple #[.string X, .int .i64 ((unhamL s.data.toList).2 : Int), .bool true]) (by simp [results, Tryd.results14, go_sem]) rfl ⟨by rw [← HXX.out], HB.out⟩
end Go.Proofs.YtjnehfbeokpgpaaDoor
