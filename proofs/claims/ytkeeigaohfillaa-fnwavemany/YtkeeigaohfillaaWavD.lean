/- How often levels turn, and how far bits are apart, in the program and in the model. -/
import Derived.Test.YtkeeigaohfillaaWavC
import Derived.Lib.Bytealg
import Derived.Lib.Strings
namespace Go.Proofs.Ytkeeigaohfillaa
open Go.ChangeShapes Go.WideShapes Go.ChangeAt Go.RowKit

theorem countStr_run (s : ByteArray) (c : Int) (w : World) : (callFunc 45 #[.string s, .int .u8 c]).run Try.prog w = .ok (.value (.int .i64 (Lib.countByte s.data.toList c.toNat.toUInt8))) w := by
  rw [run_callFunc_extern Try.func45 (by kernel_rfl) (by kernel_rfl) (by kernel_rfl) (e := Extern.BytealgCount.count) (by kernel_rfl), Lib.run_countString]
  rfl
theorem count_noughts (l : List UInt8) : Lib.countByte l 48 = noughts l := rfl
theorem count_any (s : ByteArray) (w : World) :
    Calls Try.prog 36 #[.string s, .string ⟨#[48]⟩] w fun e w' => e = .returned (.int .i64 (noughts s.data.toList : Int)) ∧ w = w' := by
  have h := countStr_run
  go_enter Try.func36, Try.ntmps36
  go_wp2
  go_ret
  exact ⟨by rw [← count_noughts]; rfl, rfl⟩
theorem head_some (s : ByteArray) (h : 0 < s.size) : s.data.toList.head? = some s[0] := by
  rw [List.head?_eq_getElem?, List.getElem?_eq_getElem (by simpa using h)]; rfl
theorem ext_one (s : ByteArray) (h : 0 < s.size) : (s.extract 0 1).toList = [s[0]] := by
  rw [Lib.toList_data, Lib.extract_data]
  have h1 := snoc_take s 0 h
  simpa using h1
theorem litePrefix_any (s : ByteArray) (w : World) (hs : s.size ≤ maxLen) :
    Calls Try.prog 43 #[.string s, .string ⟨#[49]⟩] w fun e w' => e = .returned (.bool (decide (s.data.toList.head? = some 49))) ∧ w = w' := by
  unfold maxLen at hs
  have HSL := Lib.hid (size_list s)
  by_cases h0 : s.size = 0
  · have HE := Lib.hid (show decide (s.data.toList.head? = some 49) = false by
      rw [List.eq_nil_of_length_eq_zero (HSL.out.trans h0)]; rfl)
    have h1 : decide ((1 : Int) ≤ (s.size : Int)) = false := decide_eq_false (by omega)
    have h2 : decide ((s.size : Int) ≥ 1) = false := decide_eq_false (by omega)
    clear h0
    go_enter Try.func43, Try.ntmps43
    go_wp2
    go_ret
    exact ⟨by rw [HE.out]; rfl, rfl⟩
  · have hp : 0 < s.size := by omega
    have h1 := ext_one s hp
    have HE := Lib.hid (show decide (s.data.toList.head? = some 49) = (s[0] == 49) by
      rw [head_some s hp, Bool.eq_iff_iff]; simp)
    have h2 : decide ((1 : Int) ≤ (s.size : Int)) = true := decide_eq_true (by omega)
    have h3 : (1 : Int) ≤ (s.size : Int) := by omega
    have h4 : ((⟨#[49]⟩ : ByteArray)).toList = [49] := by rw [Lib.toList_data]
    clear h0
    go_enter Try.func43, Try.ntmps43
    go_wp2
    go_ret
    exact ⟨by rw [HE.out]; rfl, rfl⟩
theorem hasOne_any (s : ByteArray) (w : World) (hs : s.size ≤ maxLen) :
    Calls Try.prog 35 #[.string s, .string ⟨#[49]⟩] w fun e w' => e = .returned (.bool (decide (s.data.toList.head? = some 49))) ∧ w = w' := by
  go_enter Try.func35, Try.ntmps35
  go_wp2_with (go_at_call 43; refine (litePrefix_any _ _ hs).mono ?_; rintro e w' ⟨rfl, rfl⟩)
  go_ret
  exact ⟨rfl, rfl⟩
theorem implWave_no (s : ByteArray) (w : World) (hs : s.size ≤ maxLen) (h : okB s.data.toList = false) :
    Calls Try.prog 18 #[.string s] w fun e w' => e = .returned (.int .i64 (-1)) ∧ w = w' := by
  go_enter Try.func18, Try.ntmps18
  go_wp2_with (go_at_call 24; refine (implOk_any _ _ hs).mono ?_; rintro e w' ⟨rfl, rfl⟩)
  go_ret
  exact ⟨rfl, rfl⟩
theorem implWave_yes (s : ByteArray) (w : World) (h : okB s.data.toList = true) :
    Calls Try.prog 18 #[.string s] w fun e w' => e = .returned (.int .i64 (waveN s.data.toList : Int)) ∧ Below w.heap.size w w' := by
  have hmax : s.size ≤ maxLen := by have := ok_size h; unfold maxLen; omega
  have H := Lib.hid h
  have HV := Lib.hid (wave_edG s.data.toList (okB_iff.1 h).1)
  go_enter Try.func18, Try.ntmps18
  go_wp2_with (first | (go_at_call 24; refine (implOk_any _ _ hmax).mono ?_; rintro e w' ⟨rfl, rfl⟩) | (go_at_call 35; refine (hasOne_any _ _ hmax).mono ?_; rintro e w' ⟨rfl, rfl⟩))
  refine (implEG_yes _ s _ H.out).mono ?_
  rintro e w1 ⟨rfl, hb⟩
  have HB := Lib.hid hb
  clear hb
  go_wp2_with (go_at_call 36; refine (count_any _ _).mono ?_; rintro e w' ⟨rfl, rfl⟩)
  go_ret
  exact ⟨by rw [HV.out]; rfl, HB.out⟩
def waveI (l : List UInt8) : Int := if okB l = true then (waveN l : Int) else -1
theorem implWave_any (s : ByteArray) (w : World) (hs : s.size ≤ maxLen) :
    Calls Try.prog 18 #[.string s] w fun e w' => e = .returned (.int .i64 (waveI s.data.toList)) ∧ Below w.heap.size w w' := by
  cases h : okB s.data.toList with
  | false => exact (implWave_no s w hs h).mono fun e w' ⟨h1, h2⟩ => ⟨by rw [h1, waveI, if_neg (by rw [h]; decide)], h2 ▸ Below.refl _ _⟩
  | true => exact (implWave_yes s w h).mono fun e w' ⟨h1, h2⟩ => ⟨by rw [h1, waveI, if_pos h], h2⟩
theorem u8_ne_true {a b : UInt8} (h : a ≠ b) : ((a.toNat : Int) != (b.toNat : Int)) = true := by
  rw [bne_iff_ne]; intro e; exact h (by apply UInt8.toNat_inj.1; omega)
theorem u8_ne_false {a b : UInt8} (h : a = b) : ((a.toNat : Int) != (b.toNat : Int)) = false := by rw [h]; simp
theorem wave_take (s : ByteArray) (k j : Nat) (h : j < s.size) (hj : j = k + 1) : waveN (s.data.toList.take (j + 1)) = waveN (s.data.toList.take j) + (if (s[k]'(by omega)) ≠ s[j] then 1 else 0) := by
  subst hj
  rw [snoc_take s (k + 1) h, snoc_take s k (by omega), waveN_snoc]
theorem wave_take_le (s : ByteArray) (k : Nat) : waveN (s.data.toList.take k) ≤ k := Nat.le_trans (waveN_le _) (List.length_take_le _ _)
theorem specWave_no (s : ByteArray) (w : World) (hs : s.size ≤ maxLen) (h : okB s.data.toList = false) :
    Calls Try.prog 30 #[.string s] w fun e w' => e = .returned (.int .i64 (-1)) ∧ w = w' := by
  go_enter Try.func30, Try.ntmps30
  go_wp2_with (go_at_call 34; refine (l2Ok_any _ _ hs).mono ?_; rintro e w' ⟨rfl, rfl⟩)
  go_ret
  exact ⟨rfl, rfl⟩
set_option maxRecDepth 100000 in
set_option maxHeartbeats 4000000 in
theorem specWave_yes (s : ByteArray) (w : World) (h : okB s.data.toList = true) :
    Calls Try.prog 30 #[.string s] w fun e w' => e = .returned (.int .i64 (waveN s.data.toList : Int)) ∧ Below w.heap.size w w' := by
  have hsz := ok_size h
  have hmax : s.size ≤ maxLen := by unfold maxLen; omega
  go_enter Try.func30, Try.ntmps30
  go_wp2_with (go_at_call 34; refine (l2Ok_any _ _ hmax).mono ?_; rintro e w' ⟨rfl, rfl⟩)
  clear h
  go_loopw [3, 4] (fun n i wr => ∃ k : Nat, k ≤ s.size + 1 ∧ 1 ≤ k ∧ i = .int .i64 k ∧ n = .int .i64 (waveN (s.data.toList.take k) : Int) ∧ Below w.heap.size w wr) (fun _ i _ => s.size + 1 - (intOf i).toNat)
  case atStart => exact ⟨1, by omega, by omega, rfl, val_int (by cases hd : s.data.toList with | nil => rfl | cons a l => simp [waveN]), Below.refl _ _⟩
  case round =>
    obtain ⟨k, hk, hk1, rfl, rfl, hb⟩ := hrel
    have HB := Lib.hid hb
    clear hb
    have hle := wave_take_le s k
    by_cases hlt : k < s.size
    · obtain ⟨p, hp, hps⟩ : ∃ p : Nat, (k : Int) - 1 = (p : Int) ∧ p < s.size := ⟨k - 1, by omega, by omega⟩
      have hpn : k = p + 1 := by omega
      have HS := Lib.hid (wave_take s p k hlt hpn)
      generalize hW : waveN (s.data.toList.take k) = W at *
      have HW := Lib.hid hW
      clear hW
      have hw1 : IntKind.i64.wrap ((k : Int) - 1) = (p : Int) := by rw [hp, IntKind.wrap_i64]; omega
      by_cases he : s[p] = s[k]
      · have hc := u8_ne_false he.symm
        have HS2 := Lib.hid (show waveN (s.data.toList.take (k + 1)) = W by rw [HS.out, if_neg (by simpa using he)]; rfl)
        clear he HS hpn
        go_wp2_with fail
        go_region
        clear hw1
        go_wp2
        go_roundw
        case rel => exact ⟨k + 1, by omega, by omega, by go_num, by rw [HS2.out], HB.out.drew⟩
        case measure => simp [intOf]; omega
      · have hc := u8_ne_true (Ne.symm he)
        have HS2 := Lib.hid (show waveN (s.data.toList.take (k + 1)) = W + 1 by rw [HS.out, if_pos he])
        clear he HS hpn
        go_wp2_with fail
        go_region
        clear hw1
        go_wp2
        go_roundw
        case rel => exact ⟨k + 1, by omega, by omega, by go_num, by rw [HS2.out]; go_num, HB.out.drew⟩
        case measure => simp [intOf]; omega
    · have HE := Lib.hid (take_all s k (by omega))
      go_wp2
      go_ret
      exact ⟨by rw [HE.out]; rfl, HB.out⟩
theorem specWave_any (s : ByteArray) (w : World) (hs : s.size ≤ maxLen) :
    Calls Try.prog 30 #[.string s] w fun e w' => e = .returned (.int .i64 (waveI s.data.toList)) ∧ Below w.heap.size w w' := by
  cases h : okB s.data.toList with
  | false => exact (specWave_no s w hs h).mono fun e w' ⟨h1, h2⟩ => ⟨by rw [h1, waveI, if_neg (by rw [h]; decide)], h2 ▸ Below.refl _ _⟩
  | true => exact (specWave_yes s w h).mono fun e w' ⟨h1, h2⟩ => ⟨by rw [h1, waveI, if_pos h], h2⟩
end Go.Proofs.Ytkeeigaohfillaa
