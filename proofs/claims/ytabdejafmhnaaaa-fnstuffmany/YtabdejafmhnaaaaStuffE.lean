/- Contracts of StuffPut, StuffGet and StuffMany of the model, and of the draw for StuffGet. -/
import Derived.Test.YtabdejafmhnaaaaStuffD
import Derived.Test.YtabdejafmhnaaaaDrawBitsB
namespace Go.Proofs.Ytabdejafmhnaaaa
open Go.ChangeShapes Go.WideShapes Go.ChangeAt Go.RowKit
set_option maxHeartbeats 1000000 in
theorem specPut_any (s : ByteArray) (w : World) (hs : s.size ≤ 100000000) :
    Calls Try.prog 34 #[.string s] w fun e w' => e = .returned (.string ⟨(putA s.data.toList).toArray⟩) ∧ Below w.heap.size w w' := by
  have hmax : s.size ≤ maxLen := by unfold maxLen; omega
  cases hk : okB s.data.toList with
  | false =>
    have HK := Lib.hid hk
    go_enter Try.func34, Try.ntmps34
    go_wp2_with (go_at_call 49; refine (l2Ok_any _ _ hmax).mono ?_; rintro e w' ⟨rfl, rfl⟩)
    go_ret
    exact ⟨by rw [putA_no HK.out]; rfl, Below.refl _ _⟩
  | true =>
    have HK := Lib.hid hk
    go_enter Try.func34, Try.ntmps34
    go_wp2_with (go_at_call 49; refine (l2Ok_any _ _ hmax).mono ?_; rintro e w' ⟨rfl, rfl⟩)
    refine (l3Put_any s _ hs (ok_bits HK.out)).mono ?_
    rintro e w2 ⟨rfl, hb⟩
    go_wp2
    go_ret
    exact ⟨by rw [putA_yes HK.out]; rfl, hb⟩
set_option maxHeartbeats 1000000 in
theorem specMany_any (s : ByteArray) (w : World) (hs : s.size ≤ 100000000) :
    Calls Try.prog 40 #[.string s] w fun e w' => e = .returned (.int .i64 (manyA s.data.toList)) ∧ Below w.heap.size w w' := by
  have hmax : s.size ≤ maxLen := by unfold maxLen; omega
  cases hk : okB s.data.toList with
  | false =>
    have HK := Lib.hid hk
    go_enter Try.func40, Try.ntmps40
    go_wp2_with (go_at_call 49; refine (l2Ok_any _ _ hmax).mono ?_; rintro e w' ⟨rfl, rfl⟩)
    go_ret
    exact ⟨ret_int (by rw [manyA, HK.out]; rfl), Below.refl _ _⟩
  | true =>
    have HK := Lib.hid hk
    go_enter Try.func40, Try.ntmps40
    go_wp2_with (first | (go_at_call 49; refine (l2Ok_any _ _ hmax).mono ?_; rintro e w' ⟨rfl, rfl⟩))
    refine (l3Put_any s _ hs (ok_bits HK.out)).mono ?_
    rintro e w3 ⟨rfl, hb⟩
    obtain ⟨X, hX⟩ : ∃ X : ByteArray, X = ⟨(putR s.data.toList).toArray⟩ := ⟨_, rfl⟩
    have hXl : X.data.toList = putR s.data.toList := by rw [hX]
    rw [show (⟨(recS putStep 0 s.data.toList).toArray⟩ : ByteArray) = X from hX.symm]
    clear hX
    have h1 := put_len s.data.toList 0 (by omega)
    rw [show recS putStep 0 s.data.toList = X.data.toList from hXl.symm, size_list, size_list] at h1
    have HXL := Lib.hid hXl
    have HSL := Lib.hid (size_list s)
    have HSX := Lib.hid (size_list X)
    clear hXl
    go_wp2
    go_ret
    exact ⟨ret_int (by rw [manyA, if_pos HK.out, ← HXL.out, HSL.out, HSX.out]), hb⟩
theorem getA_no {l : List UInt8} (h : getOk l = false) : getA l = [] := if_neg (by unfold getOk at h; simpa using h)
theorem getA_yes {l : List UInt8} (h : getOk l = true) : getA l = getR l := if_pos (by unfold getOk at h; simpa using h)
theorem getOk_no {l : List UInt8} (h : ¬ (l.all bitB = true ∧ l.length ≤ 1440 ∧ gGood 0 l = true ∧ okB (getR l) = true)) : getOk l = false := by
  cases hk : getOk l with
  | false => rfl
  | true => exact absurd ((getOk_iff l).1 hk) h
set_option maxRecDepth 100000 in
set_option maxHeartbeats 2000000 in
theorem specGet_any (s : ByteArray) (w : World) (hs : s.size ≤ 100000000) :
    Calls Try.prog 38 #[.string s] w fun e w' => e = .returned (.tuple #[.string ⟨(getA s.data.toList).toArray⟩, .bool (getOk s.data.toList)]) ∧ Below w.heap.size w w' := by
  have HSL := Lib.hid (size_list s)
  go_enter Try.func38, Try.ntmps38
  go_wp2
  go_loop [4] (fun i => ∃ k : Nat, k ≤ s.size ∧ k ≤ 1440 ∧ i = .int .i64 k ∧ (s.data.toList.take k).all bitB = true) (fun i => s.size - (intOf i).toNat)
  case atStart => exact ⟨0, by omega, by omega, rfl, rfl⟩
  case round =>
    obtain ⟨k, hk, hk4, rfl, hall⟩ := hrel
    have HA := Lib.hid hall
    clear hall
    by_cases hlt : k < s.size
    · have HS := Lib.hid (snoc_take s k hlt)
      rcases bit_cases s[k] with hbit | ⟨h1, h2, hno⟩
      · have HBit := Lib.hid (show bitB s[k] = true from (bitB_iff _).2 hbit)
        by_cases h4 : k < 1440
        · rcases hbit with hbit | hbit
          · have hc : (s[k].toNat : Int) = 48 := by rw [hbit]; rfl
            clear hbit
            go_wp2
            go_round
            case rel => exact ⟨k + 1, by omega, by omega, by go_num, by rw [HS.out, List.all_append, HA.out, List.all_cons, HBit.out]; rfl⟩
            case measure => simp [intOf]; omega
          · have hc : (s[k].toNat : Int) = 49 := by rw [hbit]; rfl
            clear hbit
            go_wp2
            go_round
            case rel => exact ⟨k + 1, by omega, by omega, by go_num, by rw [HS.out, List.all_append, HA.out, List.all_cons, HBit.out]; rfl⟩
            case measure => simp [intOf]; omega
        · have HN := Lib.hid (getOk_no (l := s.data.toList) (fun h => by have := h.2.1; rw [HSL.out] at this; omega))
          rcases hbit with hbit | hbit
          · have hc : (s[k].toNat : Int) = 48 := by rw [hbit]; rfl
            clear hbit
            go_wp2
            go_ret2
            exact ⟨by rw [getA_no HN.out, HN.out]; rfl, Below.refl _ _⟩
          · have hc : (s[k].toNat : Int) = 49 := by rw [hbit]; rfl
            clear hbit
            go_wp2
            go_ret2
            exact ⟨by rw [getA_no HN.out, HN.out]; rfl, Below.refl _ _⟩
      · have HN := Lib.hid (getOk_no (l := s.data.toList) (fun h => by rw [all_stop hlt hno] at h; exact absurd h.1 (by decide)))
        clear hno
        go_wp2
        go_ret2
        exact ⟨by rw [getA_no HN.out, HN.out]; rfl, Below.refl _ _⟩
    · have HAll := Lib.hid (show s.data.toList.all bitB = true by rw [← take_all s k (by omega)]; exact HA.out)
      have hlen : s.size ≤ 1440 := by omega
      go_wp2_with fail
      refine (l3Get_any s w hs HAll.out).mono ?_
      rintro e w2 ⟨⟨x, rfl, hx⟩, hb⟩
      have HB := Lib.hid hb
      clear hb
      cases hg : gGood 0 s.data.toList with
      | false =>
        have HN := Lib.hid (getOk_no (l := s.data.toList) (fun h => by rw [hg] at h; exact absurd h.2.2.1 (by decide)))
        clear hx hg
        go_wp2
        go_ret2
        exact ⟨by rw [getA_no HN.out, HN.out]; rfl, HB.out⟩
      | true =>
        obtain rfl := hx hg
        clear hx
        obtain ⟨T, hT⟩ : ∃ T : ByteArray, T = ⟨(getR s.data.toList).toArray⟩ := ⟨_, rfl⟩
        have HTL := Lib.hid (show T.data.toList = getR s.data.toList by rw [hT])
        have hgl := get_len s.data.toList 0
        rw [size_list] at hgl
        have hTs : T.size ≤ maxLen := by rw [← size_list, HTL.out]; unfold maxLen; exact Nat.le_trans hgl (by omega)
        have HT := Lib.hid hT
        rw [show (⟨(recS getStep 0 s.data.toList).toArray⟩ : ByteArray) = T from hT.symm]
        clear hT hgl
        cases hk : okB T.data.toList with
        | false =>
          have HN := Lib.hid (getOk_no (l := s.data.toList) (fun h => by rw [← HTL.out, hk] at h; exact absurd h.2.2.2 (by decide)))
          clear hg
          go_wp2_with (go_at_call 49; refine (l2Ok_any _ _ hTs).mono ?_; rintro e w' ⟨rfl, rfl⟩)
          go_ret2
          exact ⟨by rw [getA_no HN.out, HN.out]; rfl, HB.out⟩
        | true =>
          have HN := Lib.hid ((getOk_iff s.data.toList).2 ⟨HAll.out, by rw [HSL.out]; exact hlen, hg, by rw [← HTL.out]; exact hk⟩)
          clear hg
          go_wp2_with (go_at_call 49; refine (l2Ok_any _ _ hTs).mono ?_; rintro e w' ⟨rfl, rfl⟩)
          go_ret2
          exact ⟨by rw [getA_yes HN.out, HN.out, HT.out]; rfl, HB.out⟩

set_option maxHeartbeats 1000000 in
theorem drawStuffGet_any {w : World} (a : Option Addr) (len cap : Nat) (zs : List Int) (h : IsRow .u8 w a len cap zs) :
    Calls Try.prog 37 #[.slice a len cap] w fun e w' => ∃ s : ByteArray, e = .returned (.string s) ∧ s.size ≤ 1205 ∧ Below w.heap.size w w' := by
  have HH := Lib.hid h
  clear h
  go_enter Try.func37, Try.ntmps37
  go_wp2_with fail
  refine (open_any a len cap zs HH.out).mono ?_
  rintro e w1 ⟨rfl, hr1, hb1, _⟩
  have HR1 := Lib.hid hr1
  have HB1 := Lib.hid hb1
  clear hr1 hb1
  go_wp2_with fail
  refine (pick_any _ HR1.out (by omega)).mono ?_
  rintro e w2 ⟨⟨x, rfl, _, _⟩, hr2, hg2⟩
  have HR2 := Lib.hid hr2
  have HB2 := Lib.hid (HB1.out.trans (grown_below hg2 HB1.out.size (Nat.le_refl _)))
  clear hr2 hg2
  by_cases hx0 : x = 0
  · subst hx0
    go_wp2_with fail
    refine (anyBits_any HR2.out (by omega)).mono ?_
    rintro e w3 ⟨s, rfl, hs, hr3, hg3⟩
    have HB3 := Lib.hid (HB2.out.trans (grown_below hg3 HB2.out.size (Nat.le_refl _)))
    clear hr3 hg3
    go_wp2
    go_ret
    exact ⟨s, rfl, hs, HB3.out⟩
  · have hb0 : (x == 0) = false := beq_eq_false_iff_ne.2 hx0
    go_wp2_with fail
    refine (bits_any 60 HR2.out (by omega) (by omega)).mono ?_
    rintro e w3 ⟨s, rfl, hs, hbits, hr3, hg3⟩
    have HB3 := Lib.hid (HB2.out.trans (grown_below hg3 HB2.out.size (Nat.le_refl _)))
    have HBits := Lib.hid hbits
    clear hr3 hg3 hbits
    go_wp2_with fail
    refine (l3Put_any s _ (by omega) HBits.out).mono ?_
    rintro e w4 ⟨rfl, hb4⟩
    have HB4 := Lib.hid (HB3.out.trans (hb4.mono HB3.out.size))
    clear hb4
    go_wp2
    go_ret
    refine ⟨_, rfl, ?_, HB4.out⟩
    have h1 := (put_len s.data.toList 0 (by omega)).2
    rw [size_list] at h1
    show (putR s.data.toList).toArray.size ≤ 1205
    rw [List.size_toArray]
    have h2 : 5 * (putR s.data.toList).length ≤ 6 * s.size + 0 := h1
    omega
end Go.Proofs.Ytabdejafmhnaaaa
