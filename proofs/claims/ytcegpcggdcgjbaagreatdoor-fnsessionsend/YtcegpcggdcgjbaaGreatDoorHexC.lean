/- HexGet, in the program and in the model. -/
import Derived.Test.YtcegpcggdcgjbaaGreatDoorHexB
namespace Go.Proofs.YtcegpcggdcgjbaaGreatDoor
open Go.ChangeShapes Go.WideShapes Go.ChangeAt Go.RowKit
theorem digV_eq (b : UInt8) : digV b = if 48 ≤ b.toNat ∧ b.toNat ≤ 57 then (b.toNat : Int) - 48 else if 97 ≤ b.toNat ∧ b.toNat ≤ 102 then (b.toNat : Int) - 87 else -1 := rfl
theorem l9Digit_any (b : UInt8) (w : World) :
    Calls Tryz.prog 58 #[.int .u8 b.toNat] w fun e w' => e = .returned (.int .i64 (digV b)) ∧ w = w' := by
  have hb := UInt8.toNat_lt b
  have HV := Lib.hid (digV_eq b)
  obtain ⟨x, hx⟩ : ∃ x, x = b.toNat := ⟨_, rfl⟩
  rw [← hx] at HV hb ⊢
  clear hx
  by_cases h1 : 48 ≤ x
  · by_cases h2 : x ≤ 57
    · have HV2 := Lib.hid (HV.out.trans (if_pos ⟨h1, h2⟩))
      go_enter Tryz.func58, Tryz.ntmps58
      go_wp2
      go_ret
      exact ⟨ret_int (by rw [HV2.out]), rfl⟩
    · by_cases h3 : 97 ≤ x
      · by_cases h4 : x ≤ 102
        · have HV2 := Lib.hid ((HV.out.trans (if_neg (by omega))).trans (if_pos ⟨h3, h4⟩))
          go_enter Tryz.func58, Tryz.ntmps58
          go_wp2
          go_ret
          exact ⟨ret_int (by rw [HV2.out]; omega), rfl⟩
        · have HV2 := Lib.hid ((HV.out.trans (if_neg (by omega))).trans (if_neg (by omega)))
          go_enter Tryz.func58, Tryz.ntmps58
          go_wp2
          go_ret
          exact ⟨ret_int (by rw [HV2.out]), rfl⟩
      · have HV2 := Lib.hid ((HV.out.trans (if_neg (by omega))).trans (if_neg (by omega)))
        go_enter Tryz.func58, Tryz.ntmps58
        go_wp2
        go_ret
        exact ⟨ret_int (by rw [HV2.out]), rfl⟩
  · have HV2 := Lib.hid ((HV.out.trans (if_neg (by omega))).trans (if_neg (by omega)))
    go_enter Tryz.func58, Tryz.ntmps58
    go_wp2
    go_ret
    exact ⟨ret_int (by rw [HV2.out]), rfl⟩
def BytesPost (w : World) (l : List UInt8) (e : Ending) (w' : World) : Prop := (∃ x, e = .returned (.tuple #[.string x, .bool (getHOk l)]) ∧ (getHOk l = true → x = ⟨(getH l).toArray⟩)) ∧ Below w.heap.size w w'
theorem dash_ne {s : ByteArray} (h : s ≠ ⟨#[45]⟩) : s.data.toList ≠ [45] := by
  intro e
  apply h
  rw [← Lib.mk_data s, e]
theorem all_snoc2 {l : List UInt8} {a b : UInt8} : (l ++ [a, b]).all goodB = (l.all goodB && (goodB a && goodB b)) := by simp
theorem snoc_two (s : ByteArray) (j : Nat) (h : j + 1 < s.size) : s.data.toList.take (j + 2) = s.data.toList.take j ++ [s[j], s[j + 1]] := by
  rw [show j + 2 = (j + 1) + 1 by omega, snoc_take s _ h, snoc_take s j (by omega)]
  simp
theorem bad_not {l : List UInt8} {i : Nat} (hi : i < l.length) (h : digV l[i] < 0) (h0 : l ≠ [45]) : getHOk l = false := by
  unfold getHOk
  rw [decide_eq_false h0, Bool.false_or, Bool.and_eq_false_iff]
  right
  rw [List.all_eq_false]
  exact ⟨l[i], List.getElem_mem hi, by unfold goodB; simpa using h⟩
set_option maxRecDepth 100000 in
set_option maxHeartbeats 4000000 in
theorem l9Bytes_any (s : ByteArray) (w : World) (hs : s.size ≤ 100000000) :
    Calls Tryz.prog 35 #[.string s] w (BytesPost w s.data.toList) := by
  obtain ⟨i0, hi, hz0, hz1, hz2⟩ := info_parts info_u8
  have HI := Lib.hid hi
  have HZ0 := Lib.hid hz0
  have HZ1 := Lib.hid hz1
  have HZ2 := Lib.hid hz2
  clear hi hz0 hz1 hz2
  by_cases h45 : s = ⟨#[45]⟩
  · subst h45
    go_enter Tryz.func35, Tryz.ntmps35
    go_wp2
    go_ret2
    exact ⟨⟨_, rfl, fun _ => rfl⟩, (Below.refl _ _).alloc (Nat.le_refl _) _⟩
  have HNE := Lib.hid (dash_ne h45)
  have HSL := Lib.hid (size_list s)
  have hne : (s.toList == [45]) = false := beq_eq_false_iff_ne.2 (by rw [Lib.toList_data]; exact HNE.out)
  clear h45
  go_enter Tryz.func35, Tryz.ntmps35
  go_wp2
  go_loopw [4, 5] (fun v i wr => ∃ j : Nat, j % 2 = 0 ∧ j ≤ s.size ∧ i = .int .i64 (j : Int) ∧ OB 5 wr w.heap.size v (unhex (s.data.toList.take (j))) ∧ (s.data.toList.take (j)).all goodB = true ∧ Below w.heap.size w wr) (fun _ i _ => s.size - (intOf i).toNat)
  case atStart => exact ⟨0, rfl, by omega, rfl, .inr ⟨w.heap.size, 0, #[], (0, 0), rfl, Nat.le_refl _, heap_alloc_new w _, .inl rfl, Nat.le_refl _, by simp [maxLen], rfl, rfl⟩, rfl, (Below.refl _ _).alloc (Nat.le_refl _) _⟩
  case round =>
    obtain ⟨j, hj2, hj, rfl, hown, hgood, hb⟩ := hrel
    have HJ2 := Lib.hid hj2
    clear hj2
    have HO := Lib.hid hown
    have HB := Lib.hid hb
    have HG := Lib.hid hgood
    clear hown hb hgood
    by_cases hlt : j + 1 < s.size
    · have HU := Lib.hid (show unhex (s.data.toList.take (j + 2)) = unhex (s.data.toList.take (j)) ++ [UInt8.ofNat (16 * (digV s[j]).toNat + (digV s[j + 1]).toNat)] by
        rw [snoc_two s j hlt, unhex_snoc2]
        rw [List.length_take, HSL.out]; have := HJ2.out; omega)
      have HG2 := Lib.hid (show (s.data.toList.take (j + 2)).all goodB = ((s.data.toList.take (j)).all goodB && (goodB s[j] && goodB s[j + 1])) by rw [snoc_two s j hlt, all_snoc2])
      have hul : (unhex (s.data.toList.take (j))).length ≤ s.size := by rw [unhex_len, List.length_take]; omega
      have h1 := digV_lt s[j]
      have h2 := digV_lt s[j + 1]
      have hb1 := UInt8.toNat_lt s[j]
      have hb2 := UInt8.toNat_lt s[j + 1]
      obtain ⟨x, hx⟩ : ∃ x, x = s[j] := ⟨_, rfl⟩
      obtain ⟨y, hy⟩ : ∃ y, y = s[j + 1] := ⟨_, rfl⟩
      rw [← hx] at HU HG2 h1
      rw [← hy] at HU HG2 h2
      have HX1b := Lib.hid (show digV x < 0 → getHOk s.data.toList = false from fun h => bad_not (l := s.data.toList) (i := j) (by rw [HSL.out]; omega) (by rw [hx] at h; exact h) HNE.out)
      have HX2b := Lib.hid (show digV y < 0 → getHOk s.data.toList = false from fun h => bad_not (l := s.data.toList) (i := j + 1) (by rw [HSL.out]; omega) (by rw [hy] at h; exact h) HNE.out)
      have HXN := Lib.hid hx
      have HYN := Lib.hid hy
      clear hx hy
      go_wp2_with fail
      rw [← HXN.out]
      refine (l9Digit_any x _).mono ?_
      rintro e w1 ⟨rfl, rfl⟩
      go_wp2_with fail
      rw [← HYN.out]
      refine (l9Digit_any y _).mono ?_
      rintro e w1 ⟨rfl, rfl⟩
      by_cases hx0 : digV x < 0
      · have HK := Lib.hid (HX1b.out hx0)
        go_wp2
        go_ret2
        rw [BytesPost, HK.out]
        exact ⟨⟨_, rfl, fun h => by cases h⟩, HB.out⟩
      by_cases hy0 : digV y < 0
      · have HK := Lib.hid (HX2b.out hy0)
        go_wp2
        go_ret2
        rw [BytesPost, HK.out]
        exact ⟨⟨_, rfl, fun h => by cases h⟩, HB.out⟩
      have HG3 := Lib.hid (show (s.data.toList.take (j + 2)).all goodB = true by
        rw [HG2.out, HG.out, goodB, goodB, decide_eq_true (show 0 ≤ digV x by omega), decide_eq_true (show 0 ≤ digV y by omega)]; rfl)
      obtain ⟨p, hp⟩ := Int.eq_ofNat_of_zero_le (show 0 ≤ digV x by omega)
      obtain ⟨q, hq⟩ := Int.eq_ofNat_of_zero_le (show 0 ≤ digV y by omega)
      rw [hp] at h1 hx0 ⊢
      rw [hq] at h2 hy0 ⊢
      rw [hp, hq] at HU
      simp only [Int.toNat_natCast] at HU
      have HBV := Lib.hid (show byteV (UInt8.ofNat (16 * p + q)) = .int .u8 ((p : Int) * 16 + (q : Int)) by
        unfold byteV; rw [UInt8.toNat_ofNat']; congr 1; omega)
      clear hp hq HG2 HX1b HX2b
      go_wp2_with (at_builtin; refine wpList_append_OB _ rfl _ _ 22 rfl w.heap.size 5 i0 Tryz.underlying22 HI.out HZ0.out HZ1.out HZ2.out _ _ rfl (HO.out.alloc _) ⟨wr.heap.size, 0, none⟩ 1 1 [UInt8.ofNat (16 * p + q)] rfl rfl (one_new wr _ _ _ HBV.out) (by simp; omega) (by have := HB.out.size; simp; omega) ?_; intro v2 w2 hown2 hg2)
      go_roundw
      case rel =>
        refine ⟨j + 2, by have := HJ2.out; omega, by omega, by go_num, ?_, HG3.out, (HB.out.alloc HB.out.size _).grown hg2 (by have := HB.out.size; simp; omega) (fun k hk => (HO.out.lt k hk).1)⟩
        rw [HU.out]
        exact hown2
      case measure => simp [intOf]; omega
    · by_cases hodd : s.size = j + 1
      · have HK := Lib.hid (show getHOk s.data.toList = false by
          unfold getHOk
          rw [decide_eq_false HNE.out, HSL.out, decide_eq_false (by have := HJ2.out; omega)]; rfl)
        have hm : ((s.size : Int) % 2 == 0) = false := beq_eq_false_iff_ne.2 (by have := HJ2.out; omega)
        clear hodd
        go_wp2_with (refine wpList_string_of_OB _ rfl 22 9 5 _ rfl w.heap.size _ _ rfl Tryz.underlying22 Tryz.underlying5 Tryz.underlying9 HO.out ?_)
        go_ret2
        rw [BytesPost, HK.out]
        exact ⟨⟨_, rfl, fun h => by cases h⟩, HB.out⟩
      have HEV := Lib.hid (show s.size = j by omega)
      have hm : (s.size : Int) % 2 = 0 := by have := HEV.out; have := HJ2.out; omega
      by_cases h0 : s.size = 0
      · have HK := Lib.hid (show getHOk s.data.toList = false by
          unfold getHOk
          rw [decide_eq_false HNE.out, HSL.out, decide_eq_false (by have := HJ2.out; omega)]; rfl)
        go_wp2_with (refine wpList_string_of_OB _ rfl 22 9 5 _ rfl w.heap.size _ _ rfl Tryz.underlying22 Tryz.underlying5 Tryz.underlying9 HO.out ?_)
        go_ret2
        rw [BytesPost, HK.out]
        exact ⟨⟨_, rfl, fun h => by cases h⟩, HB.out⟩
      by_cases h80 : 80 < s.size
      · have hdec : decide ((s.size : Int) ≤ 80) = false := decide_eq_false (by omega)
        have HK := Lib.hid (show getHOk s.data.toList = false by
          unfold getHOk
          rw [decide_eq_false HNE.out, HSL.out, decide_eq_false (by have := HJ2.out; omega)]; rfl)
        go_wp2_with (refine wpList_string_of_OB _ rfl 22 9 5 _ rfl w.heap.size _ _ rfl Tryz.underlying22 Tryz.underlying5 Tryz.underlying9 HO.out ?_)
        go_ret2
        rw [BytesPost, HK.out]
        exact ⟨⟨_, rfl, fun h => by cases h⟩, HB.out⟩
      have hdec : decide ((s.size : Int) ≤ 80) = true := decide_eq_true (by omega)
      have HE := Lib.hid (take_all s (j) (by have := HEV.out; omega))
      have HK := Lib.hid (show getHOk s.data.toList = true by
        have hg := HG.out
        rw [HE.out] at hg
        unfold getHOk
        rw [hg, HSL.out, decide_eq_true (show s.size % 2 = 0 ∧ 0 < s.size ∧ s.size ≤ 80 by have := HJ2.out; have := HEV.out; omega)]; simp)
      have HV := Lib.hid (show getH s.data.toList = unhex s.data.toList by unfold getH; rw [if_neg HNE.out, if_pos HK.out])
      go_wp2_with (refine wpList_string_of_OB _ rfl 22 9 5 _ rfl w.heap.size _ _ rfl Tryz.underlying22 Tryz.underlying5 Tryz.underlying9 HO.out ?_)
      go_ret2
      rw [BytesPost, HK.out, HV.out]
      exact ⟨⟨_, rfl, fun h => by rw [HE.out]⟩, HB.out⟩
end Go.Proofs.YtcegpcggdcgjbaaGreatDoor
