/- Nets in the program: a text cut at a colon, the figures of a number, a number of figures. -/
import Derived.Test.YtiknnebeaigkfaaDoorNetB
import Derived.Test.YtiknnebeaigkfaaDoorNetL
import Derived.RegionTactic
import Derived.Lib.AppendIntMem
import Derived.Lib.IndexLaws
import Derived.Lib.AtoiErrMem
import Derived.OwnWalk
namespace Go.Proofs.YtiknnebeaigkfaaDoor
open Go.ChangeShapes Go.WideShapes Go.ChangeAt Go.RowKit
open Go.Lib (decDigits itoa)
theorem index_of {t : List UInt8} (h : 58 ∈ t) : ∃ k : Nat, Lib.indexByte t 58 = (k : Int) ∧ k < t.length ∧ wordL t = t.take k ∧ restL t = t.drop (k + 1) := by
  have hg := Lib.indexByte_ge t 58
  rcases Int.lt_or_le (Lib.indexByte t 58) 0 with hn | hn
  · exfalso
    have := Lib.indexByte_none (l := t) (c := 58) (by omega)
    obtain ⟨i, hi, e⟩ := List.mem_iff_getElem.1 h
    exact this i (by rw [List.getElem?_eq_getElem hi, e])
  · obtain ⟨k, hk⟩ := Int.eq_ofNat_of_zero_le hn
    obtain ⟨h1, h2⟩ := Lib.indexByte_some hk
    obtain ⟨hlt, he⟩ := List.getElem?_eq_some_iff.1 h1
    obtain ⟨_, e1, e2⟩ := word_at hlt he (fun j hj e => h2 j hj (by rw [List.getElem?_eq_getElem (by omega), e]))
    exact ⟨k, hk, hlt, e1, e2⟩
theorem index_no {t : List UInt8} (h : 58 ∉ t) : Lib.indexByte t 58 = -1 := by
  have hg := Lib.indexByte_ge t 58
  rcases Int.lt_or_le (Lib.indexByte t 58) 0 with hn | hn
  · omega
  · obtain ⟨k, hk⟩ := Int.eq_ofNat_of_zero_le hn
    obtain ⟨h1, h2⟩ := Lib.indexByte_some hk
    exact absurd (List.mem_of_getElem? h1) h
def CutPost (w : World) (s : ByteArray) (e : Ending) (w' : World) : Prop := (∃ b, e = .returned (.tuple #[.string ⟨(wordL s.data.toList).toArray⟩, .string ⟨(restL s.data.toList).toArray⟩, .bool b])) ∧ Below w.heap.size w w'
set_option maxRecDepth 100000 in
set_option maxHeartbeats 800000 in
theorem liteCut_any (s : ByteArray) (w : World) (hs : s.size ≤ 1048576) :
    Calls Tryd.prog 40 #[.string s, .string ⟨#[58]⟩] w (CutPost w s) := by
  have HX := Lib.hid (show ∀ u, Calls Tryd.prog 46 #[.string s, .string ⟨#[58]⟩] u fun e w' => e = .returned (.int .i64 (Lib.indexByte s.data.toList 58)) ∧ w' = u from fun u => Any.stringslite_Index_one laysIndex s 58 u)
  have HSL := Lib.hid (size_list s)
  by_cases hin : 58 ∈ s.data.toList
  · obtain ⟨k, hk, hlt, e1, e2⟩ := index_of hin
    rw [hk] at HX
    rw [HSL.out] at hlt
    have hs1 := nsl_to s k (by omega)
    have hs2 := nsl_from s (k + 1) (by omega)
    have HP1 := Lib.hid (nx_to s k)
    have HP2 := Lib.hid (nx_from s (k + 1))
    have HE1 := Lib.hid e1
    have HE2 := Lib.hid e2
    have hw1 : IntKind.i64.wrap ((k : Int) + 1) = (k : Int) + 1 := wrap_in _ (by omega) (by omega)
    have hc1 : (((k + 1 : Nat) : Int)) = (k : Int) + 1 := by omega
    rw [hc1] at hs2
    obtain ⟨A, hA⟩ : ∃ A : ByteArray, A = s.extract 0 k := ⟨_, rfl⟩
    obtain ⟨B, hB⟩ : ∃ B : ByteArray, B = s.extract (k + 1) s.size := ⟨_, rfl⟩
    rw [← hA] at hs1 HP1
    rw [← hB] at hs2 HP2
    clear hA hB hk e1 e2 hin hc1
    go_enter Tryd.func40, Tryd.ntmps40
    go_wp2_with fail
    refine (HX.out _).mono ?_
    rintro e w1 ⟨rfl, rfl⟩
    go_wp2_with fail
    go_region
    go_wp2
    go_ret3
    exact ⟨⟨_, by rw [HE1.out, HE2.out, ← HP1.out, ← HP2.out]; rfl⟩, (Below.refl _ _).drew⟩
  · rw [index_no hin] at HX
    obtain ⟨e1, e2⟩ := word_none hin
    have HE1 := Lib.hid e1
    have HE2 := Lib.hid e2
    clear e1 e2 hin
    go_enter Tryd.func40, Tryd.ntmps40
    go_wp2_with fail
    refine (HX.out _).mono ?_
    rintro e w1 ⟨rfl, rfl⟩
    go_wp2
    go_ret3
    exact ⟨⟨_, by rw [HE1.out, HE2.out, Lib.mk_data]; rfl⟩, Below.refl _ _⟩
theorem strCut_any (s : ByteArray) (w : World) (hs : s.size ≤ 1048576) :
    Calls Tryd.prog 26 #[.string s, .string ⟨#[58]⟩] w (CutPost w s) := by
  have HC := Lib.hid (fun u => liteCut_any s u hs)
  go_enter Tryd.func26, Tryd.ntmps26
  go_wp2_with fail
  refine (HC.out _).mono ?_
  rintro e w1 ⟨⟨b, rfl⟩, hb⟩
  have HB := Lib.hid hb
  clear hb
  go_wp2
  go_ret3
  exact ⟨⟨_, rfl⟩, HB.out⟩
theorem itoaN_any (n : Nat) (hn : n ≤ 1000000) (w : World) (hw : PowIs w) :
    Calls Tryd.prog 24 #[.int .i64 (n : Int)] w fun e w' => e = .returned (.string ⟨(decDigits n).toArray⟩) ∧ Below w.heap.size w w' := by
  have := Any.strconv_Itoa laysItoa (n : Int) (by omega) (by omega) w hw
  refine Calls.mono this ?_
  rintro e w' ⟨rfl, k, os, rfl⟩
  rw [Lib.itoa_nonneg]
  exact ⟨rfl, Lib.below_grow _ _ (Nat.le_refl _) _ _⟩
set_option maxRecDepth 100000 in
set_option maxHeartbeats 800000 in
theorem numberOf_any (s : ByteArray) (w : World) (hw : NumIs w) (hs : s.size ≤ 1048576) :
    Calls Tryd.prog 27 #[.string s] w fun e w' => e = .returned (.int .i64 (numL s.data.toList)) ∧ Below w.heap.size w w' := by
  have HW := Lib.hid hw
  rcases ha : Lib.atoiAll s.data.toList with v | _ | _
  · have HX := Lib.hid (show ∀ u, Calls Tryd.prog 41 #[.string s] u fun e w' => e = .returned (.tuple #[.int .i64 v, .nilIface]) ∧ Below u.heap.size u w' from fun u => Calls.mono (Any.strconv_Atoi_ok laysAtoi s (by omega) v ha u) (by
      rintro e w' ⟨rfl, rfl | ⟨t, rfl⟩⟩
      · exact ⟨rfl, Below.refl _ _⟩
      · exact ⟨rfl, Lib.bytesWorld_below _ _ _⟩))
    have HNO := Lib.hid (show ¬ (0 ≤ v ∧ v ≤ 999999 ∧ itoa v = s.data.toList) → numL s.data.toList = -1 from fun h => num_no (fun v' h' hh => h (by rw [ha] at h'; injection h' with h'; rw [h']; exact hh)))
    obtain ⟨hb0, hb1⟩ := Lib.atoiAll_bounds ha
    clear ha hw
    by_cases hlo : v < 0
    · have HV := Lib.hid (HNO.out (fun h => by omega))
      go_enter Tryd.func27, Tryd.ntmps27
      go_wp2_with fail
      refine (HX.out _).mono ?_
      rintro e w1 ⟨rfl, hb⟩
      have HB := Lib.hid hb
      clear hb
      go_wp2
      go_ret
      exact ⟨by rw [HV.out]; rfl, HB.out⟩
    · by_cases hhi : 999999 < v
      · have HV := Lib.hid (HNO.out (fun h => by omega))
        go_enter Tryd.func27, Tryd.ntmps27
        go_wp2_with fail
        refine (HX.out _).mono ?_
        rintro e w1 ⟨rfl, hb⟩
        have HB := Lib.hid hb
        clear hb
        go_wp2
        go_ret
        exact ⟨by rw [HV.out]; rfl, HB.out⟩
      · obtain ⟨n, rfl⟩ := Int.eq_ofNat_of_zero_le (show 0 ≤ v by omega)
        have HIT := Lib.hid (show itoa (n : Int) = decDigits n from Lib.itoa_nonneg n)
        have hn : n ≤ 999999 := by omega
        clear hlo hhi hb0 hb1
        obtain ⟨D, hD⟩ : ∃ D : ByteArray, D = ⟨(decDigits n).toArray⟩ := ⟨_, rfl⟩
        have HI := Lib.hid (fun u hu => itoaN_any n (by omega) u hu)
        rw [← hD] at HI
        have HD := Lib.hid (show D.data.toList = decDigits n by rw [hD])
        clear hD
        by_cases heq : D = s
        · have HV := Lib.hid (show numL s.data.toList = (n : Int) from num_of (by omega) (by omega) (by rw [HIT.out, ← HD.out, heq]))
          have hne : (D.toList == s.toList) = true := by rw [heq]; simp
          clear heq
          go_enter Tryd.func27, Tryd.ntmps27
          go_wp2_with fail
          refine (HX.out _).mono ?_
          rintro e w1 ⟨rfl, hb⟩
          have HB := Lib.hid hb
          clear hb
          go_wp2_with fail
          refine (HI.out _ (HW.out.below HB.out).pow).mono ?_
          rintro e w2 ⟨rfl, hb⟩
          have HB2 := Lib.hid (HB.out.trans (hb.mono HB.out.size))
          clear hb
          go_wp2
          go_ret
          exact ⟨by rw [HV.out]; rfl, HB2.out⟩
        · have hd : D.data.toList ≠ s.data.toList := fun e => heq (by rw [← Lib.mk_data D, ← Lib.mk_data s, e])
          have HV := Lib.hid (HNO.out (fun h => hd (by rw [HD.out, ← HIT.out]; exact h.2.2)))
          have hne : (D.toList == s.toList) = false := beq_eq_false_iff_ne.2 (by rw [Lib.toList_data, Lib.toList_data]; exact hd)
          clear heq hd
          go_enter Tryd.func27, Tryd.ntmps27
          go_wp2_with fail
          refine (HX.out _).mono ?_
          rintro e w1 ⟨rfl, hb⟩
          have HB := Lib.hid hb
          clear hb
          go_wp2_with fail
          refine (HI.out _ (HW.out.below HB.out).pow).mono ?_
          rintro e w2 ⟨rfl, hb⟩
          have HB2 := Lib.hid (HB.out.trans (hb.mono HB.out.size))
          clear hb
          go_wp2
          go_ret
          exact ⟨by rw [HV.out]; rfl, HB2.out⟩
  · have HV := Lib.hid (num_no (w := s.data.toList) (fun v' h' => by rw [ha] at h'; cases h'))
    obtain ⟨_, _, tp, p, hvar⟩ := hw
    have HX := Lib.hid (show Calls Tryd.prog 41 #[.string s] w fun e w' => ∃ N, e = .returned (.tuple #[.int .i64 0, .iface 77 (.pointer (some ⟨N, 0, none⟩))]) ∧ Below w.heap.size w w' from Calls.mono (Any.strconv_Atoi_syntax_var laysAtoi s (by omega) ha tp p w hvar) (by
      rintro e w' ⟨N, rfl, _, _, hb⟩
      exact ⟨N, rfl, hb⟩))
    clear hvar ha
    go_enter Tryd.func27, Tryd.ntmps27
    go_wp2_with fail
    refine HX.out.mono ?_
    rintro e w1 ⟨N, rfl, hb⟩
    have HB := Lib.hid hb
    clear hb
    go_wp2
    go_ret
    exact ⟨by rw [HV.out]; rfl, HB.out⟩
  · have HV := Lib.hid (num_no (w := s.data.toList) (fun v' h' => by rw [ha] at h'; cases h'))
    obtain ⟨_, ⟨tp, p, hvar⟩, _⟩ := hw
    obtain ⟨z, hz⟩ : ∃ z, z = Lib.atoiSat s.data.toList := ⟨_, rfl⟩
    have HX := Lib.hid (show Calls Tryd.prog 41 #[.string s] w fun e w' => ∃ N, e = .returned (.tuple #[.int .i64 z, .iface 77 (.pointer (some ⟨N, 0, none⟩))]) ∧ Below w.heap.size w w' from Calls.mono (Any.strconv_Atoi_range_var laysAtoi s (by omega) ha tp p w hvar) (by
      rintro e w' ⟨N, rfl, _, _, hb⟩
      exact ⟨N, by rw [hz]; rfl, hb⟩))
    clear hvar ha hz
    go_enter Tryd.func27, Tryd.ntmps27
    go_wp2_with fail
    refine HX.out.mono ?_
    rintro e w1 ⟨N, rfl, hb⟩
    have HB := Lib.hid hb
    clear hb
    go_wp2
    go_ret
    exact ⟨by rw [HV.out]; rfl, HB.out⟩
end Go.Proofs.YtiknnebeaigkfaaDoor
