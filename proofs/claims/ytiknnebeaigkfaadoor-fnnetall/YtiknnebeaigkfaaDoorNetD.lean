/- Nets in the program: written, read. -/
import Derived.Test.YtiknnebeaigkfaaDoorNetC
import Derived.Test.YtiknnebeaigkfaaDoorKitA
namespace Go.Proofs.YtiknnebeaigkfaaDoor
open Go.ChangeShapes Go.WideShapes Go.ChangeAt Go.RowKit
open Go.Lib (decDigits itoa)
set_option maxRecDepth 100000 in
set_option maxHeartbeats 800000 in
theorem implNetPut_any (s : ByteArray) (w : World) (hw : PowIs w) :
    Calls Tryd.prog 10 #[.string s] w (NPutPost w s) := by
  have HSL := Lib.hid (size_list s)
  by_cases hbig : 600 < s.size
  · have HE := Lib.hid (put_no (s := s.data.toList) (by rw [HSL.out]; exact hbig))
    go_enter Tryd.func10, Tryd.ntmps10
    go_wp2
    go_ret
    exact ⟨by rw [HE.out]; rfl, Below.refl _ _⟩
  obtain ⟨D, hD⟩ : ∃ D : ByteArray, D = ⟨(decDigits s.size).toArray⟩ := ⟨_, rfl⟩
  have hDs : D.size ≤ 4 := by rw [hD, size_of_list]; exact dec_len 3 s.size (by omega)
  have HPE := Lib.hid (show ((D ++ ⟨#[58]⟩) ++ s) ++ ⟨#[44]⟩ = ⟨(netPutL s.data.toList).toArray⟩ by
    rw [put_yes (by rw [HSL.out]; omega), HSL.out, hD]
    exact (Lib.mk_data _).symm.trans (by congr 1))
  have HDD := Lib.hid (fun u hu => itoaN_any s.size (by omega) u hu)
  rw [← hD] at HDD
  have HW := Lib.hid hw
  clear hD hw
  go_enter Tryd.func10, Tryd.ntmps10
  go_wp2_with fail
  refine (HDD.out _ HW.out).mono ?_
  rintro e w1 ⟨rfl, hb⟩
  have HB := Lib.hid hb
  clear hb
  go_wp2
  go_ret
  exact ⟨by rw [← HPE.out]; rfl, HB.out⟩
set_option maxRecDepth 100000 in
set_option maxHeartbeats 1600000 in
theorem implNetGet_any (s : ByteArray) (w : World) (hw : NumIs w) (hs : s.size ≤ 1048576) :
    Calls Tryd.prog 12 #[.string s] w (NGetPost w s) := by
  have HSL := Lib.hid (size_list s)
  have HW := Lib.hid hw
  obtain ⟨W, hW⟩ : ∃ W : ByteArray, W = ⟨(wordL s.data.toList).toArray⟩ := ⟨_, rfl⟩
  obtain ⟨R, hR⟩ : ∃ R : ByteArray, R = ⟨(restL s.data.toList).toArray⟩ := ⟨_, rfl⟩
  have hWl : W.data.toList = wordL s.data.toList := by rw [hW]
  have hRl : R.data.toList = restL s.data.toList := by rw [hR]
  have hWs : W.size = (wordL s.data.toList).length := by rw [← hWl, size_list]
  have hRs : R.size = (restL s.data.toList).length := by rw [← hRl, size_list]
  have hWR : W.size + R.size ≤ s.size := by
    by_cases hin : 58 ∈ s.data.toList
    · have hsp := congrArg List.length (word_split hin).1
      rw [List.length_append, List.length_cons, ← hWs, ← hRs, HSL.out] at hsp; omega
    · obtain ⟨e1, e2⟩ := word_none hin
      rw [hWs, hRs, e1, e2, HSL.out, List.length_nil]; omega
  obtain ⟨z, hz⟩ : ∃ z, z = numL (wordL s.data.toList) := ⟨_, rfl⟩
  have hzb := num_lt (wordL s.data.toList)
  rw [← hz] at hzb
  have HC := Lib.hid (fun u => strCut_any s u hs)
  have HC2 := Lib.hid (show ∀ u, Calls Tryd.prog 26 #[.string s, .string ⟨#[58]⟩] u fun e w' => (∃ b, e = .returned (.tuple #[.string W, .string R, .bool b])) ∧ Below u.heap.size u w' from fun u => by rw [hW, hR]; exact HC.out u)
  have HN := Lib.hid (fun u hu => numberOf_any W u hu (by omega))
  rw [hWl, ← hz] at HN
  have HRL := Lib.hid hRl
  have HWS := Lib.hid hWs
  have HRS := Lib.hid hRs
  have HZ := Lib.hid hz
  clear hWl hRl hWs hRs hW hR hz HC hw
  go_enter Tryd.func12, Tryd.ntmps12
  go_wp2_with fail
  refine (HC2.out _).mono ?_
  rintro e w1 ⟨⟨b, rfl⟩, hb⟩
  have HB := Lib.hid hb
  clear hb
  go_wp2_with fail
  refine (HN.out _ (HW.out.below HB.out)).mono ?_
  rintro e w2 ⟨rfl, hb⟩
  have HB2 := Lib.hid (HB.out.trans (hb.mono HB.out.size))
  clear hb
  by_cases hlo : z < 0
  · have HY := Lib.hid (net_fail (t := s.data.toList) (fun h => by rw [← HZ.out] at h; omega))
    go_wp2
    go_ret2
    exact ⟨by rw [HY.out]; rfl, HB2.out⟩
  by_cases hhi : 600 < z
  · have HY := Lib.hid (net_fail (t := s.data.toList) (fun h => by rw [← HZ.out] at h; omega))
    go_wp2
    go_ret2
    exact ⟨by rw [HY.out]; rfl, HB2.out⟩
  obtain ⟨m, rfl⟩ := Int.eq_ofNat_of_zero_le (show 0 ≤ z by omega)
  have hm6 : m ≤ 600 := by omega
  clear hlo hhi hzb
  by_cases hlt : m < R.size
  · have hb8 := UInt8.toNat_lt R[m]
    by_cases h44 : R[m].toNat = 44
    · have HY := Lib.hid (net_yes (t := s.data.toList) HZ.out.symm hm6 (by rw [← HRS.out]; exact hlt) (by
        have : (restL s.data.toList)[m]'(by rw [← HRS.out]; exact hlt) = R[m] := by
          simp only [← HRL.out]; rfl
        rw [this]; exact UInt8.toNat_inj.1 h44))
      have hsl := nsl_to R m (by omega)
      have HXV := Lib.hid (nx_to R m)
      obtain ⟨X, hX⟩ : ∃ X : ByteArray, X = R.extract 0 m := ⟨_, rfl⟩
      rw [← hX] at hsl HXV
      have hXs : X.size ≤ 600 := by rw [HXV.out, size_of_list, List.length_take]; omega
      have hn44 : ((R[m].toNat : Int) != 44) = false := by rw [h44]; rfl
      clear h44 hX
      have hw1 : IntKind.i64.wrap ((W.size : Int) + 1) = (W.size : Int) + 1 := wrap_in _ (by omega) (by omega)
      have hw2 : IntKind.i64.wrap ((W.size : Int) + 1 + (m : Int)) = (W.size : Int) + 1 + (m : Int) := wrap_in _ (by omega) (by omega)
      have hw3 : IntKind.i64.wrap ((W.size : Int) + 1 + (m : Int) + 1) = (W.size : Int) + 1 + (m : Int) + 1 := wrap_in _ (by omega) (by omega)
      go_wp2_with fail
      refine (clone_any X _ (by omega)).mono ?_
      rintro e w3 ⟨rfl, hb⟩
      have HB3 := Lib.hid (HB2.out.trans (hb.mono HB2.out.size))
      clear hb
      go_wp2
      go_ret2
      refine ⟨?_, HB3.out⟩
      rw [HY.out, HXV.out, HRL.out, ← HWS.out]
      show _ = Ending.returned (.tuple #[.string _, .int .i64 ((W.size + 1 + m + 1 : Nat) : Int)])
      rw [show ((W.size + 1 + m + 1 : Nat) : Int) = (W.size : Int) + 1 + (m : Int) + 1 by omega]
      rfl
    · have HY := Lib.hid (net_fail (t := s.data.toList) (fun h => h44 (by
        have h2 := h.2.2.2
        rw [← HZ.out, show ((m : Int)).toNat = m from rfl, ← HRL.out, List.getD_eq_getElem?_getD, List.getElem?_eq_getElem (by rw [size_list]; exact hlt)] at h2
        have h3 : R[m] = 44 := h2
        rw [h3]; rfl)))
      have hn44 : ((R[m].toNat : Int) != 44) = true := bne_iff_ne.2 (by omega)
      clear h44
      go_wp2
      go_ret2
      exact ⟨by rw [HY.out]; rfl, HB2.out⟩
  · have HY := Lib.hid (net_fail (t := s.data.toList) (fun h => hlt (by
      have h2 := h.2.2.1
      rw [← HZ.out, ← HRS.out] at h2; omega)))
    go_wp2
    go_ret2
    exact ⟨by rw [HY.out]; rfl, HB2.out⟩
end Go.Proofs.YtiknnebeaigkfaaDoor
