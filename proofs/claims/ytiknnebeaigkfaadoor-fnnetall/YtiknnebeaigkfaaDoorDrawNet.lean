/- Draws for the laws of nets. -/
import Derived.Test.YtiknnebeaigkfaaDoorDrawOf
import Derived.Test.YtiknnebeaigkfaaDoorDrawD
import Derived.Test.YtiknnebeaigkfaaDoorNetB
namespace Go.Proofs.YtiknnebeaigkfaaDoor
open Go.ChangeShapes Go.WideShapes Go.ChangeAt Go.RowKit
theorem drawNetPut_any {w : World} (a : Option Addr) (len cap : Nat) (zs : List Int) (h : IsRow .u8 w a len cap zs) :
    Calls Tryd.prog 9 #[.slice a len cap] w fun e w' => ∃ s : ByteArray, e = .returned (.string s) ∧ s.size ≤ 780 ∧ Below w.heap.size w w' := by
  have HH := Lib.hid h
  clear h
  go_enter Tryd.func9, Tryd.ntmps9
  go_wp2_with fail
  refine (open_any a len cap zs HH.out).mono ?_
  rintro e w1 ⟨rfl, hr1, hb1, hs1⟩
  clear hs1
  have HR1 := Lib.hid hr1
  have HB1 := Lib.hid hb1
  clear hr1 hb1
  go_wp2_with fail
  refine (some_any HR1.out (by omega)).mono ?_
  rintro e w3 ⟨s, rfl, hs, hr3, hg3⟩
  have HB3 := Lib.hid (HB1.out.trans (grown_below hg3 HB1.out.size (Nat.le_refl _)))
  clear hr3 hg3
  go_wp2
  go_ret
  exact ⟨s, rfl, hs, HB3.out⟩
theorem put_size (s : ByteArray) : (⟨(netPutL s.data.toList).toArray⟩ : ByteArray).size ≤ 606 := by
  rw [size_of_list]; exact put_short _
theorem drawNetGet_any {w : World} (a : Option Addr) (len cap : Nat) (zs : List Int) (h : IsRow .u8 w a len cap zs) :
    Calls Tryd.prog 13 #[.slice a len cap] w fun e w' => ∃ s : ByteArray, e = .returned (.string s) ∧ s.size ≤ 1000 ∧ Below w.heap.size w w' := by
  have HH := Lib.hid h
  clear h
  go_enter Tryd.func13, Tryd.ntmps13
  go_wp2_with fail
  refine (open_any a len cap zs HH.out).mono ?_
  rintro e w1 ⟨rfl, hr1, hb1, hs1⟩
  clear hs1
  have HR1 := Lib.hid hr1
  have HB1 := Lib.hid hb1
  clear hr1 hb1
  go_wp2_with fail
  refine (bytes_any 12 HR1.out (by omega) (by omega)).mono ?_
  rintro e w2 ⟨s0, rfl, hs0, hr2, hg2⟩
  have HR2 := Lib.hid hr2
  have HB2 := Lib.hid (HB1.out.trans (grown_below hg2 HB1.out.size (Nat.le_refl _)))
  clear hr2 hg2
  go_wp2_with fail
  refine (specNetPut_any s0 _).mono ?_
  rintro e w3 ⟨rfl, hb3⟩
  have HR3 := Lib.hid (HR2.out.grow (below_grown hb3 none) (by simp) (by simp))
  have HB3 := Lib.hid (HB2.out.trans (hb3.mono HB2.out.size))
  clear hb3
  have hss := put_size s0
  generalize (⟨(netPutL s0.data.toList).toArray⟩ : ByteArray) = s at *
  go_wp2_with fail
  refine (bent_any s HR3.out (by omega) (by omega)).mono ?_
  rintro e w6 ⟨u, rfl, hu, hr6, hg6⟩
  have HR6 := Lib.hid hr6
  have HB6 := Lib.hid (HB3.out.trans (grown_below hg6 HB3.out.size (Nat.le_refl _)))
  clear hr6 hg6
  go_wp2_with fail
  refine (bytes_any 3 HR6.out (by omega) (by omega)).mono ?_
  rintro e w7 ⟨s7, rfl, hs7, hr7, hg7⟩
  have HB7 := Lib.hid (HB6.out.trans (grown_below hg7 HB6.out.size (Nat.le_refl _)))
  clear hr7 hg7
  go_wp2
  go_ret
  exact ⟨u ++ s7, rfl, by rw [ByteArray.size_append]; omega, HB7.out⟩
set_option maxRecDepth 100000 in
set_option maxHeartbeats 800000 in
theorem drawNetAll_any {w : World} (a : Option Addr) (len cap : Nat) (zs : List Int) (h : IsRow .u8 w a len cap zs) :
    Calls Tryd.prog 15 #[.slice a len cap] w fun e w' => ∃ s : ByteArray, e = .returned (.string s) ∧ s.size ≤ 10000 ∧ Below w.heap.size w w' := by
  have HH := Lib.hid h
  clear h
  go_enter Tryd.func15, Tryd.ntmps15
  go_wp2_with fail
  refine (open_any a len cap zs HH.out).mono ?_
  rintro e w1 ⟨rfl, hr1, hb1, hs1⟩
  clear hs1
  have hgl := hr1.lt
  have HR1 := Lib.hid hr1
  have HB1 := Lib.hid hb1
  clear hr1 hb1
  go_wp2_with fail
  refine (one_any (m := w1.heap.size) [0, 1, 3, 12, 13] 3 (HR1.out.alloc _) (by omega) (by simp) (by simp) (by omega) (heap_alloc_new w1 _)).mono ?_
  rintro e w2 ⟨z, hz, rfl, hr2, hg2⟩
  have HR2 := Lib.hid hr2
  have HB2 := Lib.hid ((HB1.out.alloc HB1.out.size _).trans (grown_below hg2 (Nat.le_trans HB1.out.size (by simp)) (Nat.le_refl _)))
  have hzb : 0 ≤ z ∧ z ≤ 13 := by
    simp only [List.mem_cons, List.not_mem_nil, or_false] at hz
    omega
  clear hr2 hg2 hz
  obtain ⟨n0, rfl⟩ := Int.eq_ofNat_of_zero_le hzb.1
  have hn0 : n0 ≤ 13 := by omega
  clear hzb
  go_wp2
  go_loopw [4, 5] (fun t n wr => ∃ (m : Nat) (s : ByteArray), t = .string s ∧ n = .int .i64 (m : Int) ∧ m ≤ 13 ∧ s.size ≤ 606 * (13 - m) ∧ Rd wr w.heap.size w.heap.size (300 - 13 * m) ∧ Below w.heap.size w wr) (fun _ n _ => (intOf n).toNat)
  case atStart => exact ⟨n0, ⟨#[]⟩, rfl, rfl, hn0, Nat.zero_le _, HR2.out.mono (by omega), HB2.out⟩
  case round =>
    obtain ⟨m, s, rfl, rfl, hm, hs, hr, hb⟩ := hrel
    have HR := Lib.hid hr
    have HB := Lib.hid hb
    clear hr hb
    by_cases h0 : m = 0
    · subst h0
      go_wp2_with fail
      refine (pick_any _ HR.out (by omega)).mono ?_
      rintro e w3 ⟨⟨x, rfl, _, _⟩, hr3, hg3⟩
      have HR3 := Lib.hid hr3
      have HB3 := Lib.hid (HB.out.trans (grown_below hg3 HB.out.size (Nat.le_refl _)))
      clear hr3 hg3
      by_cases hx : x = 0
      · subst hx
        go_wp2_with fail
        refine (bent_any s HR3.out (by omega) (by omega)).mono ?_
        rintro e w6 ⟨u, rfl, hu, hr6, hg6⟩
        have HB6 := Lib.hid (HB3.out.trans (grown_below hg6 HB3.out.size (Nat.le_refl _)))
        clear hr6 hg6
        go_wp2
        go_ret
        exact ⟨u, rfl, by omega, HB6.out⟩
      · have hx0 : (x == 0) = false := beq_eq_false_iff_ne.2 hx
        go_wp2
        go_ret
        exact ⟨s, rfl, by omega, HB3.out⟩
    · obtain ⟨k, rfl⟩ : ∃ k, m = k + 1 := ⟨m - 1, by omega⟩
      go_wp2_with fail
      refine (bytes_any 4 HR.out (by omega) (by omega)).mono ?_
      rintro e w3 ⟨s0, rfl, hs0, hr3, hg3⟩
      have HR3 := Lib.hid hr3
      have HB3 := Lib.hid (HB.out.trans (grown_below hg3 HB.out.size (Nat.le_refl _)))
      clear hr3 hg3
      go_wp2_with fail
      refine (specNetPut_any s0 _).mono ?_
      rintro e w4 ⟨rfl, hb4⟩
      have HR4 := Lib.hid (HR3.out.grow (below_grown hb4 none) (by simp) (by simp))
      have HB4 := Lib.hid (HB3.out.trans (hb4.mono HB3.out.size))
      clear hb4
      have hss := put_size s0
      generalize (⟨(netPutL s0.data.toList).toArray⟩ : ByteArray) = p at *
      go_wp2
      go_roundw
      case rel => exact ⟨k, s ++ p, rfl, by go_num, by omega, by rw [ByteArray.size_append]; omega, HR4.out.mono (by omega), HB4.out⟩
      case measure => simp [intOf]
end Go.Proofs.YtiknnebeaigkfaaDoor
