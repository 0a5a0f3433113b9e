/- Draws for the laws of blocks: what is read. -/
import Derived.Test.YtiemoddaleemhaaDrawOf
import Derived.Test.YtiemoddaleemhaaDrawD
import Derived.Test.YtiemoddaleemhaaCobV
namespace Go.Proofs.Ytiemoddaleemhaa
open Go.ChangeShapes Go.WideShapes Go.ChangeAt Go.RowKit
def TextDrawn (w : World) (e : Ending) (w' : World) : Prop := ∃ s : ByteArray, e = .returned (.string s) ∧ s.size ≤ 20000 ∧ Below w.heap.size w w'
theorem cobA_le (l : List UInt8) : (cobA l).length ≤ 10000 := by
  unfold cobA; split
  · have := cob_len l; omega
  · simp
theorem lessA_le (l : List UInt8) : (lessA l).length ≤ 10000 := by
  unfold lessA; split
  · have h1 := cob_len l
    have h2 := less_size l
    omega
  · simp
theorem drawCobsGet_any {w : World} (a : Option Addr) (len cap : Nat) (zs : List Int) (h : IsRow .u8 w a len cap zs) :
    Calls Try.prog 16 #[.slice a len cap] w (TextDrawn w) := by
  have HH := Lib.hid h
  clear h
  go_enter Try.func16, Try.ntmps16
  go_wp2_with fail
  refine (open_any a len cap zs HH.out).mono ?_
  rintro e w1 ⟨rfl, hr1, hb1, _⟩
  have HR1 := Lib.hid hr1
  have HB1 := Lib.hid hb1
  clear hr1 hb1
  go_wp2_with fail
  refine (pick_any _ HR1.out (by omega)).mono ?_
  rintro e w2 ⟨⟨x, rfl, hx, _⟩, hr2, hg2⟩
  have HR2 := Lib.hid hr2
  have HB2 := Lib.hid (HB1.out.trans (grown_below hg2 HB1.out.size (Nat.le_refl _)))
  clear hr2 hg2 hx
  by_cases hx0 : x = 0
  · subst hx0
    go_wp2_with fail
    refine (some_any HR2.out (by omega)).mono ?_
    rintro e w3 ⟨s, rfl, hs, hr3, hg3⟩
    have HB3 := Lib.hid (HB2.out.trans (grown_below hg3 HB2.out.size (Nat.le_refl _)))
    clear hr3 hg3
    go_wp2
    go_ret
    exact ⟨s, rfl, by omega, HB3.out⟩
  · have hxb : ((x : Int) == 0) = false := beq_eq_false_iff_ne.2 hx0
    go_wp2_with fail
    refine (some_any HR2.out (by omega)).mono ?_
    rintro e w3 ⟨s, rfl, hs, hr3, hg3⟩
    have HR3 := Lib.hid hr3
    have HB3 := Lib.hid (HB2.out.trans (grown_below hg3 HB2.out.size (Nat.le_refl _)))
    clear hr3 hg3
    go_wp2_with fail
    refine (specCobs_any s _).mono ?_
    rintro e w4 ⟨rfl, hb4⟩
    have HR4 := Lib.hid (HR3.out.grow (below_grown hb4 none) (by simp) (by simp))
    have HB4 := Lib.hid (HB3.out.trans (hb4.mono HB3.out.size))
    clear hb4
    obtain ⟨T, hT⟩ : ∃ T : ByteArray, T = ⟨(cobA s.data.toList).toArray⟩ := ⟨_, rfl⟩
    have hTs : T.size ≤ 10000 := by
      rw [← size_list T, hT]
      have := cobA_le s.data.toList
      simpa using this
    rw [← hT]
    clear hT
    go_wp2_with fail
    refine (bent_any T HR4.out (by omega) (by omega)).mono ?_
    rintro e w6 ⟨u, rfl, hu, hr6, hg6⟩
    have HB6 := Lib.hid (HB4.out.trans (grown_below hg6 HB4.out.size (Nat.le_refl _)))
    clear hr6 hg6
    go_wp2
    go_ret
    exact ⟨u, rfl, by omega, HB6.out⟩
theorem drawLessGet_any {w : World} (a : Option Addr) (len cap : Nat) (zs : List Int) (h : IsRow .u8 w a len cap zs) :
    Calls Try.prog 22 #[.slice a len cap] w (TextDrawn w) := by
  have HH := Lib.hid h
  clear h
  go_enter Try.func22, Try.ntmps22
  go_wp2_with fail
  refine (open_any a len cap zs HH.out).mono ?_
  rintro e w1 ⟨rfl, hr1, hb1, _⟩
  have HR1 := Lib.hid hr1
  have HB1 := Lib.hid hb1
  clear hr1 hb1
  go_wp2_with fail
  refine (pick_any _ HR1.out (by omega)).mono ?_
  rintro e w2 ⟨⟨x, rfl, hx, _⟩, hr2, hg2⟩
  have HR2 := Lib.hid hr2
  have HB2 := Lib.hid (HB1.out.trans (grown_below hg2 HB1.out.size (Nat.le_refl _)))
  clear hr2 hg2 hx
  by_cases hx0 : x = 0
  · subst hx0
    go_wp2_with fail
    refine (some_any HR2.out (by omega)).mono ?_
    rintro e w3 ⟨s, rfl, hs, hr3, hg3⟩
    have HB3 := Lib.hid (HB2.out.trans (grown_below hg3 HB2.out.size (Nat.le_refl _)))
    clear hr3 hg3
    go_wp2
    go_ret
    exact ⟨s, rfl, by omega, HB3.out⟩
  · have hxb : ((x : Int) == 0) = false := beq_eq_false_iff_ne.2 hx0
    go_wp2_with fail
    refine (some_any HR2.out (by omega)).mono ?_
    rintro e w3 ⟨s, rfl, hs, hr3, hg3⟩
    have HR3 := Lib.hid hr3
    have HB3 := Lib.hid (HB2.out.trans (grown_below hg3 HB2.out.size (Nat.le_refl _)))
    clear hr3 hg3
    go_wp2_with fail
    refine (specLess_any s _).mono ?_
    rintro e w4 ⟨rfl, hb4⟩
    have HR4 := Lib.hid (HR3.out.grow (below_grown hb4 none) (by simp) (by simp))
    have HB4 := Lib.hid (HB3.out.trans (hb4.mono HB3.out.size))
    clear hb4
    obtain ⟨T, hT⟩ : ∃ T : ByteArray, T = ⟨(lessA s.data.toList).toArray⟩ := ⟨_, rfl⟩
    have hTs : T.size ≤ 10000 := by
      rw [← size_list T, hT]
      have := lessA_le s.data.toList
      simpa using this
    rw [← hT]
    clear hT
    go_wp2_with fail
    refine (bent_any T HR4.out (by omega) (by omega)).mono ?_
    rintro e w6 ⟨u, rfl, hu, hr6, hg6⟩
    have HB6 := Lib.hid (HB4.out.trans (grown_below hg6 HB4.out.size (Nat.le_refl _)))
    clear hr6 hg6
    go_wp2
    go_ret
    exact ⟨u, rfl, by omega, HB6.out⟩
end Go.Proofs.Ytiemoddaleemhaa
