/- Draws for the laws of slips. -/
import Derived.Test.YthbijeicdjpbeaaDrawOf
import Derived.Test.YthbijeicdjpbeaaDrawD
import Derived.Test.YthbijeicdjpbeaaSlpB
namespace Go.Proofs.Ythbijeicdjpbeaa
open Go.ChangeShapes Go.WideShapes Go.ChangeAt Go.RowKit
theorem drawSlipPut_any {w : World} (a : Option Addr) (len cap : Nat) (zs : List Int) (h : IsRow .u8 w a len cap zs) :
    Calls Try.prog 11 #[.slice a len cap] w fun e w' => ∃ s : ByteArray, e = .returned (.string s) ∧ s.size ≤ 780 ∧ Below w.heap.size w w' := by
  have HH := Lib.hid h
  clear h
  go_enter Try.func11, Try.ntmps11
  go_wp2_with fail
  refine (open_any a len cap zs HH.out).mono ?_
  rintro e w1 ⟨rfl, hr1, hb1, _⟩
  have HR1 := Lib.hid hr1
  have HB1 := Lib.hid hb1
  clear hr1 hb1
  go_wp2_with fail
  refine (some_any HR1.out (by omega)).mono ?_
  rintro e w3 ⟨s, rfl, hs, hr3, hg3⟩
  have HB3 := Lib.hid (HB1.out.trans (grown_below hg3 HB1.out.size (Nat.le_refl _)))
  clear hr3 hg3
  go_wp2
  go_ret
  exact ⟨s, rfl, hs, HB3.out⟩
theorem drawSlipGet_any {w : World} (a : Option Addr) (len cap : Nat) (zs : List Int) (h : IsRow .u8 w a len cap zs) :
    Calls Try.prog 15 #[.slice a len cap] w fun e w' => ∃ s : ByteArray, e = .returned (.string s) ∧ s.size ≤ 1202 ∧ Below w.heap.size w w' := by
  have HH := Lib.hid h
  clear h
  go_enter Try.func15, Try.ntmps15
  go_wp2_with fail
  refine (open_any a len cap zs HH.out).mono ?_
  rintro e w1 ⟨rfl, hr1, hb1, _⟩
  have HR1 := Lib.hid hr1
  have HB1 := Lib.hid hb1
  clear hr1 hb1
  go_wp2_with fail
  refine (bytes_any 20 HR1.out (by omega) (by omega)).mono ?_
  rintro e w2 ⟨s0, rfl, hs0, hr2, hg2⟩
  have HR2 := Lib.hid hr2
  have HB2 := Lib.hid (HB1.out.trans (grown_below hg2 HB1.out.size (Nat.le_refl _)))
  clear hr2 hg2
  go_wp2_with fail
  refine (specSlipPut_any s0 _).mono ?_
  rintro e w3 ⟨rfl, hb3⟩
  have HR3 := Lib.hid (HR2.out.grow (below_grown hb3 none) (by simp) (by simp))
  have HB3 := Lib.hid (HB2.out.trans (hb3.mono HB2.out.size))
  clear hb3
  have hsz := putS_len s0.data.toList
  obtain ⟨s, hs⟩ : ∃ s : ByteArray, s = ⟨(putS s0.data.toList).toArray⟩ := ⟨_, rfl⟩
  have hss : s.size ≤ 1201 := by rw [← size_list s, hs]; exact hsz
  rw [← hs]
  clear hs hsz
  go_wp2_with fail
  refine (bent_any s HR3.out (by omega) (by omega)).mono ?_
  rintro e w6 ⟨u, rfl, hu, hr6, hg6⟩
  have HB6 := Lib.hid (HB3.out.trans (grown_below hg6 HB3.out.size (Nat.le_refl _)))
  clear hr6 hg6
  go_wp2
  go_ret
  exact ⟨u, rfl, by omega, HB6.out⟩
end Go.Proofs.Ythbijeicdjpbeaa
