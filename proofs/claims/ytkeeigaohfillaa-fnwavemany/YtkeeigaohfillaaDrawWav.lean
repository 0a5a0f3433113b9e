/- Draws for the laws of line codes. -/
import Derived.Test.YtkeeigaohfillaaWavD
import Derived.Test.YtkeeigaohfillaaKitDraw
namespace Go.Proofs.Ytkeeigaohfillaa
open Go.ChangeShapes Go.WideShapes Go.ChangeAt Go.RowKit
theorem drawManPut_any {w : World} (a : Option Addr) (len cap : Nat) (zs : List Int) (h : IsRow .u8 w a len cap zs) :
    Calls Try.prog 13 #[.slice a len cap] w fun e w' => ∃ s : ByteArray, e = .returned (.string s) ∧ s.size ≤ 1205 ∧ Below w.heap.size w w' := by
  have HH := Lib.hid h
  clear h
  go_enter Try.func13, Try.ntmps13
  go_wp2_with fail
  refine (open_any a len cap zs HH.out).mono ?_
  rintro e w1 ⟨rfl, hr1, hb1, _⟩
  have HR1 := Lib.hid hr1
  have HB1 := Lib.hid hb1
  clear hr1 hb1
  go_wp2_with fail
  refine (anyBits_any HR1.out (by omega)).mono ?_
  rintro e w2 ⟨s, rfl, hs, hr2, hg2⟩
  have HB2 := Lib.hid (HB1.out.trans (grown_below hg2 HB1.out.size (Nat.le_refl _)))
  clear hr2 hg2
  go_wp2
  go_ret
  exact ⟨s, rfl, hs, HB2.out⟩
theorem drawWaveMany_any {w : World} (a : Option Addr) (len cap : Nat) (zs : List Int) (h : IsRow .u8 w a len cap zs) :
    Calls Try.prog 29 #[.slice a len cap] w fun e w' => ∃ s : ByteArray, e = .returned (.string s) ∧ s.size ≤ 1205 ∧ Below w.heap.size w w' := by
  have HH := Lib.hid h
  clear h
  go_enter Try.func29, Try.ntmps29
  go_wp2_with fail
  refine (open_any a len cap zs HH.out).mono ?_
  rintro e w1 ⟨rfl, hr1, hb1, _⟩
  have HR1 := Lib.hid hr1
  have HB1 := Lib.hid hb1
  clear hr1 hb1
  go_wp2_with fail
  refine (anyBits_any HR1.out (by omega)).mono ?_
  rintro e w2 ⟨s, rfl, hs, hr2, hg2⟩
  have HB2 := Lib.hid (HB1.out.trans (grown_below hg2 HB1.out.size (Nat.le_refl _)))
  clear hr2 hg2
  go_wp2
  go_ret
  exact ⟨s, rfl, hs, HB2.out⟩
theorem putM_size (s : ByteArray) : (⟨(putM s.data.toList).toArray⟩ : ByteArray).size ≤ 1200 := by
  rw [← size_list]
  simp only
  cases hk : manOkB s.data.toList with
  | false => rw [putM_no hk]; simp
  | true => rw [putM_yes hk, manL_len, size_list]; have := (manOk_parts hk).2; omega
theorem drawManGet_any {w : World} (a : Option Addr) (len cap : Nat) (zs : List Int) (h : IsRow .u8 w a len cap zs) :
    Calls Try.prog 19 #[.slice a len cap] w fun e w' => ∃ s : ByteArray, e = .returned (.string s) ∧ s.size ≤ 1205 ∧ Below w.heap.size w w' := by
  have HH := Lib.hid h
  clear h
  go_enter Try.func19, Try.ntmps19
  go_wp2_with fail
  refine (open_any a len cap zs HH.out).mono ?_
  rintro e w1 ⟨rfl, hr1, hb1, _⟩
  have HR1 := Lib.hid hr1
  have HB1 := Lib.hid hb1
  clear hr1 hb1
  go_wp2_with fail
  refine (pick_any 3 HR1.out (by omega)).mono ?_
  rintro e w2 ⟨⟨x, rfl, _, _⟩, hr2, hg2⟩
  have HR2 := Lib.hid hr2
  have HB2 := Lib.hid (HB1.out.trans (grown_below hg2 HB1.out.size (Nat.le_refl _)))
  clear hr2 hg2
  by_cases hx : x = 0
  · subst hx
    go_wp2_with fail
    refine (anyBits_any HR2.out (by omega)).mono ?_
    rintro e w3 ⟨s, rfl, hs, hr3, hg3⟩
    have HB3 := Lib.hid (HB2.out.trans (grown_below hg3 HB2.out.size (Nat.le_refl _)))
    clear hr3 hg3
    go_wp2
    go_ret
    exact ⟨s, rfl, hs, HB3.out⟩
  · have hxb : (x == 0) = false := beq_eq_false_iff_ne.2 hx
    clear hx
    go_wp2_with fail
    refine (bits_any 30 HR2.out (by omega) (by omega)).mono ?_
    rintro e w3 ⟨s, rfl, hs, _, hr3, hg3⟩
    have HB3 := Lib.hid (HB2.out.trans (grown_below hg3 HB2.out.size (Nat.le_refl _)))
    clear hr3 hg3
    go_wp2_with fail
    refine (specMan_any s _ (by unfold maxLen; omega)).mono ?_
    rintro e w4 ⟨rfl, hb4⟩
    have HB4 := Lib.hid (HB3.out.trans (hb4.mono HB3.out.size))
    clear hb4
    have hps := putM_size s
    go_wp2
    go_ret
    exact ⟨_, rfl, by omega, HB4.out⟩
theorem drawEdgePut_any {w : World} (a : Option Addr) (len cap : Nat) (zs : List Int) (h : IsRow .u8 w a len cap zs) :
    Calls Try.prog 21 #[.slice a len cap] w fun e w' => ∃ (b : Bool) (s : ByteArray), e = .returned (.tuple #[.bool b, .string s]) ∧ s.size ≤ 1205 ∧ Below w.heap.size w w' := by
  have HH := Lib.hid h
  clear h
  go_enter Try.func21, Try.ntmps21
  go_wp2_with fail
  refine (open_any a len cap zs HH.out).mono ?_
  rintro e w1 ⟨rfl, hr1, hb1, _⟩
  have HR1 := Lib.hid hr1
  have HB1 := Lib.hid hb1
  clear hr1 hb1
  go_wp2_with fail
  refine (pick_any 2 HR1.out (by omega)).mono ?_
  rintro e w2 ⟨⟨x, rfl, _, _⟩, hr2, hg2⟩
  have HR2 := Lib.hid hr2
  have HB2 := Lib.hid (HB1.out.trans (grown_below hg2 HB1.out.size (Nat.le_refl _)))
  clear hr2 hg2
  go_wp2_with fail
  refine (anyBits_any HR2.out (by omega)).mono ?_
  rintro e w3 ⟨s, rfl, hs, hr3, hg3⟩
  have HB3 := Lib.hid (HB2.out.trans (grown_below hg3 HB2.out.size (Nat.le_refl _)))
  clear hr3 hg3
  go_wp2
  go_ret2
  exact ⟨_, s, rfl, hs, HB3.out⟩
theorem drawEdgeGet_any {w : World} (a : Option Addr) (len cap : Nat) (zs : List Int) (h : IsRow .u8 w a len cap zs) :
    Calls Try.prog 27 #[.slice a len cap] w fun e w' => ∃ (b : Bool) (s : ByteArray), e = .returned (.tuple #[.bool b, .string s]) ∧ s.size ≤ 1205 ∧ Below w.heap.size w w' := by
  have HH := Lib.hid h
  clear h
  go_enter Try.func27, Try.ntmps27
  go_wp2_with fail
  refine (drawEdgePut_any a len cap zs HH.out).mono ?_
  rintro e w1 ⟨b, s, rfl, hs, hb1⟩
  have HB1 := Lib.hid hb1
  clear hb1
  go_wp2
  go_ret2
  exact ⟨b, s, rfl, hs, HB1.out⟩
end Go.Proofs.Ytkeeigaohfillaa
