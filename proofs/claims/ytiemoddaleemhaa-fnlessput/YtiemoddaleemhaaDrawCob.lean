/- Draws for the laws of blocks: what is written. -/
import Derived.Test.YtiemoddaleemhaaDrawOf
namespace Go.Proofs.Ytiemoddaleemhaa
open Go.ChangeShapes Go.WideShapes Go.ChangeAt Go.RowKit
theorem drawCobsPut_any {w : World} (a : Option Addr) (len cap : Nat) (zs : List Int) (h : IsRow .u8 w a len cap zs) :
    Calls Try.prog 12 #[.slice a len cap] w fun e w' => ∃ s : ByteArray, e = .returned (.string s) ∧ s.size ≤ 780 ∧ Below w.heap.size w w' := by
  have HH := Lib.hid h
  clear h
  go_enter Try.func12, Try.ntmps12
  go_wp2_with fail
  refine (open_any a len cap zs HH.out).mono ?_
  rintro e w1 ⟨rfl, hr1, hb1, _⟩
  have HR1 := Lib.hid hr1
  have HB1 := Lib.hid hb1
  clear hr1 hb1
  go_wp2_with fail
  refine (some_any HR1.out (by omega)).mono ?_
  rintro e w3 ⟨s, rfl, hs, hr3, hg3⟩
  have HB3 := Lib.hid (HB1.out.trans (grown_below hg3 HB1.out.size (Nat.le_refl _)))
  clear hr3 hg3
  go_wp2
  go_ret
  exact ⟨s, rfl, hs, HB3.out⟩
theorem drawLessPut_any {w : World} (a : Option Addr) (len cap : Nat) (zs : List Int) (h : IsRow .u8 w a len cap zs) :
    Calls Try.prog 18 #[.slice a len cap] w fun e w' => ∃ s : ByteArray, e = .returned (.string s) ∧ s.size ≤ 780 ∧ Below w.heap.size w w' := by
  have HH := Lib.hid h
  clear h
  go_enter Try.func18, Try.ntmps18
  go_wp2_with fail
  refine (open_any a len cap zs HH.out).mono ?_
  rintro e w1 ⟨rfl, hr1, hb1, _⟩
  have HR1 := Lib.hid hr1
  have HB1 := Lib.hid hb1
  clear hr1 hb1
  go_wp2_with fail
  refine (some_any HR1.out (by omega)).mono ?_
  rintro e w3 ⟨s, rfl, hs, hr3, hg3⟩
  have HB3 := Lib.hid (HB1.out.trans (grown_below hg3 HB1.out.size (Nat.le_refl _)))
  clear hr3 hg3
  go_wp2
  go_ret
  exact ⟨s, rfl, hs, HB3.out⟩
end Go.Proofs.Ytiemoddaleemhaa
