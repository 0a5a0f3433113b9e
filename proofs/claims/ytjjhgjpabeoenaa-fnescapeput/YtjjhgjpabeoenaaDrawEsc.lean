/- Draws for the laws of escaping. -/
import Derived.Test.YtjjhgjpabeoenaaDrawOf
namespace Go.Proofs.Ytjjhgjpabeoenaa
open Go.ChangeShapes Go.WideShapes Go.ChangeAt Go.RowKit
set_option maxRecDepth 100000 in
theorem map_any {w : World} {B g N : Nat} (h : Rd w B g N) (hN : N ≤ 1000000000) :
    Calls Try.prog 19 #[.pointer (some ⟨g, 0, none⟩)] w fun e w' => ∃ x : Int, e = .returned (.int .i64 x) ∧ Rd w' B g (N + 1) ∧ w.grownBy w' (some g) := by
  have HR := Lib.hid h
  have hne : ¬ w.heap.size = g := by have := h.lt; omega
  clear h
  go_enter Try.func19, Try.ntmps19
  go_wp2_with (go_at_call 32; refine (one_any [0, 4294967295, 655360, 1, 131072, 4294967295, 0, -1, 4294967296] 3 (HR.out.alloc _) hN (by decide) (by decide) hne (list_row w _ _ _ rfl)).mono ?_; rintro e w1 ⟨x, hx, rfl, hr1, hg1⟩)
  go_ret
  exact ⟨x, rfl, hr1, grown_trans (World.grownBy_alloc w _ _) hg1⟩
theorem drawEscPut_any {w : World} (a : Option Addr) (len cap : Nat) (zs : List Int) (h : IsRow .u8 w a len cap zs) :
    Calls Try.prog 9 #[.slice a len cap] w fun e w' => ∃ (m : Int) (s : ByteArray), e = .returned (.tuple #[.int .i64 m, .string s]) ∧ s.size ≤ 780 ∧ Below w.heap.size w w' := by
  have HH := Lib.hid h
  clear h
  go_enter Try.func9, Try.ntmps9
  go_wp2_with fail
  refine (open_any a len cap zs HH.out).mono ?_
  rintro e w1 ⟨rfl, hr1, hb1, _⟩
  have HR1 := Lib.hid hr1
  have HB1 := Lib.hid hb1
  clear hr1 hb1
  go_wp2_with fail
  refine (map_any HR1.out (by omega)).mono ?_
  rintro e w2 ⟨m, rfl, hr2, hg2⟩
  have HR2 := Lib.hid hr2
  have HB2 := Lib.hid (HB1.out.trans (grown_below hg2 HB1.out.size (Nat.le_refl _)))
  clear hr2 hg2
  go_wp2_with fail
  refine (some_any HR2.out (by omega)).mono ?_
  rintro e w3 ⟨s, rfl, hs, hr3, hg3⟩
  have HB3 := Lib.hid (HB2.out.trans (grown_below hg3 HB2.out.size (Nat.le_refl _)))
  clear hr3 hg3
  go_wp2
  go_ret2
  exact ⟨m, s, rfl, hs, HB3.out⟩
theorem drawEscMany_any {w : World} (a : Option Addr) (len cap : Nat) (zs : List Int) (h : IsRow .u8 w a len cap zs) :
    Calls Try.prog 16 #[.slice a len cap] w fun e w' => ∃ (m : Int) (s : ByteArray), e = .returned (.tuple #[.int .i64 m, .string s]) ∧ s.size ≤ 780 ∧ Below w.heap.size w w' := by
  have HH := Lib.hid h
  clear h
  go_enter Try.func16, Try.ntmps16
  go_wp2_with fail
  refine (drawEscPut_any a len cap zs HH.out).mono ?_
  rintro e w3 ⟨m, s, rfl, hs, hb⟩
  have HB := Lib.hid hb
  clear hb
  go_wp2
  go_ret2
  exact ⟨m, s, rfl, hs, HB.out⟩
end Go.Proofs.Ytjjhgjpabeoenaa
