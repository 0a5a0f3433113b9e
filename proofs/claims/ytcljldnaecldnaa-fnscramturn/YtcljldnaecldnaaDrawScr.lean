/- Draws for the laws of the scrambler. -/
import Derived.Test.YtcljldnaecldnaaScrC
import Derived.Test.YtcljldnaecldnaaKitDraw
namespace Go.Proofs.Ytcljldnaecldnaa
open Go.ChangeShapes Go.WideShapes Go.ChangeAt Go.RowKit
theorem state_any {w : World} {B g N : Nat} (h : Rd w B g N) (hN : N + 4 ≤ 1000000000) :
    Calls Try.prog 22 #[.pointer (some ⟨g, 0, none⟩)] w fun e w' => ∃ x : Int, e = .returned (.int .i64 x) ∧ (-1 ≤ x ∧ x ≤ 128) ∧ Rd w' B g (N + 4) ∧ w.grownBy w' (some g) := by
  have HR := Lib.hid h
  have hgl := h.lt
  clear h
  go_enter Try.func22, Try.ntmps22
  go_wp2_with fail
  refine (pick_any _ HR.out (by omega)).mono ?_
  rintro e w1 ⟨⟨x, rfl, hx, _⟩, hr1, hg1⟩
  have HR1 := Lib.hid hr1
  have HG1 := Lib.hid hg1
  have Hx := Lib.hid (hx (by omega))
  have hsz1 : w.heap.size ≤ w1.heap.size := HG1.out.size
  clear hr1 hg1 hx
  go_wp2_with fail
  refine (pick_any _ HR1.out (by omega)).mono ?_
  rintro e w2 ⟨⟨y, rfl, hy, _⟩, hr2, hg2⟩
  have HR2 := Lib.hid hr2
  have HG2 := Lib.hid (grown_trans HG1.out hg2)
  have Hy := Lib.hid (hy (by omega))
  have hsz2 : w.heap.size ≤ w2.heap.size := HG2.out.size
  clear hr2 hg2 hy
  go_wp2_with fail
  refine (pick_any _ HR2.out (by omega)).mono ?_
  rintro e w3 ⟨⟨z, rfl, hz, _⟩, hr3, hg3⟩
  have HR3 := Lib.hid hr3
  have HG3 := Lib.hid (grown_trans HG2.out hg3)
  have Hz := Lib.hid (hz (by omega))
  have hsz3 : w.heap.size ≤ w3.heap.size := HG3.out.size
  clear hr3 hg3 hz
  go_wp2_with fail
  refine (one_any [0, 1, 127, 64, x, y, z, -1, 128] 3 (HR3.out.alloc _) (by omega) (by simp) (by simp) (by omega) (list_row w3 _ _ _ rfl)).mono ?_
  rintro e w4 ⟨q, hq, rfl, hr4, hg4⟩
  have HQ := Lib.hid (show -1 ≤ q ∧ q ≤ 128 by
    have h1 := Hx.out; have h2 := Hy.out; have h3 := Hz.out
    simp at hq; omega)
  have HR4 := Lib.hid hr4
  have HG4 := Lib.hid (grown_trans (grown_alloc HG3.out _) hg4)
  clear hr4 hg4 hq
  go_wp2
  go_ret
  exact ⟨q, rfl, HQ.out, HR4.out, HG4.out⟩
theorem drawScPut_any {w : World} (a : Option Addr) (len cap : Nat) (zs : List Int) (h : IsRow .u8 w a len cap zs) :
    Calls Try.prog 10 #[.slice a len cap] w fun e w' => ∃ (x : Int) (s : ByteArray), e = .returned (.tuple #[.int .i64 x, .string s]) ∧ (-1 ≤ x ∧ x ≤ 128) ∧ s.size ≤ 1205 ∧ Below w.heap.size w w' := by
  have HH := Lib.hid h
  clear h
  go_enter Try.func10, Try.ntmps10
  go_wp2_with fail
  refine (open_any a len cap zs HH.out).mono ?_
  rintro e w1 ⟨rfl, hr1, hb1, _⟩
  have HR1 := Lib.hid hr1
  have HB1 := Lib.hid hb1
  clear hr1 hb1
  go_wp2_with fail
  refine (state_any HR1.out (by omega)).mono ?_
  rintro e w2 ⟨x, rfl, hx, hr2, hg2⟩
  have HX := Lib.hid hx
  have HR2 := Lib.hid hr2
  have HB2 := Lib.hid (HB1.out.trans (grown_below hg2 HB1.out.size (Nat.le_refl _)))
  have HS2 := Lib.hid (show w.heap.size < w2.heap.size from hr2.lt)
  clear hr2 hg2 hx
  go_wp2_with fail
  refine (anyBits_any HR2.out (by omega)).mono ?_
  rintro e w3 ⟨s, rfl, hs, hr3, hg3⟩
  have HB3 := Lib.hid (HB2.out.trans (grown_below hg3 HB2.out.size (Nat.le_refl _)))
  clear hr3 hg3
  go_wp2
  go_ret2
  exact ⟨x, s, rfl, HX.out, hs, HB3.out⟩
theorem drawScGet_any {w : World} (a : Option Addr) (len cap : Nat) (zs : List Int) (h : IsRow .u8 w a len cap zs) :
    Calls Try.prog 14 #[.slice a len cap] w fun e w' => ∃ (x : Int) (s : ByteArray), e = .returned (.tuple #[.int .i64 x, .string s]) ∧ (-1 ≤ x ∧ x ≤ 128) ∧ s.size ≤ 1205 ∧ Below w.heap.size w w' := by
  have HH := Lib.hid h
  clear h
  go_enter Try.func14, Try.ntmps14
  go_wp2_with fail
  refine (drawScPut_any a len cap zs HH.out).mono ?_
  rintro e w1 ⟨x, s, rfl, hx, hs, hb⟩
  have HB := Lib.hid hb
  clear hb
  go_wp2
  go_ret2
  exact ⟨x, s, rfl, hx, hs, HB.out⟩
theorem drawScOnes_any {w : World} (a : Option Addr) (len cap : Nat) (zs : List Int) (h : IsRow .u8 w a len cap zs) :
    Calls Try.prog 18 #[.slice a len cap] w fun e w' => ∃ (x n : Int), e = .returned (.tuple #[.int .i64 x, .int .i64 n]) ∧ (-1 ≤ x ∧ x ≤ 128) ∧ (-1 ≤ n ∧ n ≤ 1300) ∧ Below w.heap.size w w' := by
  have HH := Lib.hid h
  clear h
  go_enter Try.func18, Try.ntmps18
  go_wp2_with fail
  refine (open_any a len cap zs HH.out).mono ?_
  rintro e w1 ⟨rfl, hr1, hb1, _⟩
  have HR1 := Lib.hid hr1
  have HB1 := Lib.hid hb1
  clear hr1 hb1
  go_wp2_with fail
  refine (state_any HR1.out (by omega)).mono ?_
  rintro e w2 ⟨x, rfl, hx, hr2, hg2⟩
  have HX := Lib.hid hx
  have HR2 := Lib.hid hr2
  have HB2 := Lib.hid (HB1.out.trans (grown_below hg2 HB1.out.size (Nat.le_refl _)))
  have HS2 := Lib.hid (show w.heap.size < w2.heap.size from hr2.lt)
  clear hr2 hg2 hx
  go_wp2_with fail
  refine (one_any [0, 7, 127, 254, 260, -1, 1201] 3 (HR2.out.alloc _) (by omega) (by simp) (by simp) (by have := HS2.out; omega) (list_row w2 _ _ _ rfl)).mono ?_
  rintro e w3 ⟨q, hq, rfl, hr3, hg3⟩
  have HQ := Lib.hid (show -1 ≤ q ∧ q ≤ 1300 by simp at hq; omega)
  have HB3 := Lib.hid ((HB2.out.alloc HB2.out.size _).trans (grown_below hg3 (by have := HS2.out; simp; omega) (Nat.le_refl _)))
  clear hr3 hg3 hq
  go_wp2
  go_ret2
  exact ⟨x, q, rfl, HX.out, HQ.out, HB3.out⟩
end Go.Proofs.Ytcljldnaecldnaa
