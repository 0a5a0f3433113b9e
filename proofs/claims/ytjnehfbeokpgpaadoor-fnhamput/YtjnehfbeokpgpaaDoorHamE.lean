/- A group of bits: mended, its bits, its data, in the program. -/
import Derived.Test.YtjnehfbeokpgpaaDoorHamD
namespace Go.Proofs.YtjnehfbeokpgpaaDoor
open Go.ChangeShapes Go.WideShapes Go.ChangeAt Go.RowKit
theorem synN_lt8 (x0 x1 x2 x3 x4 x5 x6 x7 : Bool) : synN [x0, x1, x2, x3, x4, x5, x6, x7] < 8 := synN_lt x0 x1 x2 x3 x4 x5 x6 x7 8 (by omega)
set_option maxRecDepth 100000 in
set_option maxHeartbeats 8000000 in
theorem mended_no (x0 x1 x2 x3 x4 x5 x6 x7 : Bool) (w : World) (h0 : synN [x0, x1, x2, x3, x4, x5, x6, x7] = 0) :
    Calls Tryd.prog 25 #[.agg (g8 x0 x1 x2 x3 x4 x5 x6 x7)] w fun e w' => e = .returned (.tuple #[.agg (g8 x0 x1 x2 x3 x4 x5 x6 x7), .bool false]) ∧ Below w.heap.size w w' := by
  have H0 := Lib.hid h0
  have hk1 := BK.new w (g8 x0 x1 x2 x3 x4 x5 x6 x7) 38
  have hk := hk1.alloc (.cells (g8 false false false false false false false false) 38)
  have hz := BK.new (w.alloc (.cells (g8 x0 x1 x2 x3 x4 x5 x6 x7) 38)) (g8 false false false false false false false false) 38
  rw [World.size_alloc] at hz
  have c0 := hk.cell (i := 0) rfl
  have c1 := hk.cell (i := 1) rfl
  have c2 := hk.cell (i := 2) rfl
  have c3 := hk.cell (i := 3) rfl
  have c4 := hk.cell (i := 4) rfl
  have c5 := hk.cell (i := 5) rfl
  have c6 := hk.cell (i := 6) rfl
  have c7 := hk.cell (i := 7) rfl
  have HK := Lib.hid hk
  have HZ := Lib.hid hz
  clear hk1 hk hz h0
  go_enter Tryd.func25, Tryd.ntmps25
  go_wp2_with fail
  refine (syndrome_any x0 x1 x2 x3 x4 x5 x6 x7 _).mono ?_
  rintro e w1 ⟨rfl, hb1⟩
  rw [H0.out]
  clear c0 c1 c2 c3 c4 c5 c6 c7
  have hk := HK.out.from hb1
  have hz := HZ.out.from hb1
  have HB := Lib.hid ((((Below.refl _ w).alloc (Nat.le_refl _) _).alloc (by simp) _).trans (hb1.mono (by simp; omega)))
  have c0 := hk.cell (i := 0) rfl
  have c1 := hk.cell (i := 1) rfl
  have c2 := hk.cell (i := 2) rfl
  have c3 := hk.cell (i := 3) rfl
  have c4 := hk.cell (i := 4) rfl
  have c5 := hk.cell (i := 5) rfl
  have c6 := hk.cell (i := 6) rfl
  have c7 := hk.cell (i := 7) rfl
  have f0 := hz.free 0
  have f1 := hz.free 1
  have f2 := hz.free 2
  have f3 := hz.free 3
  have f4 := hz.free 4
  have f5 := hz.free 5
  have f6 := hz.free 6
  have f7 := hz.free 7
  have z0 := hz.cell (i := 0) rfl
  have z1 := hz.cell (i := 1) rfl
  have z2 := hz.cell (i := 2) rfl
  have z3 := hz.cell (i := 3) rfl
  have z4 := hz.cell (i := 4) rfl
  have z5 := hz.cell (i := 5) rfl
  have z6 := hz.cell (i := 6) rfl
  have z7 := hz.cell (i := 7) rfl
  have hre := group_ret w1 (w.heap.size + 1) x0 x1 x2 x3 x4 x5 x6 x7 hz
  have r0 := hre.cell (i := 0) rfl
  have r1 := hre.cell (i := 1) rfl
  have r2 := hre.cell (i := 2) rfl
  have r3 := hre.cell (i := 3) rfl
  have r4 := hre.cell (i := 4) rfl
  have r5 := hre.cell (i := 5) rfl
  have r6 := hre.cell (i := 6) rfl
  have r7 := hre.cell (i := 7) rfl
  clear hre hk hz hb1
  go_wp2
  exact bodyPost_ret (v := .tuple #[.agg (g8 x0 x1 x2 x3 x4 x5 x6 x7), .bool false]) (by simp [results, Tryd.results25, go_sem, r0, r1, r2, r3, r4, r5, r6, r7]) rfl ⟨rfl, (((((((HB.out.setCell (p := ⟨w.heap.size + 1, 0, none⟩) (by simp) _).setCell (p := ⟨w.heap.size + 1, 1, none⟩) (by simp) _).setCell (p := ⟨w.heap.size + 1, 2, none⟩) (by simp) _).setCell (p := ⟨w.heap.size + 1, 3, none⟩) (by simp) _).setCell (p := ⟨w.heap.size + 1, 4, none⟩) (by simp) _).setCell (p := ⟨w.heap.size + 1, 5, none⟩) (by simp) _).setCell (p := ⟨w.heap.size + 1, 6, none⟩) (by simp) _).setCell (p := ⟨w.heap.size + 1, 7, none⟩) (by simp) _⟩
def flipAt (l : List Bool) (k : Nat) : List Bool := l.set k (!(l.getD k false))
def gOf (l : List Bool) : Array Value := (l.map Value.bool).toArray
set_option maxRecDepth 100000 in
set_option maxHeartbeats 16000000 in
theorem mended_yes (x0 x1 x2 x3 x4 x5 x6 x7 : Bool) (k : Nat) (w : World) (h0 : synN [x0, x1, x2, x3, x4, x5, x6, x7] = k) (hk0 : 0 < k) (hk8 : k < 8) :
    Calls Tryd.prog 25 #[.agg (g8 x0 x1 x2 x3 x4 x5 x6 x7)] w fun e w' => e = .returned (.tuple #[.agg (gOf (flipAt [x0, x1, x2, x3, x4, x5, x6, x7] k)), .bool true]) ∧ Below w.heap.size w w' := by
  have H0 := Lib.hid h0
  have hk1 := BK.new w (g8 x0 x1 x2 x3 x4 x5 x6 x7) 38
  have hk := hk1.alloc (.cells (g8 false false false false false false false false) 38)
  have hz := BK.new (w.alloc (.cells (g8 x0 x1 x2 x3 x4 x5 x6 x7) 38)) (g8 false false false false false false false false) 38
  rw [World.size_alloc] at hz
  have c0 := hk.cell (i := 0) rfl
  have c1 := hk.cell (i := 1) rfl
  have c2 := hk.cell (i := 2) rfl
  have c3 := hk.cell (i := 3) rfl
  have c4 := hk.cell (i := 4) rfl
  have c5 := hk.cell (i := 5) rfl
  have c6 := hk.cell (i := 6) rfl
  have c7 := hk.cell (i := 7) rfl
  have HK := Lib.hid hk
  have HZ := Lib.hid hz
  clear hk1 hk hz h0
  go_enter Tryd.func25, Tryd.ntmps25
  go_wp2_with fail
  refine (syndrome_any x0 x1 x2 x3 x4 x5 x6 x7 _).mono ?_
  rintro e w1 ⟨rfl, hb1⟩
  rw [H0.out]
  clear c0 c1 c2 c3 c4 c5 c6 c7 H0
  have hk := HK.out.from hb1
  have hz := HZ.out.from hb1
  have HB := Lib.hid ((((Below.refl _ w).alloc (Nat.le_refl _) _).alloc (by simp) _).trans (hb1.mono (by simp; omega)))
  clear hb1
  rcases (show k = 1 ∨ k = 2 ∨ k = 3 ∨ k = 4 ∨ k = 5 ∨ k = 6 ∨ k = 7 by omega) with rfl | rfl | rfl | rfl | rfl | rfl | rfl
  · have b0 := hk.cell (i := 1) rfl
    have g0 := hk.free 1
    have hk2 : BK (w1.setCell ⟨w.heap.size, 1, none⟩ (.bool (!x1))) w.heap.size (g8 x0 (!x1) x2 x3 x4 x5 x6 x7) 38 := hk.set 1 (.bool (!x1))
    have hz2 := hz.far (j := w.heap.size) (o := 1) (by omega) (.bool (!x1))
    have c0 := hk2.cell (i := 0) rfl
    have c1 := hk2.cell (i := 1) rfl
    have c2 := hk2.cell (i := 2) rfl
    have c3 := hk2.cell (i := 3) rfl
    have c4 := hk2.cell (i := 4) rfl
    have c5 := hk2.cell (i := 5) rfl
    have c6 := hk2.cell (i := 6) rfl
    have c7 := hk2.cell (i := 7) rfl
    have f0 := hz2.free 0
    have f1 := hz2.free 1
    have f2 := hz2.free 2
    have f3 := hz2.free 3
    have f4 := hz2.free 4
    have f5 := hz2.free 5
    have f6 := hz2.free 6
    have f7 := hz2.free 7
    have z0 := hz2.cell (i := 0) rfl
    have z1 := hz2.cell (i := 1) rfl
    have z2 := hz2.cell (i := 2) rfl
    have z3 := hz2.cell (i := 3) rfl
    have z4 := hz2.cell (i := 4) rfl
    have z5 := hz2.cell (i := 5) rfl
    have z6 := hz2.cell (i := 6) rfl
    have z7 := hz2.cell (i := 7) rfl
    have hre := group_ret _ (w.heap.size + 1) x0 (!x1) x2 x3 x4 x5 x6 x7 hz2
    have r0 := hre.cell (i := 0) rfl
    have r1 := hre.cell (i := 1) rfl
    have r2 := hre.cell (i := 2) rfl
    have r3 := hre.cell (i := 3) rfl
    have r4 := hre.cell (i := 4) rfl
    have r5 := hre.cell (i := 5) rfl
    have r6 := hre.cell (i := 6) rfl
    have r7 := hre.cell (i := 7) rfl
    clear hre hk hz hk2 hz2
    go_wp2
    exact bodyPost_ret (v := .tuple #[.agg (g8 x0 (!x1) x2 x3 x4 x5 x6 x7), .bool true]) (by simp [results, Tryd.results25, go_sem, r0, r1, r2, r3, r4, r5, r6, r7]) rfl ⟨rfl, ((((((((HB.out.setCell (p := ⟨w.heap.size, 1, none⟩) (Nat.le_refl _) _).setCell (p := ⟨w.heap.size + 1, 0, none⟩) (by simp) _).setCell (p := ⟨w.heap.size + 1, 1, none⟩) (by simp) _).setCell (p := ⟨w.heap.size + 1, 2, none⟩) (by simp) _).setCell (p := ⟨w.heap.size + 1, 3, none⟩) (by simp) _).setCell (p := ⟨w.heap.size + 1, 4, none⟩) (by simp) _).setCell (p := ⟨w.heap.size + 1, 5, none⟩) (by simp) _).setCell (p := ⟨w.heap.size + 1, 6, none⟩) (by simp) _).setCell (p := ⟨w.heap.size + 1, 7, none⟩) (by simp) _⟩
  · have b0 := hk.cell (i := 2) rfl
    have g0 := hk.free 2
    have hk2 : BK (w1.setCell ⟨w.heap.size, 2, none⟩ (.bool (!x2))) w.heap.size (g8 x0 x1 (!x2) x3 x4 x5 x6 x7) 38 := hk.set 2 (.bool (!x2))
    have hz2 := hz.far (j := w.heap.size) (o := 2) (by omega) (.bool (!x2))
    have c0 := hk2.cell (i := 0) rfl
    have c1 := hk2.cell (i := 1) rfl
    have c2 := hk2.cell (i := 2) rfl
    have c3 := hk2.cell (i := 3) rfl
    have c4 := hk2.cell (i := 4) rfl
    have c5 := hk2.cell (i := 5) rfl
    have c6 := hk2.cell (i := 6) rfl
    have c7 := hk2.cell (i := 7) rfl
    have f0 := hz2.free 0
    have f1 := hz2.free 1
    have f2 := hz2.free 2
    have f3 := hz2.free 3
    have f4 := hz2.free 4
    have f5 := hz2.free 5
    have f6 := hz2.free 6
    have f7 := hz2.free 7
    have z0 := hz2.cell (i := 0) rfl
    have z1 := hz2.cell (i := 1) rfl
    have z2 := hz2.cell (i := 2) rfl
    have z3 := hz2.cell (i := 3) rfl
    have z4 := hz2.cell (i := 4) rfl
    have z5 := hz2.cell (i := 5) rfl
    have z6 := hz2.cell (i := 6) rfl
    have z7 := hz2.cell (i := 7) rfl
    have hre := group_ret _ (w.heap.size + 1) x0 x1 (!x2) x3 x4 x5 x6 x7 hz2
    have r0 := hre.cell (i := 0) rfl
    have r1 := hre.cell (i := 1) rfl
    have r2 := hre.cell (i := 2) rfl
    have r3 := hre.cell (i := 3) rfl
    have r4 := hre.cell (i := 4) rfl
    have r5 := hre.cell (i := 5) rfl
    have r6 := hre.cell (i := 6) rfl
    have r7 := hre.cell (i := 7) rfl
    clear hre hk hz hk2 hz2
    go_wp2
    exact bodyPost_ret (v := .tuple #[.agg (g8 x0 x1 (!x2) x3 x4 x5 x6 x7), .bool true]) (by simp [results, Tryd.results25, go_sem, r0, r1, r2, r3, r4, r5, r6, r7]) rfl ⟨rfl, ((((((((HB.out.setCell (p := ⟨w.heap.size, 2, none⟩) (Nat.le_refl _) _).setCell (p := ⟨w.heap.size + 1, 0, none⟩) (by simp) _).setCell (p := ⟨w.heap.size + 1, 1, none⟩) (by simp) _).setCell (p := ⟨w.heap.size + 1, 2, none⟩) (by simp) _).setCell (p := ⟨w.heap.size + 1, 3, none⟩) (by simp) _).setCell (p := ⟨w.heap.size + 1, 4, none⟩) (by simp) _).setCell (p := ⟨w.heap.size + 1, 5, none⟩) (by simp) _).setCell (p := ⟨w.heap.size + 1, 6, none⟩) (by simp) _).setCell (p := ⟨w.heap.size + 1, 7, none⟩) (by simp) _⟩
  · have b0 := hk.cell (i := 3) rfl
    have g0 := hk.free 3
    have hk2 : BK (w1.setCell ⟨w.heap.size, 3, none⟩ (.bool (!x3))) w.heap.size (g8 x0 x1 x2 (!x3) x4 x5 x6 x7) 38 := hk.set 3 (.bool (!x3))
    have hz2 := hz.far (j := w.heap.size) (o := 3) (by omega) (.bool (!x3))
    have c0 := hk2.cell (i := 0) rfl
    have c1 := hk2.cell (i := 1) rfl
    have c2 := hk2.cell (i := 2) rfl
    have c3 := hk2.cell (i := 3) rfl
    have c4 := hk2.cell (i := 4) rfl
    have c5 := hk2.cell (i := 5) rfl
    have c6 := hk2.cell (i := 6) rfl
    have c7 := hk2.cell (i := 7) rfl
    have f0 := hz2.free 0
    have f1 := hz2.free 1
    have f2 := hz2.free 2
    have f3 := hz2.free 3
    have f4 := hz2.free 4
    have f5 := hz2.free 5
    have f6 := hz2.free 6
    have f7 := hz2.free 7
    have z0 := hz2.cell (i := 0) rfl
    have z1 := hz2.cell (i := 1) rfl
    have z2 := hz2.cell (i := 2) rfl
    have z3 := hz2.cell (i := 3) rfl
    have z4 := hz2.cell (i := 4) rfl
    have z5 := hz2.cell (i := 5) rfl
    have z6 := hz2.cell (i := 6) rfl
    have z7 := hz2.cell (i := 7) rfl
    have hre := group_ret _ (w.heap.size + 1) x0 x1 x2 (!x3) x4 x5 x6 x7 hz2
    have r0 := hre.cell (i := 0) rfl
    have r1 := hre.cell (i := 1) rfl
    have r2 := hre.cell (i := 2) rfl
    have r3 := hre.cell (i := 3) rfl
    have r4 := hre.cell (i := 4) rfl
    have r5 := hre.cell (i := 5) rfl
    have r6 := hre.cell (i := 6) rfl
    have r7 := hre.cell (i := 7) rfl
    clear hre hk hz hk2 hz2
    go_wp2
    exact bodyPost_ret (v := .tuple #[.agg (g8 x0 x1 x2 (!x3) x4 x5 x6 x7), .bool true]) (by simp [results, Tryd.results25, go_sem, r0, r1, r2, r3, r4, r5, r6, r7]) rfl ⟨rfl, ((((((((HB.out.setCell (p := ⟨w.heap.size, 3, none⟩) (Nat.le_refl _) _).setCell (p := ⟨w.heap.size + 1, 0, none⟩) (by simp) _).setCell (p := ⟨w.heap.size + 1, 1, none⟩) (by simp) _).setCell (p := ⟨w.heap.size + 1, 2, none⟩) (by simp) _).setCell (p := ⟨w.heap.size + 1, 3, none⟩) (by simp) _).setCell (p := ⟨w.heap.size + 1, 4, none⟩) (by simp) _).setCell (p := ⟨w.heap.size + 1, 5, none⟩) (by simp) _).setCell (p := ⟨w.heap.size + 1, 6, none⟩) (by simp) _).setCell (p := ⟨w.heap.size + 1, 7, none⟩) (by simp) _⟩
  · have b0 := hk.cell (i := 4) rfl
    have g0 := hk.free 4
    have hk2 : BK (w1.setCell ⟨w.heap.size, 4, none⟩ (.bool (!x4))) w.heap.size (g8 x0 x1 x2 x3 (!x4) x5 x6 x7) 38 := hk.set 4 (.bool (!x4))
    have hz2 := hz.far (j := w.heap.size) (o := 4) (by omega) (.bool (!x4))
    have c0 := hk2.cell (i := 0) rfl
    have c1 := hk2.cell (i := 1) rfl
    have c2 := hk2.cell (i := 2) rfl
    have c3 := hk2.cell (i := 3) rfl
    have c4 := hk2.cell (i := 4) rfl
    have c5 := hk2.cell (i := 5) rfl
    have c6 := hk2.cell (i := 6) rfl
    have c7 := hk2.cell (i := 7) rfl
    have f0 := hz2.free 0
    have f1 := hz2.free 1
    have f2 := hz2.free 2
    have f3 := hz2.free 3
    have f4 := hz2.free 4
    have f5 := hz2.free 5
    have f6 := hz2.free 6
    have f7 := hz2.free 7
    have z0 := hz2.cell (i := 0) rfl
    have z1 := hz2.cell (i := 1) rfl
    have z2 := hz2.cell (i := 2) rfl
    have z3 := hz2.cell (i := 3) rfl
    have z4 := hz2.cell (i := 4) rfl
    have z5 := hz2.cell (i := 5) rfl
    have z6 := hz2.cell (i := 6) rfl
    have z7 := hz2.cell (i := 7) rfl
    have hre := group_ret _ (w.heap.size + 1) x0 x1 x2 x3 (!x4) x5 x6 x7 hz2
    have r0 := hre.cell (i := 0) rfl
    have r1 := hre.cell (i := 1) rfl
    have r2 := hre.cell (i := 2) rfl
    have r3 := hre.cell (i := 3) rfl
    have r4 := hre.cell (i := 4) rfl
    have r5 := hre.cell (i := 5) rfl
    have r6 := hre.cell (i := 6) rfl
    have r7 := hre.cell (i := 7) rfl
    clear hre hk hz hk2 hz2
    go_wp2
    exact bodyPost_ret (v := .tuple #[.agg (g8 x0 x1 x2 x3 (!x4) x5 x6 x7), .bool true]) (by simp [results, Tryd.results25, go_sem, r0, r1, r2, r3, r4, r5, r6, r7]) rfl ⟨rfl, ((((((((HB.out.setCell (p := ⟨w.heap.size, 4, none⟩) (Nat.le_refl _) _).setCell (p := ⟨w.heap.size + 1, 0, none⟩) (by simp) _).setCell (p := ⟨w.heap.size + 1, 1, none⟩) (by simp) _).setCell (p := ⟨w.heap.size + 1, 2, none⟩) (by simp) _).setCell (p := ⟨w.heap.size + 1, 3, none⟩) (by simp) _).setCell (p := ⟨w.heap.size + 1, 4, none⟩) (by simp) _).setCell (p := ⟨w.heap.size + 1, 5, none⟩) (by simp) _).setCell (p := ⟨w.heap.size + 1, 6, none⟩) (by simp) _).setCell (p := ⟨w.heap.size + 1, 7, none⟩) (by simp) _⟩
  · have b0 := hk.cell (i := 5) rfl
    have g0 := hk.free 5
    have hk2 : BK (w1.setCell ⟨w.heap.size, 5, none⟩ (.bool (!x5))) w.heap.size (g8 x0 x1 x2 x3 x4 (!x5) x6 x7) 38 := hk.set 5 (.bool (!x5))
    have hz2 := hz.far (j := w.heap.size) (o := 5) (by omega) (.bool (!x5))
    have c0 := hk2.cell (i := 0) rfl
    have c1 := hk2.cell (i := 1) rfl
    have c2 := hk2.cell (i := 2) rfl
    have c3 := hk2.cell (i := 3) rfl
    have c4 := hk2.cell (i := 4) rfl
    have c5 := hk2.cell (i := 5) rfl
    have c6 := hk2.cell (i := 6) rfl
    have c7 := hk2.cell (i := 7) rfl
    have f0 := hz2.free 0
    have f1 := hz2.free 1
    have f2 := hz2.free 2
    have f3 := hz2.free 3
    have f4 := hz2.free 4
    have f5 := hz2.free 5
    have f6 := hz2.free 6
    have f7 := hz2.free 7
    have z0 := hz2.cell (i := 0) rfl
    have z1 := hz2.cell (i := 1) rfl
    have z2 := hz2.cell (i := 2) rfl
    have z3 := hz2.cell (i := 3) rfl
    have z4 := hz2.cell (i := 4) rfl
    have z5 := hz2.cell (i := 5) rfl
    have z6 := hz2.cell (i := 6) rfl
    have z7 := hz2.cell (i := 7) rfl
    have hre := group_ret _ (w.heap.size + 1) x0 x1 x2 x3 x4 (!x5) x6 x7 hz2
    have r0 := hre.cell (i := 0) rfl
    have r1 := hre.cell (i := 1) rfl
    have r2 := hre.cell (i := 2) rfl
    have r3 := hre.cell (i := 3) rfl
    have r4 := hre.cell (i := 4) rfl
    have r5 := hre.cell (i := 5) rfl
    have r6 := hre.cell (i := 6) rfl
    have r7 := hre.cell (i := 7) rfl
    clear hre hk hz hk2 hz2
    go_wp2
    exact bodyPost_ret (v := .tuple #[.agg (g8 x0 x1 x2 x3 x4 (!x5) x6 x7), .bool true]) (by simp [results, Tryd.results25, go_sem, r0, r1, r2, r3, r4, r5, r6, r7]) rfl ⟨rfl, ((((((((HB.out.setCell (p := ⟨w.heap.size, 5, none⟩) (Nat.le_refl _) _).setCell (p := ⟨w.heap.size + 1, 0, none⟩) (by simp) _).setCell (p := ⟨w.heap.size + 1, 1, none⟩) (by simp) _).setCell (p := ⟨w.heap.size + 1, 2, none⟩) (by simp) _).setCell (p := ⟨w.heap.size + 1, 3, none⟩) (by simp) _).setCell (p := ⟨w.heap.size + 1, 4, none⟩) (by simp) _).setCell (p := ⟨w.heap.size + 1, 5, none⟩) (by simp) _).setCell (p := ⟨w.heap.size + 1, 6, none⟩) (by simp) _).setCell (p := ⟨w.heap.size + 1, 7, none⟩) (by simp) _⟩
  · have b0 := hk.cell (i := 6) rfl
    have g0 := hk.free 6
    have hk2 : BK (w1.setCell ⟨w.heap.size, 6, none⟩ (.bool (!x6))) w.heap.size (g8 x0 x1 x2 x3 x4 x5 (!x6) x7) 38 := hk.set 6 (.bool (!x6))
    have hz2 := hz.far (j := w.heap.size) (o := 6) (by omega) (.bool (!x6))
    have c0 := hk2.cell (i := 0) rfl
    have c1 := hk2.cell (i := 1) rfl
    have c2 := hk2.cell (i := 2) rfl
    have c3 := hk2.cell (i := 3) rfl
    have c4 := hk2.cell (i := 4) rfl
    have c5 := hk2.cell (i := 5) rfl
    have c6 := hk2.cell (i := 6) rfl
    have c7 := hk2.cell (i := 7) rfl
    have f0 := hz2.free 0
    have f1 := hz2.free 1
    have f2 := hz2.free 2
    have f3 := hz2.free 3
    have f4 := hz2.free 4
    have f5 := hz2.free 5
    have f6 := hz2.free 6
    have f7 := hz2.free 7
    have z0 := hz2.cell (i := 0) rfl
    have z1 := hz2.cell (i := 1) rfl
    have z2 := hz2.cell (i := 2) rfl
    have z3 := hz2.cell (i := 3) rfl
    have z4 := hz2.cell (i := 4) rfl
    have z5 := hz2.cell (i := 5) rfl
    have z6 := hz2.cell (i := 6) rfl
    have z7 := hz2.cell (i := 7) rfl
    have hre := group_ret _ (w.heap.size + 1) x0 x1 x2 x3 x4 x5 (!x6) x7 hz2
    have r0 := hre.cell (i := 0) rfl
    have r1 := hre.cell (i := 1) rfl
    have r2 := hre.cell (i := 2) rfl
    have r3 := hre.cell (i := 3) rfl
    have r4 := hre.cell (i := 4) rfl
    have r5 := hre.cell (i := 5) rfl
    have r6 := hre.cell (i := 6) rfl
    have r7 := hre.cell (i := 7) rfl
    clear hre hk hz hk2 hz2
    go_wp2
    exact bodyPost_ret (v := .tuple #[.agg (g8 x0 x1 x2 x3 x4 x5 (!x6) x7), .bool true]) (by simp [results, Tryd.results25, go_sem, r0, r1, r2, r3, r4, r5, r6, r7]) rfl ⟨rfl, ((((((((HB.out.setCell (p := ⟨w.heap.size, 6, none⟩) (Nat.le_refl _) _).setCell (p := ⟨w.heap.size + 1, 0, none⟩) (by simp) _).setCell (p := ⟨w.heap.size + 1, 1, none⟩) (by simp) _).setCell (p := ⟨w.heap.size + 1, 2, none⟩) (by simp) _).setCell (p := ⟨w.heap.size + 1, 3, none⟩) (by simp) _).setCell (p := ⟨w.heap.size + 1, 4, none⟩) (by simp) _).setCell (p := ⟨w.heap.size + 1, 5, none⟩) (by simp) _).setCell (p := ⟨w.heap.size + 1, 6, none⟩) (by simp) _).setCell (p := ⟨w.heap.size + 1, 7, none⟩) (by simp) _⟩
  · have b0 := hk.cell (i := 7) rfl
    have g0 := hk.free 7
    have hk2 : BK (w1.setCell ⟨w.heap.size, 7, none⟩ (.bool (!x7))) w.heap.size (g8 x0 x1 x2 x3 x4 x5 x6 (!x7)) 38 := hk.set 7 (.bool (!x7))
    have hz2 := hz.far (j := w.heap.size) (o := 7) (by omega) (.bool (!x7))
    have c0 := hk2.cell (i := 0) rfl
    have c1 := hk2.cell (i := 1) rfl
    have c2 := hk2.cell (i := 2) rfl
    have c3 := hk2.cell (i := 3) rfl
    have c4 := hk2.cell (i := 4) rfl
    have c5 := hk2.cell (i := 5) rfl
    have c6 := hk2.cell (i := 6) rfl
    have c7 := hk2.cell (i := 7) rfl
    have f0 := hz2.free 0
    have f1 := hz2.free 1
    have f2 := hz2.free 2
    have f3 := hz2.free 3
    have f4 := hz2.free 4
    have f5 := hz2.free 5
    have f6 := hz2.free 6
    have f7 := hz2.free 7
    have z0 := hz2.cell (i := 0) rfl
    have z1 := hz2.cell (i := 1) rfl
    have z2 := hz2.cell (i := 2) rfl
    have z3 := hz2.cell (i := 3) rfl
    have z4 := hz2.cell (i := 4) rfl
    have z5 := hz2.cell (i := 5) rfl
    have z6 := hz2.cell (i := 6) rfl
    have z7 := hz2.cell (i := 7) rfl
    have hre := group_ret _ (w.heap.size + 1) x0 x1 x2 x3 x4 x5 x6 (!x7) hz2
    have r0 := hre.cell (i := 0) rfl
    have r1 := hre.cell (i := 1) rfl
    have r2 := hre.cell (i := 2) rfl
    have r3 := hre.cell (i := 3) rfl
    have r4 := hre.cell (i := 4) rfl
    have r5 := hre.cell (i := 5) rfl
    have r6 := hre.cell (i := 6) rfl
    have r7 := hre.cell (i := 7) rfl
    clear hre hk hz hk2 hz2
    go_wp2
    exact bodyPost_ret (v := .tuple #[.agg (g8 x0 x1 x2 x3 x4 x5 x6 (!x7)), .bool true]) (by simp [results, Tryd.results25, go_sem, r0, r1, r2, r3, r4, r5, r6, r7]) rfl ⟨rfl, ((((((((HB.out.setCell (p := ⟨w.heap.size, 7, none⟩) (Nat.le_refl _) _).setCell (p := ⟨w.heap.size + 1, 0, none⟩) (by simp) _).setCell (p := ⟨w.heap.size + 1, 1, none⟩) (by simp) _).setCell (p := ⟨w.heap.size + 1, 2, none⟩) (by simp) _).setCell (p := ⟨w.heap.size + 1, 3, none⟩) (by simp) _).setCell (p := ⟨w.heap.size + 1, 4, none⟩) (by simp) _).setCell (p := ⟨w.heap.size + 1, 5, none⟩) (by simp) _).setCell (p := ⟨w.heap.size + 1, 6, none⟩) (by simp) _).setCell (p := ⟨w.heap.size + 1, 7, none⟩) (by simp) _⟩
end Go.Proofs.YtjnehfbeokpgpaaDoor
