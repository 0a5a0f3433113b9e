/- A group of bits: of seven bits, in the program. -/
import Derived.Test.YtjnehfbeokpgpaaDoorHamB
namespace Go.Proofs.YtjnehfbeokpgpaaDoor
open Go.ChangeShapes Go.WideShapes Go.ChangeAt Go.RowKit
/-- a group, filled up to k -/
def gUp (l : List Bool) (k : Nat) : Array Value := (((false :: l.take k) ++ List.replicate (7 - k) false).map Value.bool).toArray
/-- a result of a group -/
theorem group_ret (W : World) (g : Nat) (x0 x1 x2 x3 x4 x5 x6 x7 : Bool) (h : BK W g (g8 false false false false false false false false) 38) :
    BK ((((((((W.setCell ⟨g, 0, none⟩ (.bool x0)).setCell ⟨g, 1, none⟩ (.bool x1)).setCell ⟨g, 2, none⟩ (.bool x2)).setCell ⟨g, 3, none⟩ (.bool x3)).setCell ⟨g, 4, none⟩ (.bool x4)).setCell ⟨g, 5, none⟩ (.bool x5)).setCell ⟨g, 6, none⟩ (.bool x6)).setCell ⟨g, 7, none⟩ (.bool x7)) g (g8 x0 x1 x2 x3 x4 x5 x6 x7) 38 := by
  have h : BK _ g (g8 x0 false false false false false false false) 38 := h.set 0 (.bool x0)
  have h : BK _ g (g8 x0 x1 false false false false false false) 38 := h.set 1 (.bool x1)
  have h : BK _ g (g8 x0 x1 x2 false false false false false) 38 := h.set 2 (.bool x2)
  have h : BK _ g (g8 x0 x1 x2 x3 false false false false) 38 := h.set 3 (.bool x3)
  have h : BK _ g (g8 x0 x1 x2 x3 x4 false false false) 38 := h.set 4 (.bool x4)
  have h : BK _ g (g8 x0 x1 x2 x3 x4 x5 false false) 38 := h.set 5 (.bool x5)
  have h : BK _ g (g8 x0 x1 x2 x3 x4 x5 x6 false) 38 := h.set 6 (.bool x6)
  have h : BK _ g (g8 x0 x1 x2 x3 x4 x5 x6 x7) 38 := h.set 7 (.bool x7)
  exact h
set_option maxRecDepth 100000 in
set_option maxHeartbeats 8000000 in
theorem groupOf_any (s : ByteArray) (y0 y1 y2 y3 y4 y5 y6 : Bool) (w : World) (hs : 7 ≤ s.size)
    (b0 : ((s[0].toNat : Int) == 49) = y0)
    (b1 : ((s[1].toNat : Int) == 49) = y1)
    (b2 : ((s[2].toNat : Int) == 49) = y2)
    (b3 : ((s[3].toNat : Int) == 49) = y3)
    (b4 : ((s[4].toNat : Int) == 49) = y4)
    (b5 : ((s[5].toNat : Int) == 49) = y5)
    (b6 : ((s[6].toNat : Int) == 49) = y6) (hs2 : s.size ≤ 7) :
    Calls Tryd.prog 24 #[.string s] w fun e w' => e = .returned (.agg (g8 false y0 y1 y2 y3 y4 y5 y6)) ∧ Below w.heap.size w w' := by
  have hsi : (s.size : Int) = 7 := by omega
  have B0 := Lib.hid b0
  have B1 := Lib.hid b1
  have B2 := Lib.hid b2
  have B3 := Lib.hid b3
  have B4 := Lib.hid b4
  have B5 := Lib.hid b5
  have B6 := Lib.hid b6
  clear hs2 b0 b1 b2 b3 b4 b5 b6
  go_enter Tryd.func24, Tryd.ntmps24
  go_wp2
  go_loopw [4, 7] (fun _ i wr => ∃ k : Nat, k ≤ 7 ∧ i = .int .i64 k ∧ BK wr (w.heap.size + 1) (gUp [y0, y1, y2, y3, y4, y5, y6] k) 38 ∧ BK wr w.heap.size (g8 false false false false false false false false) 38 ∧ Below w.heap.size w wr) (fun _ i _ => 7 - (intOf i).toNat)
  case atStart =>
    refine ⟨0, by omega, rfl, ?_, ?_, ((Below.refl _ w).alloc (Nat.le_refl _) _).alloc (by simp) _⟩
    · have h := BK.new (w.alloc (.cells (g8 false false false false false false false false) 38)) (g8 false false false false false false false false) 38
      rw [World.size_alloc] at h
      exact h
    · exact (BK.new w (g8 false false false false false false false false) 38).alloc _
  case round =>
    obtain ⟨k, hk, rfl, hgr, hre, hb⟩ := hrel
    have HB := Lib.hid hb
    have HR := Lib.hid hre
    clear hb hre
    by_cases h7 : k < 7
    · rcases (show k = 0 ∨ k = 1 ∨ k = 2 ∨ k = 3 ∨ k = 4 ∨ k = 5 ∨ k = 6 by omega) with rfl | rfl | rfl | rfl | rfl | rfl | rfl
      · have hgr : BK wr (w.heap.size + 1) (g8 false false false false false false false false) 38 := hgr
        have c := hgr.cell (i := 1) rfl
        have f := hgr.free 1
        have hc := B0.out
        have HG := Lib.hid hgr
        clear hgr
        go_wp2
        go_roundw
        case rel =>
          refine ⟨1, by omega, rfl, ?_, HR.out.far (by omega) _, HB.out.setCell (p := ⟨w.heap.size + 1, 1, none⟩) (by simp) _⟩
          have h : BK _ (w.heap.size + 1) (g8 false y0 false false false false false false) 38 := HG.out.set 1 (.bool y0)
          exact h
        case measure => simp [intOf]
      · have hgr : BK wr (w.heap.size + 1) (g8 false y0 false false false false false false) 38 := hgr
        have c := hgr.cell (i := 2) rfl
        have f := hgr.free 2
        have hc := B1.out
        have HG := Lib.hid hgr
        clear hgr
        go_wp2
        go_roundw
        case rel =>
          refine ⟨2, by omega, rfl, ?_, HR.out.far (by omega) _, HB.out.setCell (p := ⟨w.heap.size + 1, 2, none⟩) (by simp) _⟩
          have h : BK _ (w.heap.size + 1) (g8 false y0 y1 false false false false false) 38 := HG.out.set 2 (.bool y1)
          exact h
        case measure => simp [intOf]
      · have hgr : BK wr (w.heap.size + 1) (g8 false y0 y1 false false false false false) 38 := hgr
        have c := hgr.cell (i := 3) rfl
        have f := hgr.free 3
        have hc := B2.out
        have HG := Lib.hid hgr
        clear hgr
        go_wp2
        go_roundw
        case rel =>
          refine ⟨3, by omega, rfl, ?_, HR.out.far (by omega) _, HB.out.setCell (p := ⟨w.heap.size + 1, 3, none⟩) (by simp) _⟩
          have h : BK _ (w.heap.size + 1) (g8 false y0 y1 y2 false false false false) 38 := HG.out.set 3 (.bool y2)
          exact h
        case measure => simp [intOf]
      · have hgr : BK wr (w.heap.size + 1) (g8 false y0 y1 y2 false false false false) 38 := hgr
        have c := hgr.cell (i := 4) rfl
        have f := hgr.free 4
        have hc := B3.out
        have HG := Lib.hid hgr
        clear hgr
        go_wp2
        go_roundw
        case rel =>
          refine ⟨4, by omega, rfl, ?_, HR.out.far (by omega) _, HB.out.setCell (p := ⟨w.heap.size + 1, 4, none⟩) (by simp) _⟩
          have h : BK _ (w.heap.size + 1) (g8 false y0 y1 y2 y3 false false false) 38 := HG.out.set 4 (.bool y3)
          exact h
        case measure => simp [intOf]
      · have hgr : BK wr (w.heap.size + 1) (g8 false y0 y1 y2 y3 false false false) 38 := hgr
        have c := hgr.cell (i := 5) rfl
        have f := hgr.free 5
        have hc := B4.out
        have HG := Lib.hid hgr
        clear hgr
        go_wp2
        go_roundw
        case rel =>
          refine ⟨5, by omega, rfl, ?_, HR.out.far (by omega) _, HB.out.setCell (p := ⟨w.heap.size + 1, 5, none⟩) (by simp) _⟩
          have h : BK _ (w.heap.size + 1) (g8 false y0 y1 y2 y3 y4 false false) 38 := HG.out.set 5 (.bool y4)
          exact h
        case measure => simp [intOf]
      · have hgr : BK wr (w.heap.size + 1) (g8 false y0 y1 y2 y3 y4 false false) 38 := hgr
        have c := hgr.cell (i := 6) rfl
        have f := hgr.free 6
        have hc := B5.out
        have HG := Lib.hid hgr
        clear hgr
        go_wp2
        go_roundw
        case rel =>
          refine ⟨6, by omega, rfl, ?_, HR.out.far (by omega) _, HB.out.setCell (p := ⟨w.heap.size + 1, 6, none⟩) (by simp) _⟩
          have h : BK _ (w.heap.size + 1) (g8 false y0 y1 y2 y3 y4 y5 false) 38 := HG.out.set 6 (.bool y5)
          exact h
        case measure => simp [intOf]
      · have hgr : BK wr (w.heap.size + 1) (g8 false y0 y1 y2 y3 y4 y5 false) 38 := hgr
        have c := hgr.cell (i := 7) rfl
        have f := hgr.free 7
        have hc := B6.out
        have HG := Lib.hid hgr
        clear hgr
        go_wp2
        go_roundw
        case rel =>
          refine ⟨7, by omega, rfl, ?_, HR.out.far (by omega) _, HB.out.setCell (p := ⟨w.heap.size + 1, 7, none⟩) (by simp) _⟩
          have h : BK _ (w.heap.size + 1) (g8 false y0 y1 y2 y3 y4 y5 y6) 38 := HG.out.set 7 (.bool y6)
          exact h
        case measure => simp [intOf]
    · obtain rfl : k = 7 := by omega
      have hgr : BK wr (w.heap.size + 1) (g8 false y0 y1 y2 y3 y4 y5 y6) 38 := hgr
      have c0 := hgr.cell (i := 0) rfl
      have c1 := hgr.cell (i := 1) rfl
      have c2 := hgr.cell (i := 2) rfl
      have c3 := hgr.cell (i := 3) rfl
      have c4 := hgr.cell (i := 4) rfl
      have c5 := hgr.cell (i := 5) rfl
      have c6 := hgr.cell (i := 6) rfl
      have c7 := hgr.cell (i := 7) rfl
      have f0 := HR.out.free 0
      have f1 := HR.out.free 1
      have f2 := HR.out.free 2
      have f3 := HR.out.free 3
      have f4 := HR.out.free 4
      have f5 := HR.out.free 5
      have f6 := HR.out.free 6
      have f7 := HR.out.free 7
      have z0 := HR.out.cell (i := 0) rfl
      have z1 := HR.out.cell (i := 1) rfl
      have z2 := HR.out.cell (i := 2) rfl
      have z3 := HR.out.cell (i := 3) rfl
      have z4 := HR.out.cell (i := 4) rfl
      have z5 := HR.out.cell (i := 5) rfl
      have z6 := HR.out.cell (i := 6) rfl
      have z7 := HR.out.cell (i := 7) rfl
      have hre := group_ret wr w.heap.size false y0 y1 y2 y3 y4 y5 y6 HR.out
      have r0 := hre.cell (i := 0) rfl
      have r1 := hre.cell (i := 1) rfl
      have r2 := hre.cell (i := 2) rfl
      have r3 := hre.cell (i := 3) rfl
      have r4 := hre.cell (i := 4) rfl
      have r5 := hre.cell (i := 5) rfl
      have r6 := hre.cell (i := 6) rfl
      have r7 := hre.cell (i := 7) rfl
      clear hre hgr
      go_wp2
      exact bodyPost_ret (v := .agg (g8 false y0 y1 y2 y3 y4 y5 y6)) (by simp [results, Tryd.results24, go_sem, r0, r1, r2, r3, r4, r5, r6, r7]) rfl ⟨rfl, (((((((HB.out.setCell (p := ⟨w.heap.size, 0, none⟩) (Nat.le_refl _) _).setCell (p := ⟨w.heap.size, 1, none⟩) (Nat.le_refl _) _).setCell (p := ⟨w.heap.size, 2, none⟩) (Nat.le_refl _) _).setCell (p := ⟨w.heap.size, 3, none⟩) (Nat.le_refl _) _).setCell (p := ⟨w.heap.size, 4, none⟩) (Nat.le_refl _) _).setCell (p := ⟨w.heap.size, 5, none⟩) (Nat.le_refl _) _).setCell (p := ⟨w.heap.size, 6, none⟩) (Nat.le_refl _) _).setCell (p := ⟨w.heap.size, 7, none⟩) (Nat.le_refl _) _⟩
end Go.Proofs.YtjnehfbeokpgpaaDoor
