/- A group of bits: for four bits of data, in the program. -/
import Derived.Test.YtjnehfbeokpgpaaDoorHamC
namespace Go.Proofs.YtjnehfbeokpgpaaDoor
open Go.ChangeShapes Go.WideShapes Go.ChangeAt Go.RowKit
/-- the places of the data, as start-up lays them -/
def DP (w : World) : Prop := 0 < w.heap.size ∧ w.cell? ⟨0, 0, none⟩ = some (.int .i64 3) ∧ w.cell? ⟨0, 1, none⟩ = some (.int .i64 5) ∧ w.cell? ⟨0, 2, none⟩ = some (.int .i64 6) ∧ w.cell? ⟨0, 3, none⟩ = some (.int .i64 7)
theorem DP.below {w w' : World} {B : Nat} (h : DP w) (hb : Below B w w') (hB : 0 < B) : DP w' := by
  obtain ⟨h0, h1, h2, h3, h4⟩ := h
  exact ⟨Nat.lt_of_lt_of_le h0 hb.size, (hb.cell (p := ⟨0, 0, none⟩) hB).trans h1, (hb.cell (p := ⟨0, 1, none⟩) hB).trans h2, (hb.cell (p := ⟨0, 2, none⟩) hB).trans h3, (hb.cell (p := ⟨0, 3, none⟩) hB).trans h4⟩
theorem DP.from {w w' : World} (h : DP w) (hb : Below w.heap.size w w') : DP w' := h.below hb h.1
theorem agg_int (u : World) : (isAgg 3).run Tryd.prog u = .ok false u := by kernel_rfl
theorem size_int (u : World) : (sizeOf 3).run Tryd.prog u = .ok 1 u := by kernel_rfl
theorem idx_place (k : Nat) (v : Value) (hk : k < 4) (hv : (#[.int .i64 3, .int .i64 5, .int .i64 6, .int .i64 7] : Array Value)[k]? = some v) (u : World) : (Instr.index 51 (.agg #[.int .i64 3, .int .i64 5, .int .i64 6, .int .i64 7]) (.int .i64 (k : Int))).run Tryd.prog u = .ok v u :=
  run_idx_arr _ 3 4 _ k v u Tryd.underlying51 (agg_int u) (size_int u) hk hv
theorem and_bits : ∀ S : Nat, S < 8 → (bits .and .i64 (S : Int) 1 != 0) = decide (S % 2 = 1) ∧ (bits .and .i64 (S : Int) 2 != 0) = decide (S / 2 % 2 = 1) ∧ (bits .and .i64 (S : Int) 4 != 0) = decide (S / 4 % 2 = 1) := by decide +kernel
def synF (a b c d : Bool) : Nat := synN [false, false, false, a, false, b, c, d]
theorem synF_lt : ∀ a b c d : Bool, synF a b c d < 8 := by decide
theorem ham7_of : ∀ a b c d : Bool, ham7 (bitC a) (bitC b) (bitC c) (bitC d) = [bitC (decide (synF a b c d % 2 = 1)), bitC (decide (synF a b c d / 2 % 2 = 1)), bitC a, bitC (decide (synF a b c d / 4 % 2 = 1)), bitC b, bitC c, bitC d] := by decide +kernel
set_option maxRecDepth 100000 in
set_option maxHeartbeats 8000000 in
theorem groupFor_any (s : ByteArray) (a b c d : Bool) (w : World) (hs : 4 ≤ s.size) (b0 : ((s[0].toNat : Int) == 49) = a) (b1 : ((s[1].toNat : Int) == 49) = b) (b2 : ((s[2].toNat : Int) == 49) = c) (b3 : ((s[3].toNat : Int) == 49) = d) (hs2 : s.size ≤ 4) (hdp : DP w) :
    Calls Tryd.prog 20 #[.string s] w fun e w' => e = .returned (.agg (g8 false (decide (synF a b c d % 2 = 1)) (decide (synF a b c d / 2 % 2 = 1)) a (decide (synF a b c d / 4 % 2 = 1)) b c d)) ∧ Below w.heap.size w w' := by
  have hsi : (s.size : Int) = 4 := by omega
  have B0 := Lib.hid b0
  have B1 := Lib.hid b1
  have B2 := Lib.hid b2
  have B3 := Lib.hid b3
  obtain ⟨_, d0, d1, d2, d3⟩ := (hdp.from ((Below.refl _ w).alloc (Nat.le_refl _) (.cells (g8 false false false false false false false false) 38))).from ((Below.refl _ _).alloc (Nat.le_refl _) (.cells (g8 false false false false false false false false) 38))
  have hlt := synF_lt a b c d
  obtain ⟨ha1, ha2, ha4⟩ := and_bits (synF a b c d) hlt
  have HA1 := Lib.hid ha1
  have HA2 := Lib.hid ha2
  have HA4 := Lib.hid ha4
  clear hs2 b0 b1 b2 b3 hdp ha1 ha2 ha4
  go_enter Tryd.func20, Tryd.ntmps20
  go_wp2
  clear d0 d1 d2 d3
  go_loopw [4, 5, 9] (fun _ _ i wr => ∃ k : Nat, k ≤ 4 ∧ i = .int .i64 k ∧ BK wr (w.heap.size + 1) (#[g8 false false false false false false false false, g8 false false false a false false false false, g8 false false false a false b false false, g8 false false false a false b c false, g8 false false false a false b c d].getD k #[]) 38 ∧ BK wr w.heap.size (g8 false false false false false false false false) 38 ∧ Below w.heap.size w wr) (fun _ _ i _ => 4 - (intOf i).toNat)
  case atStart =>
    refine ⟨0, by omega, rfl, ?_, ?_, ((Below.refl _ w).alloc (Nat.le_refl _) _).alloc (by simp) _⟩
    · have h := BK.new (w.alloc (.cells (g8 false false false false false false false false) 38)) (g8 false false false false false false false false) 38
      rw [World.size_alloc] at h
      exact h
    · exact (BK.new w (g8 false false false false false false false false) 38).alloc _
  case round =>
    obtain ⟨k, hk, rfl, hgr, hre, hb⟩ := hrel
    have HB := Lib.hid hb
    have HR := Lib.hid hre
    clear hb hre
    by_cases h4 : k < 4
    · rcases (show k = 0 ∨ k = 1 ∨ k = 2 ∨ k = 3 by omega) with rfl | rfl | rfl | rfl
      · have hgr : BK wr (w.heap.size + 1) (g8 false false false false false false false false) 38 := hgr
        have cc := hgr.cell (i := 3) rfl
        have f := hgr.free 3
        have hc := B0.out
        have hix : ∀ u : World, (Instr.index 51 (.agg #[.int .i64 3, .int .i64 5, .int .i64 6, .int .i64 7]) (.int .i64 0)).run Tryd.prog u = .ok (.int .i64 3) u := idx_place 0 _ (by omega) rfl
        have HG := Lib.hid hgr
        clear hgr
        go_wp2
        go_roundw
        case rel =>
          refine ⟨1, by omega, rfl, ?_, HR.out.far (by omega) _, HB.out.setCell (p := ⟨w.heap.size + 1, 3, none⟩) (by simp) _⟩
          have h : BK _ (w.heap.size + 1) (g8 false false false a false false false false) 38 := HG.out.set 3 (.bool a)
          exact h
        case measure => simp [intOf]
      · have hgr : BK wr (w.heap.size + 1) (g8 false false false a false false false false) 38 := hgr
        have cc := hgr.cell (i := 5) rfl
        have f := hgr.free 5
        have hc := B1.out
        have hix : ∀ u : World, (Instr.index 51 (.agg #[.int .i64 3, .int .i64 5, .int .i64 6, .int .i64 7]) (.int .i64 1)).run Tryd.prog u = .ok (.int .i64 5) u := idx_place 1 _ (by omega) rfl
        have HG := Lib.hid hgr
        clear hgr
        go_wp2
        go_roundw
        case rel =>
          refine ⟨2, by omega, rfl, ?_, HR.out.far (by omega) _, HB.out.setCell (p := ⟨w.heap.size + 1, 5, none⟩) (by simp) _⟩
          have h : BK _ (w.heap.size + 1) (g8 false false false a false b false false) 38 := HG.out.set 5 (.bool b)
          exact h
        case measure => simp [intOf]
      · have hgr : BK wr (w.heap.size + 1) (g8 false false false a false b false false) 38 := hgr
        have cc := hgr.cell (i := 6) rfl
        have f := hgr.free 6
        have hc := B2.out
        have hix : ∀ u : World, (Instr.index 51 (.agg #[.int .i64 3, .int .i64 5, .int .i64 6, .int .i64 7]) (.int .i64 2)).run Tryd.prog u = .ok (.int .i64 6) u := idx_place 2 _ (by omega) rfl
        have HG := Lib.hid hgr
        clear hgr
        go_wp2
        go_roundw
        case rel =>
          refine ⟨3, by omega, rfl, ?_, HR.out.far (by omega) _, HB.out.setCell (p := ⟨w.heap.size + 1, 6, none⟩) (by simp) _⟩
          have h : BK _ (w.heap.size + 1) (g8 false false false a false b c false) 38 := HG.out.set 6 (.bool c)
          exact h
        case measure => simp [intOf]
      · have hgr : BK wr (w.heap.size + 1) (g8 false false false a false b c false) 38 := hgr
        have cc := hgr.cell (i := 7) rfl
        have f := hgr.free 7
        have hc := B3.out
        have hix : ∀ u : World, (Instr.index 51 (.agg #[.int .i64 3, .int .i64 5, .int .i64 6, .int .i64 7]) (.int .i64 3)).run Tryd.prog u = .ok (.int .i64 7) u := idx_place 3 _ (by omega) rfl
        have HG := Lib.hid hgr
        clear hgr
        go_wp2
        go_roundw
        case rel =>
          refine ⟨4, by omega, rfl, ?_, HR.out.far (by omega) _, HB.out.setCell (p := ⟨w.heap.size + 1, 7, none⟩) (by simp) _⟩
          have h : BK _ (w.heap.size + 1) (g8 false false false a false b c d) 38 := HG.out.set 7 (.bool d)
          exact h
        case measure => simp [intOf]
    · obtain rfl : k = 4 := by omega
      have hgr : BK wr (w.heap.size + 1) (g8 false false false a false b c d) 38 := hgr
      have c0 := hgr.cell (i := 0) rfl
      have c1 := hgr.cell (i := 1) rfl
      have c2 := hgr.cell (i := 2) rfl
      have c3 := hgr.cell (i := 3) rfl
      have c4 := hgr.cell (i := 4) rfl
      have c5 := hgr.cell (i := 5) rfl
      have c6 := hgr.cell (i := 6) rfl
      have c7 := hgr.cell (i := 7) rfl
      have HG := Lib.hid hgr
      clear hgr
      go_wp2_with fail
      refine (syndrome_any false false false a false b c d _).mono ?_
      rintro e w1 ⟨rfl, hb1⟩
      have hG1 := HG.out.from hb1
      have HG1 := Lib.hid hG1
      have HR1 := Lib.hid (HR.out.from hb1)
      have HB1 := Lib.hid (HB.out.trans (hb1.mono HB.out.size))
      clear hb1 hG1 c0 c1 c2 c3 c4 c5 c6 c7
      rw [show synN [false, false, false, a, false, b, c, d] = synF a b c d from rfl]
      obtain ⟨p1, hp1⟩ : ∃ p, decide (synF a b c d % 2 = 1) = p := ⟨_, rfl⟩
      obtain ⟨p2, hp2⟩ : ∃ p, decide (synF a b c d / 2 % 2 = 1) = p := ⟨_, rfl⟩
      obtain ⟨p4, hp4⟩ : ∃ p, decide (synF a b c d / 4 % 2 = 1) = p := ⟨_, rfl⟩
      rw [hp1] at HA1
      rw [hp2] at HA2
      rw [hp4] at HA4
      have HP1 := Lib.hid hp1
      have HP2 := Lib.hid hp2
      have HP4 := Lib.hid hp4
      clear hp1 hp2 hp4
      obtain ⟨S, hS⟩ : ∃ S, synF a b c d = S := ⟨_, rfl⟩
      rw [hS] at HA1 HA2 HA4 hlt ⊢
      have HS := Lib.hid hS
      clear hS
      go_wp2
      go_loopw [7] (fun i wr => ∃ k : Nat, k ≤ 3 ∧ i = .int .i64 ((2 ^ k : Nat) : Int) ∧ BK wr (w.heap.size + 1) (#[g8 false false false a false b c d, g8 false p1 false a false b c d, g8 false p1 p2 a false b c d, g8 false p1 p2 a p4 b c d].getD k #[]) 38 ∧ BK wr w.heap.size (g8 false false false false false false false false) 38 ∧ Below w.heap.size w wr) (fun i _ => 8 - (intOf i).toNat)
      case atStart => exact ⟨0, by omega, rfl, HG1.out, HR1.out, HB1.out⟩
      case round =>
        obtain ⟨k, hk, rfl, hgr, hre, hb⟩ := hrel
        have HB2 := Lib.hid hb
        have HR2 := Lib.hid hre
        clear hb hre
        by_cases h3 : k < 3
        · rcases (show k = 0 ∨ k = 1 ∨ k = 2 by omega) with rfl | rfl | rfl
          · have hgr : BK wr (w.heap.size + 1) (g8 false false false a false b c d) 38 := hgr
            have cc := hgr.cell (i := 1) rfl
            have f := hgr.free 1
            have hc := HA1.out
            have HG2 := Lib.hid hgr
            clear hgr
            rw [show (((2 ^ 0 : Nat)) : Int) = 1 from rfl]
            go_wp2
            go_roundw
            case rel =>
              refine ⟨1, by omega, rfl, ?_, HR2.out.far (by omega) _, HB2.out.setCell (p := ⟨w.heap.size + 1, 1, none⟩) (by simp) _⟩
              have h : BK _ (w.heap.size + 1) (g8 false p1 false a false b c d) 38 := HG2.out.set 1 (.bool p1)
              exact h
            case measure => simp [intOf]
          · have hgr : BK wr (w.heap.size + 1) (g8 false p1 false a false b c d) 38 := hgr
            have cc := hgr.cell (i := 2) rfl
            have f := hgr.free 2
            have hc := HA2.out
            have HG2 := Lib.hid hgr
            clear hgr
            rw [show (((2 ^ 1 : Nat)) : Int) = 2 from rfl]
            go_wp2
            go_roundw
            case rel =>
              refine ⟨2, by omega, rfl, ?_, HR2.out.far (by omega) _, HB2.out.setCell (p := ⟨w.heap.size + 1, 2, none⟩) (by simp) _⟩
              have h : BK _ (w.heap.size + 1) (g8 false p1 p2 a false b c d) 38 := HG2.out.set 2 (.bool p2)
              exact h
            case measure => simp [intOf]
          · have hgr : BK wr (w.heap.size + 1) (g8 false p1 p2 a false b c d) 38 := hgr
            have cc := hgr.cell (i := 4) rfl
            have f := hgr.free 4
            have hc := HA4.out
            have HG2 := Lib.hid hgr
            clear hgr
            rw [show (((2 ^ 2 : Nat)) : Int) = 4 from rfl]
            go_wp2
            go_roundw
            case rel =>
              refine ⟨3, by omega, rfl, ?_, HR2.out.far (by omega) _, HB2.out.setCell (p := ⟨w.heap.size + 1, 4, none⟩) (by simp) _⟩
              have h : BK _ (w.heap.size + 1) (g8 false p1 p2 a p4 b c d) 38 := HG2.out.set 4 (.bool p4)
              exact h
            case measure => simp [intOf]
        · obtain rfl : k = 3 := by omega
          have hgr : BK wr (w.heap.size + 1) (g8 false p1 p2 a p4 b c d) 38 := hgr
          rw [show (((2 ^ 3 : Nat)) : Int) = 8 from rfl]
          have c0 := hgr.cell (i := 0) rfl
          have c1 := hgr.cell (i := 1) rfl
          have c2 := hgr.cell (i := 2) rfl
          have c3 := hgr.cell (i := 3) rfl
          have c4 := hgr.cell (i := 4) rfl
          have c5 := hgr.cell (i := 5) rfl
          have c6 := hgr.cell (i := 6) rfl
          have c7 := hgr.cell (i := 7) rfl
          have f0 := HR2.out.free 0
          have f1 := HR2.out.free 1
          have f2 := HR2.out.free 2
          have f3 := HR2.out.free 3
          have f4 := HR2.out.free 4
          have f5 := HR2.out.free 5
          have f6 := HR2.out.free 6
          have f7 := HR2.out.free 7
          have z0 := HR2.out.cell (i := 0) rfl
          have z1 := HR2.out.cell (i := 1) rfl
          have z2 := HR2.out.cell (i := 2) rfl
          have z3 := HR2.out.cell (i := 3) rfl
          have z4 := HR2.out.cell (i := 4) rfl
          have z5 := HR2.out.cell (i := 5) rfl
          have z6 := HR2.out.cell (i := 6) rfl
          have z7 := HR2.out.cell (i := 7) rfl
          have hre := group_ret wr w.heap.size false p1 p2 a p4 b c d HR2.out
          have r0 := hre.cell (i := 0) rfl
          have r1 := hre.cell (i := 1) rfl
          have r2 := hre.cell (i := 2) rfl
          have r3 := hre.cell (i := 3) rfl
          have r4 := hre.cell (i := 4) rfl
          have r5 := hre.cell (i := 5) rfl
          have r6 := hre.cell (i := 6) rfl
          have r7 := hre.cell (i := 7) rfl
          clear hre hgr
          go_wp2
          rw [← HS.out, HP1.out, HP2.out, HP4.out]
          exact bodyPost_ret (v := .agg (g8 false p1 p2 a p4 b c d)) (by simp [results, Tryd.results20, go_sem, r0, r1, r2, r3, r4, r5, r6, r7]) rfl ⟨rfl, (((((((HB2.out.setCell (p := ⟨w.heap.size, 0, none⟩) (Nat.le_refl _) _).setCell (p := ⟨w.heap.size, 1, none⟩) (Nat.le_refl _) _).setCell (p := ⟨w.heap.size, 2, none⟩) (Nat.le_refl _) _).setCell (p := ⟨w.heap.size, 3, none⟩) (Nat.le_refl _) _).setCell (p := ⟨w.heap.size, 4, none⟩) (Nat.le_refl _) _).setCell (p := ⟨w.heap.size, 5, none⟩) (Nat.le_refl _) _).setCell (p := ⟨w.heap.size, 6, none⟩) (Nat.le_refl _) _).setCell (p := ⟨w.heap.size, 7, none⟩) (Nat.le_refl _) _⟩
end Go.Proofs.YtjnehfbeokpgpaaDoor
