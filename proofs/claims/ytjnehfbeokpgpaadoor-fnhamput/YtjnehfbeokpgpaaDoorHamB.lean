/- A group of bits: its syndrome, in the program. -/
import Derived.Test.YtjnehfbeokpgpaaDoorHamA
import Derived.Test.YtjnehfbeokpgpaaDoorBk
namespace Go.Proofs.YtjnehfbeokpgpaaDoor
open Go.ChangeShapes Go.WideShapes Go.ChangeAt Go.RowKit
/-- the cells of a group -/
abbrev g8 (x0 x1 x2 x3 x4 x5 x6 x7 : Bool) : Array Value := #[.bool x0, .bool x1, .bool x2, .bool x3, .bool x4, .bool x5, .bool x6, .bool x7]
def synN (l : List Bool) : Nat := (l.zipIdx 0).foldl (fun n p => if p.1 then n ^^^ p.2 else n) 0
def synUp (l : List Bool) (k : Nat) : Nat := synN (l.take k)
theorem synN_lt : ∀ x0 x1 x2 x3 x4 x5 x6 x7 : Bool, ∀ k, k ≤ 8 → synUp [x0, x1, x2, x3, x4, x5, x6, x7] k < 8 := by decide +kernel
theorem synUp_step : ∀ x0 x1 x2 x3 x4 x5 x6 x7 : Bool, ∀ k, k < 8 → synUp [x0, x1, x2, x3, x4, x5, x6, x7] (k + 1) = if [x0, x1, x2, x3, x4, x5, x6, x7].getD k false then synUp [x0, x1, x2, x3, x4, x5, x6, x7] k ^^^ k else synUp [x0, x1, x2, x3, x4, x5, x6, x7] k := by decide +kernel
theorem run_idx_arr {P : Program} (t e : TypeId) (n : Nat) (cs : Array Value) (k : Nat) (v : Value) (u : World) (h : P.underlying t = some (.array n e)) (hag : (isAgg e).run P u = .ok false u) (hs : (sizeOf e).run P u = .ok 1 u) (hk : k < n) (hv : cs[k]? = some v) :
    (Instr.index t (.agg cs) (.int .i64 (k : Int))).run P u = .ok v u := by
  have h0 : 0 ≤ (k : Int) ∧ (k : Int) < (n : Int) := by omega
  simp only [Instr.index, Sem.run_bind, run_underlying h, Result.andThen_ok, asIntOf, Sem.run_pure, if_pos h0, part, hag, hs]
  simp [hv, go_sem]
theorem agg_bool (u : World) : (isAgg 4).run Tryd.prog u = .ok false u := by kernel_rfl
theorem size_bool (u : World) : (sizeOf 4).run Tryd.prog u = .ok 1 u := by kernel_rfl
theorem idx_group (x0 x1 x2 x3 x4 x5 x6 x7 : Bool) (k : Nat) (v : Value) (hk : k < 8) (hv : (g8 x0 x1 x2 x3 x4 x5 x6 x7)[k]? = some v) (u : World) : (Instr.index 38 (.agg #[.bool x0, .bool x1, .bool x2, .bool x3, .bool x4, .bool x5, .bool x6, .bool x7]) (.int .i64 (k : Int))).run Tryd.prog u = .ok v u :=
  run_idx_arr _ 4 8 _ k v u Tryd.underlying38 (agg_bool u) (size_bool u) hk hv
set_option maxRecDepth 100000 in
set_option maxHeartbeats 4000000 in
theorem syndrome_any (x0 x1 x2 x3 x4 x5 x6 x7 : Bool) (w : World) :
    Calls Tryd.prog 33 #[.agg (g8 x0 x1 x2 x3 x4 x5 x6 x7)] w fun e w' => e = .returned (.int .i64 (synN [x0, x1, x2, x3, x4, x5, x6, x7] : Int)) ∧ Below w.heap.size w w' := by
  have hk := BK.new w (g8 x0 x1 x2 x3 x4 x5 x6 x7) 38
  have c0 := hk.cell (i := 0) rfl
  have c1 := hk.cell (i := 1) rfl
  have c2 := hk.cell (i := 2) rfl
  have c3 := hk.cell (i := 3) rfl
  have c4 := hk.cell (i := 4) rfl
  have c5 := hk.cell (i := 5) rfl
  have c6 := hk.cell (i := 6) rfl
  have c7 := hk.cell (i := 7) rfl
  clear hk
  go_enter Tryd.func33, Tryd.ntmps33
  go_wp2
  go_loop [3, 4, 5, 7] (fun n _ _ i => ∃ k : Nat, k ≤ 8 ∧ i = .int .i64 k ∧ n = .int .i64 (synUp [x0, x1, x2, x3, x4, x5, x6, x7] k : Int)) (fun _ _ _ i => 8 - (intOf i).toNat)
  case atStart => exact ⟨0, by omega, rfl, rfl⟩
  case round =>
    obtain ⟨k, hk, rfl, rfl⟩ := hrel
    have hlt := synN_lt x0 x1 x2 x3 x4 x5 x6 x7 k hk
    by_cases h8 : k < 8
    · have HS := Lib.hid (synUp_step x0 x1 x2 x3 x4 x5 x6 x7 k h8)
      obtain ⟨S, hS⟩ : ∃ S, synUp [x0, x1, x2, x3, x4, x5, x6, x7] k = S := ⟨_, rfl⟩
      rw [hS] at hlt HS ⊢
      clear hS
      rcases (show k = 0 ∨ k = 1 ∨ k = 2 ∨ k = 3 ∨ k = 4 ∨ k = 5 ∨ k = 6 ∨ k = 7 by omega) with rfl | rfl | rfl | rfl | rfl | rfl | rfl | rfl
      · have hx : bits .xor .i64 (S : Int) 0 = ((S ^^^ 0 : Nat) : Int) := bits_xor_i64_nat S 0 (by omega) (by omega)
        have hix : ∀ u : World, (Instr.index 38 (.agg #[.bool x0, .bool x1, .bool x2, .bool x3, .bool x4, .bool x5, .bool x6, .bool x7]) (.int .i64 0)).run Tryd.prog u = .ok (.bool x0) u := idx_group x0 x1 x2 x3 x4 x5 x6 x7 0 _ (by omega) rfl
        cases x0
        all_goals
          go_wp2
          go_round
          case rel => exact ⟨1, by omega, rfl, by rw [HS.out]; first | rfl | simp⟩
          case measure => simp [intOf]
      · have hx : bits .xor .i64 (S : Int) 1 = ((S ^^^ 1 : Nat) : Int) := bits_xor_i64_nat S 1 (by omega) (by omega)
        have hix : ∀ u : World, (Instr.index 38 (.agg #[.bool x0, .bool x1, .bool x2, .bool x3, .bool x4, .bool x5, .bool x6, .bool x7]) (.int .i64 1)).run Tryd.prog u = .ok (.bool x1) u := idx_group x0 x1 x2 x3 x4 x5 x6 x7 1 _ (by omega) rfl
        cases x1
        all_goals
          go_wp2
          go_round
          case rel => exact ⟨2, by omega, rfl, by rw [HS.out]; first | rfl | simp⟩
          case measure => simp [intOf]
      · have hx : bits .xor .i64 (S : Int) 2 = ((S ^^^ 2 : Nat) : Int) := bits_xor_i64_nat S 2 (by omega) (by omega)
        have hix : ∀ u : World, (Instr.index 38 (.agg #[.bool x0, .bool x1, .bool x2, .bool x3, .bool x4, .bool x5, .bool x6, .bool x7]) (.int .i64 2)).run Tryd.prog u = .ok (.bool x2) u := idx_group x0 x1 x2 x3 x4 x5 x6 x7 2 _ (by omega) rfl
        cases x2
        all_goals
          go_wp2
          go_round
          case rel => exact ⟨3, by omega, rfl, by rw [HS.out]; first | rfl | simp⟩
          case measure => simp [intOf]
      · have hx : bits .xor .i64 (S : Int) 3 = ((S ^^^ 3 : Nat) : Int) := bits_xor_i64_nat S 3 (by omega) (by omega)
        have hix : ∀ u : World, (Instr.index 38 (.agg #[.bool x0, .bool x1, .bool x2, .bool x3, .bool x4, .bool x5, .bool x6, .bool x7]) (.int .i64 3)).run Tryd.prog u = .ok (.bool x3) u := idx_group x0 x1 x2 x3 x4 x5 x6 x7 3 _ (by omega) rfl
        cases x3
        all_goals
          go_wp2
          go_round
          case rel => exact ⟨4, by omega, rfl, by rw [HS.out]; first | rfl | simp⟩
          case measure => simp [intOf]
      · have hx : bits .xor .i64 (S : Int) 4 = ((S ^^^ 4 : Nat) : Int) := bits_xor_i64_nat S 4 (by omega) (by omega)
        have hix : ∀ u : World, (Instr.index 38 (.agg #[.bool x0, .bool x1, .bool x2, .bool x3, .bool x4, .bool x5, .bool x6, .bool x7]) (.int .i64 4)).run Tryd.prog u = .ok (.bool x4) u := idx_group x0 x1 x2 x3 x4 x5 x6 x7 4 _ (by omega) rfl
        cases x4
        all_goals
          go_wp2
          go_round
          case rel => exact ⟨5, by omega, rfl, by rw [HS.out]; first | rfl | simp⟩
          case measure => simp [intOf]
      · have hx : bits .xor .i64 (S : Int) 5 = ((S ^^^ 5 : Nat) : Int) := bits_xor_i64_nat S 5 (by omega) (by omega)
        have hix : ∀ u : World, (Instr.index 38 (.agg #[.bool x0, .bool x1, .bool x2, .bool x3, .bool x4, .bool x5, .bool x6, .bool x7]) (.int .i64 5)).run Tryd.prog u = .ok (.bool x5) u := idx_group x0 x1 x2 x3 x4 x5 x6 x7 5 _ (by omega) rfl
        cases x5
        all_goals
          go_wp2
          go_round
          case rel => exact ⟨6, by omega, rfl, by rw [HS.out]; first | rfl | simp⟩
          case measure => simp [intOf]
      · have hx : bits .xor .i64 (S : Int) 6 = ((S ^^^ 6 : Nat) : Int) := bits_xor_i64_nat S 6 (by omega) (by omega)
        have hix : ∀ u : World, (Instr.index 38 (.agg #[.bool x0, .bool x1, .bool x2, .bool x3, .bool x4, .bool x5, .bool x6, .bool x7]) (.int .i64 6)).run Tryd.prog u = .ok (.bool x6) u := idx_group x0 x1 x2 x3 x4 x5 x6 x7 6 _ (by omega) rfl
        cases x6
        all_goals
          go_wp2
          go_round
          case rel => exact ⟨7, by omega, rfl, by rw [HS.out]; first | rfl | simp⟩
          case measure => simp [intOf]
      · have hx : bits .xor .i64 (S : Int) 7 = ((S ^^^ 7 : Nat) : Int) := bits_xor_i64_nat S 7 (by omega) (by omega)
        have hix : ∀ u : World, (Instr.index 38 (.agg #[.bool x0, .bool x1, .bool x2, .bool x3, .bool x4, .bool x5, .bool x6, .bool x7]) (.int .i64 7)).run Tryd.prog u = .ok (.bool x7) u := idx_group x0 x1 x2 x3 x4 x5 x6 x7 7 _ (by omega) rfl
        cases x7
        all_goals
          go_wp2
          go_round
          case rel => exact ⟨8, by omega, rfl, by rw [HS.out]; first | rfl | simp⟩
          case measure => simp [intOf]
    · obtain rfl : k = 8 := by omega
      go_wp2
      go_ret
      exact ⟨rfl, (Below.refl _ w).alloc (Nat.le_refl _) _⟩
end Go.Proofs.YtjnehfbeokpgpaaDoor
