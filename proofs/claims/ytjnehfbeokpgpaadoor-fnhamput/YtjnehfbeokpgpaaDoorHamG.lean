/- A group of bits: its data, in the program. -/
import Derived.Test.YtjnehfbeokpgpaaDoorHamF
namespace Go.Proofs.YtjnehfbeokpgpaaDoor
open Go.ChangeShapes Go.WideShapes Go.ChangeAt Go.RowKit
set_option maxRecDepth 100000 in
set_option maxHeartbeats 16000000 in
theorem data_any (x0 x1 x2 x3 x4 x5 x6 x7 : Bool) (w : World) (hdp : DP w) :
    Calls Tryd.prog 26 #[.agg (g8 x0 x1 x2 x3 x4 x5 x6 x7)] w (RowPost w [bitC x3, bitC x5, bitC x6, bitC x7]) := by
  obtain ⟨i0, hi, hz0, hz1, hz2⟩ := info_parts info_u8
  have HI := Lib.hid hi
  have HZ0 := Lib.hid hz0
  have HZ1 := Lib.hid hz1
  have HZ2 := Lib.hid hz2
  have HK0 := Lib.hid (BK.new w (g8 x0 x1 x2 x3 x4 x5 x6 x7) 38)
  obtain ⟨_, d0, d1, d2, d3⟩ := hdp.from ((Below.refl _ w).alloc (Nat.le_refl _) (.cells (g8 x0 x1 x2 x3 x4 x5 x6 x7) 38))
  clear hi hz0 hz1 hz2 hdp
  go_enter Tryd.func26, Tryd.ntmps26
  go_wp2
  clear d0 d1 d2 d3
  go_loopw [3, 5, 7] (fun v _ i wr => ∃ k : Nat, k ≤ 4 ∧ i = .int .i64 k ∧ OB 5 wr (w.heap.size + 1) v ([bitC x3, bitC x5, bitC x6, bitC x7].take k) ∧ BK wr w.heap.size (g8 x0 x1 x2 x3 x4 x5 x6 x7) 38 ∧ Below w.heap.size w wr ∧ w.heap.size + 1 ≤ wr.heap.size) (fun _ _ i _ => 4 - (intOf i).toNat)
  case atStart => exact ⟨0, by omega, rfl, OB.nil _ _ _, HK0.out, (Below.refl _ w).alloc (Nat.le_refl _) _, by simp⟩
  case round =>
    obtain ⟨k, hk, rfl, hown, hbk, hb, hsz⟩ := hrel
    have HO := Lib.hid hown
    have HB := Lib.hid hb
    clear hown hb
    by_cases h4 : k < 4
    · rcases (show k = 0 ∨ k = 1 ∨ k = 2 ∨ k = 3 by omega) with rfl | rfl | rfl | rfl
      · have c0 := hbk.cell (i := 3) rfl
        have hix : ∀ u : World, (Instr.index 51 (.agg #[.int .i64 3, .int .i64 5, .int .i64 6, .int .i64 7]) (.int .i64 0)).run Tryd.prog u = .ok (.int .i64 3) u := idx_place 0 _ (by omega) rfl
        have HK := Lib.hid hbk
        have HO : Hid (OB 5 wr (w.heap.size + 1) u3 []) := Lib.hid HO.out
        clear hbk
        go_wp2_with (first | (go_at_call 27; refine (hbit_any _ _).mono ?_; rintro e w' ⟨rfl, rfl⟩) | (at_builtin; refine wpList_append_OB _ rfl _ _ 22 rfl (w.heap.size + 1) 5 i0 Tryd.underlying22 HI.out HZ0.out HZ1.out HZ2.out _ [] rfl (HO.out.alloc _) ⟨wr.heap.size, 0, none⟩ 1 1 [bitC x3] rfl rfl (one_new wr _ _ _ rfl) (by simp) (by simp; omega) ?_; intro v2 w2 hown2 hg2))
        go_roundw
        case rel =>
          refine ⟨1, by omega, rfl, hown2, (HK.out.alloc _).grown hg2 (fun e => by have := (HO.out.lt _ e).1; omega), (HB.out.alloc HB.out.size _).grown hg2 (by have := HB.out.size; simp; omega) (fun k hk => by have := (HO.out.lt k hk).1; omega), ?_⟩
          have := hg2.size; simp at this; omega
        case measure => simp [intOf]
      · have c0 := hbk.cell (i := 5) rfl
        have hix : ∀ u : World, (Instr.index 51 (.agg #[.int .i64 3, .int .i64 5, .int .i64 6, .int .i64 7]) (.int .i64 1)).run Tryd.prog u = .ok (.int .i64 5) u := idx_place 1 _ (by omega) rfl
        have HK := Lib.hid hbk
        have HO : Hid (OB 5 wr (w.heap.size + 1) u3 [bitC x3]) := Lib.hid HO.out
        clear hbk
        go_wp2_with (first | (go_at_call 27; refine (hbit_any _ _).mono ?_; rintro e w' ⟨rfl, rfl⟩) | (at_builtin; refine wpList_append_OB _ rfl _ _ 22 rfl (w.heap.size + 1) 5 i0 Tryd.underlying22 HI.out HZ0.out HZ1.out HZ2.out _ [bitC x3] rfl (HO.out.alloc _) ⟨wr.heap.size, 0, none⟩ 1 1 [bitC x5] rfl rfl (one_new wr _ _ _ rfl) (by simp) (by simp; omega) ?_; intro v2 w2 hown2 hg2))
        go_roundw
        case rel =>
          refine ⟨2, by omega, rfl, hown2, (HK.out.alloc _).grown hg2 (fun e => by have := (HO.out.lt _ e).1; omega), (HB.out.alloc HB.out.size _).grown hg2 (by have := HB.out.size; simp; omega) (fun k hk => by have := (HO.out.lt k hk).1; omega), ?_⟩
          have := hg2.size; simp at this; omega
        case measure => simp [intOf]
      · have c0 := hbk.cell (i := 6) rfl
        have hix : ∀ u : World, (Instr.index 51 (.agg #[.int .i64 3, .int .i64 5, .int .i64 6, .int .i64 7]) (.int .i64 2)).run Tryd.prog u = .ok (.int .i64 6) u := idx_place 2 _ (by omega) rfl
        have HK := Lib.hid hbk
        have HO : Hid (OB 5 wr (w.heap.size + 1) u3 [bitC x3, bitC x5]) := Lib.hid HO.out
        clear hbk
        go_wp2_with (first | (go_at_call 27; refine (hbit_any _ _).mono ?_; rintro e w' ⟨rfl, rfl⟩) | (at_builtin; refine wpList_append_OB _ rfl _ _ 22 rfl (w.heap.size + 1) 5 i0 Tryd.underlying22 HI.out HZ0.out HZ1.out HZ2.out _ [bitC x3, bitC x5] rfl (HO.out.alloc _) ⟨wr.heap.size, 0, none⟩ 1 1 [bitC x6] rfl rfl (one_new wr _ _ _ rfl) (by simp) (by simp; omega) ?_; intro v2 w2 hown2 hg2))
        go_roundw
        case rel =>
          refine ⟨3, by omega, rfl, hown2, (HK.out.alloc _).grown hg2 (fun e => by have := (HO.out.lt _ e).1; omega), (HB.out.alloc HB.out.size _).grown hg2 (by have := HB.out.size; simp; omega) (fun k hk => by have := (HO.out.lt k hk).1; omega), ?_⟩
          have := hg2.size; simp at this; omega
        case measure => simp [intOf]
      · have c0 := hbk.cell (i := 7) rfl
        have hix : ∀ u : World, (Instr.index 51 (.agg #[.int .i64 3, .int .i64 5, .int .i64 6, .int .i64 7]) (.int .i64 3)).run Tryd.prog u = .ok (.int .i64 7) u := idx_place 3 _ (by omega) rfl
        have HK := Lib.hid hbk
        have HO : Hid (OB 5 wr (w.heap.size + 1) u3 [bitC x3, bitC x5, bitC x6]) := Lib.hid HO.out
        clear hbk
        go_wp2_with (first | (go_at_call 27; refine (hbit_any _ _).mono ?_; rintro e w' ⟨rfl, rfl⟩) | (at_builtin; refine wpList_append_OB _ rfl _ _ 22 rfl (w.heap.size + 1) 5 i0 Tryd.underlying22 HI.out HZ0.out HZ1.out HZ2.out _ [bitC x3, bitC x5, bitC x6] rfl (HO.out.alloc _) ⟨wr.heap.size, 0, none⟩ 1 1 [bitC x7] rfl rfl (one_new wr _ _ _ rfl) (by simp) (by simp; omega) ?_; intro v2 w2 hown2 hg2))
        go_roundw
        case rel =>
          refine ⟨4, by omega, rfl, hown2, (HK.out.alloc _).grown hg2 (fun e => by have := (HO.out.lt _ e).1; omega), (HB.out.alloc HB.out.size _).grown hg2 (by have := HB.out.size; simp; omega) (fun k hk => by have := (HO.out.lt k hk).1; omega), ?_⟩
          have := hg2.size; simp at this; omega
        case measure => simp [intOf]
    · obtain rfl : k = 4 := by omega
      go_wp2
      go_ret
      exact ⟨_, rfl, HO.out.mono (by omega), HB.out⟩
end Go.Proofs.YtjnehfbeokpgpaaDoor
