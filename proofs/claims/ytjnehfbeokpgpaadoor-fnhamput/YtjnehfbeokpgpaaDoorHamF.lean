/- A group of bits: all its bits, in the program. -/
import Derived.Test.YtjnehfbeokpgpaaDoorHamE
namespace Go.Proofs.YtjnehfbeokpgpaaDoor
open Go.ChangeShapes Go.WideShapes Go.ChangeAt Go.RowKit
/-- a row of bytes of the call's own -/
def RowPost (w : World) (l : List UInt8) (e : Ending) (w' : World) : Prop := ∃ v, e = .returned v ∧ OB 5 w' w.heap.size v l ∧ Below w.heap.size w w'
set_option maxRecDepth 100000 in
set_option maxHeartbeats 16000000 in
theorem code_any (x0 x1 x2 x3 x4 x5 x6 x7 : Bool) (w : World) :
    Calls Tryd.prog 21 #[.agg (g8 x0 x1 x2 x3 x4 x5 x6 x7)] w (RowPost w [bitC x1, bitC x2, bitC x3, bitC x4, bitC x5, bitC x6, bitC x7]) := by
  obtain ⟨i0, hi, hz0, hz1, hz2⟩ := info_parts info_u8
  have HI := Lib.hid hi
  have HZ0 := Lib.hid hz0
  have HZ1 := Lib.hid hz1
  have HZ2 := Lib.hid hz2
  have HK0 := Lib.hid (BK.new w (g8 x0 x1 x2 x3 x4 x5 x6 x7) 38)
  clear hi hz0 hz1 hz2
  go_enter Tryd.func21, Tryd.ntmps21
  go_wp2
  go_loopw [3, 5, 8] (fun v _ i wr => ∃ k : Nat, k ≤ 7 ∧ i = .int .i64 k ∧ OB 5 wr (w.heap.size + 1) v ([bitC x1, bitC x2, bitC x3, bitC x4, bitC x5, bitC x6, bitC x7].take k) ∧ BK wr w.heap.size (g8 x0 x1 x2 x3 x4 x5 x6 x7) 38 ∧ Below w.heap.size w wr ∧ w.heap.size + 1 ≤ wr.heap.size) (fun _ _ i _ => 7 - (intOf i).toNat)
  case atStart => exact ⟨0, by omega, rfl, OB.nil _ _ _, HK0.out, (Below.refl _ w).alloc (Nat.le_refl _) _, by simp⟩
  case round =>
    obtain ⟨k, hk, rfl, hown, hbk, hb, hsz⟩ := hrel
    have HO := Lib.hid hown
    have HB := Lib.hid hb
    clear hown hb
    by_cases h7 : k < 7
    · rcases (show k = 0 ∨ k = 1 ∨ k = 2 ∨ k = 3 ∨ k = 4 ∨ k = 5 ∨ k = 6 by omega) with rfl | rfl | rfl | rfl | rfl | rfl | rfl
      · have c0 := hbk.cell (i := 1) rfl
        have HK := Lib.hid hbk
        have HO : Hid (OB 5 wr (w.heap.size + 1) u3 []) := Lib.hid HO.out
        clear hbk
        go_wp2_with (first | (go_at_call 27; refine (hbit_any _ _).mono ?_; rintro e w' ⟨rfl, rfl⟩) | (at_builtin; refine wpList_append_OB _ rfl _ _ 22 rfl (w.heap.size + 1) 5 i0 Tryd.underlying22 HI.out HZ0.out HZ1.out HZ2.out _ [] rfl (HO.out.alloc _) ⟨wr.heap.size, 0, none⟩ 1 1 [bitC x1] rfl rfl (one_new wr _ _ _ rfl) (by simp) (by simp; omega) ?_; intro v2 w2 hown2 hg2))
        go_roundw
        case rel =>
          refine ⟨1, by omega, rfl, hown2, (HK.out.alloc _).grown hg2 (fun e => by have := (HO.out.lt _ e).1; omega), (HB.out.alloc HB.out.size _).grown hg2 (by have := HB.out.size; simp; omega) (fun k hk => by have := (HO.out.lt k hk).1; omega), ?_⟩
          have := hg2.size; simp at this; omega
        case measure => simp [intOf]
      · have c0 := hbk.cell (i := 2) rfl
        have HK := Lib.hid hbk
        have HO : Hid (OB 5 wr (w.heap.size + 1) u3 [bitC x1]) := Lib.hid HO.out
        clear hbk
        go_wp2_with (first | (go_at_call 27; refine (hbit_any _ _).mono ?_; rintro e w' ⟨rfl, rfl⟩) | (at_builtin; refine wpList_append_OB _ rfl _ _ 22 rfl (w.heap.size + 1) 5 i0 Tryd.underlying22 HI.out HZ0.out HZ1.out HZ2.out _ [bitC x1] rfl (HO.out.alloc _) ⟨wr.heap.size, 0, none⟩ 1 1 [bitC x2] rfl rfl (one_new wr _ _ _ rfl) (by simp) (by simp; omega) ?_; intro v2 w2 hown2 hg2))
        go_roundw
        case rel =>
          refine ⟨2, by omega, rfl, hown2, (HK.out.alloc _).grown hg2 (fun e => by have := (HO.out.lt _ e).1; omega), (HB.out.alloc HB.out.size _).grown hg2 (by have := HB.out.size; simp; omega) (fun k hk => by have := (HO.out.lt k hk).1; omega), ?_⟩
          have := hg2.size; simp at this; omega
        case measure => simp [intOf]
      · have c0 := hbk.cell (i := 3) rfl
        have HK := Lib.hid hbk
        have HO : Hid (OB 5 wr (w.heap.size + 1) u3 [bitC x1, bitC x2]) := Lib.hid HO.out
        clear hbk
        go_wp2_with (first | (go_at_call 27; refine (hbit_any _ _).mono ?_; rintro e w' ⟨rfl, rfl⟩) | (at_builtin; refine wpList_append_OB _ rfl _ _ 22 rfl (w.heap.size + 1) 5 i0 Tryd.underlying22 HI.out HZ0.out HZ1.out HZ2.out _ [bitC x1, bitC x2] rfl (HO.out.alloc _) ⟨wr.heap.size, 0, none⟩ 1 1 [bitC x3] rfl rfl (one_new wr _ _ _ rfl) (by simp) (by simp; omega) ?_; intro v2 w2 hown2 hg2))
        go_roundw
        case rel =>
          refine ⟨3, by omega, rfl, hown2, (HK.out.alloc _).grown hg2 (fun e => by have := (HO.out.lt _ e).1; omega), (HB.out.alloc HB.out.size _).grown hg2 (by have := HB.out.size; simp; omega) (fun k hk => by have := (HO.out.lt k hk).1; omega), ?_⟩
          have := hg2.size; simp at this; omega
        case measure => simp [intOf]
      · have c0 := hbk.cell (i := 4) rfl
        have HK := Lib.hid hbk
        have HO : Hid (OB 5 wr (w.heap.size + 1) u3 [bitC x1, bitC x2, bitC x3]) := Lib.hid HO.out
        clear hbk
        go_wp2_with (first | (go_at_call 27; refine (hbit_any _ _).mono ?_; rintro e w' ⟨rfl, rfl⟩) | (at_builtin; refine wpList_append_OB _ rfl _ _ 22 rfl (w.heap.size + 1) 5 i0 Tryd.underlying22 HI.out HZ0.out HZ1.out HZ2.out _ [bitC x1, bitC x2, bitC x3] rfl (HO.out.alloc _) ⟨wr.heap.size, 0, none⟩ 1 1 [bitC x4] rfl rfl (one_new wr _ _ _ rfl) (by simp) (by simp; omega) ?_; intro v2 w2 hown2 hg2))
        go_roundw
        case rel =>
          refine ⟨4, by omega, rfl, hown2, (HK.out.alloc _).grown hg2 (fun e => by have := (HO.out.lt _ e).1; omega), (HB.out.alloc HB.out.size _).grown hg2 (by have := HB.out.size; simp; omega) (fun k hk => by have := (HO.out.lt k hk).1; omega), ?_⟩
          have := hg2.size; simp at this; omega
        case measure => simp [intOf]
      · have c0 := hbk.cell (i := 5) rfl
        have HK := Lib.hid hbk
        have HO : Hid (OB 5 wr (w.heap.size + 1) u3 [bitC x1, bitC x2, bitC x3, bitC x4]) := Lib.hid HO.out
        clear hbk
        go_wp2_with (first | (go_at_call 27; refine (hbit_any _ _).mono ?_; rintro e w' ⟨rfl, rfl⟩) | (at_builtin; refine wpList_append_OB _ rfl _ _ 22 rfl (w.heap.size + 1) 5 i0 Tryd.underlying22 HI.out HZ0.out HZ1.out HZ2.out _ [bitC x1, bitC x2, bitC x3, bitC x4] rfl (HO.out.alloc _) ⟨wr.heap.size, 0, none⟩ 1 1 [bitC x5] rfl rfl (one_new wr _ _ _ rfl) (by simp) (by simp; omega) ?_; intro v2 w2 hown2 hg2))
        go_roundw
        case rel =>
          refine ⟨5, by omega, rfl, hown2, (HK.out.alloc _).grown hg2 (fun e => by have := (HO.out.lt _ e).1; omega), (HB.out.alloc HB.out.size _).grown hg2 (by have := HB.out.size; simp; omega) (fun k hk => by have := (HO.out.lt k hk).1; omega), ?_⟩
          have := hg2.size; simp at this; omega
        case measure => simp [intOf]
      · have c0 := hbk.cell (i := 6) rfl
        have HK := Lib.hid hbk
        have HO : Hid (OB 5 wr (w.heap.size + 1) u3 [bitC x1, bitC x2, bitC x3, bitC x4, bitC x5]) := Lib.hid HO.out
        clear hbk
        go_wp2_with (first | (go_at_call 27; refine (hbit_any _ _).mono ?_; rintro e w' ⟨rfl, rfl⟩) | (at_builtin; refine wpList_append_OB _ rfl _ _ 22 rfl (w.heap.size + 1) 5 i0 Tryd.underlying22 HI.out HZ0.out HZ1.out HZ2.out _ [bitC x1, bitC x2, bitC x3, bitC x4, bitC x5] rfl (HO.out.alloc _) ⟨wr.heap.size, 0, none⟩ 1 1 [bitC x6] rfl rfl (one_new wr _ _ _ rfl) (by simp) (by simp; omega) ?_; intro v2 w2 hown2 hg2))
        go_roundw
        case rel =>
          refine ⟨6, by omega, rfl, hown2, (HK.out.alloc _).grown hg2 (fun e => by have := (HO.out.lt _ e).1; omega), (HB.out.alloc HB.out.size _).grown hg2 (by have := HB.out.size; simp; omega) (fun k hk => by have := (HO.out.lt k hk).1; omega), ?_⟩
          have := hg2.size; simp at this; omega
        case measure => simp [intOf]
      · have c0 := hbk.cell (i := 7) rfl
        have HK := Lib.hid hbk
        have HO : Hid (OB 5 wr (w.heap.size + 1) u3 [bitC x1, bitC x2, bitC x3, bitC x4, bitC x5, bitC x6]) := Lib.hid HO.out
        clear hbk
        go_wp2_with (first | (go_at_call 27; refine (hbit_any _ _).mono ?_; rintro e w' ⟨rfl, rfl⟩) | (at_builtin; refine wpList_append_OB _ rfl _ _ 22 rfl (w.heap.size + 1) 5 i0 Tryd.underlying22 HI.out HZ0.out HZ1.out HZ2.out _ [bitC x1, bitC x2, bitC x3, bitC x4, bitC x5, bitC x6] rfl (HO.out.alloc _) ⟨wr.heap.size, 0, none⟩ 1 1 [bitC x7] rfl rfl (one_new wr _ _ _ rfl) (by simp) (by simp; omega) ?_; intro v2 w2 hown2 hg2))
        go_roundw
        case rel =>
          refine ⟨7, by omega, rfl, hown2, (HK.out.alloc _).grown hg2 (fun e => by have := (HO.out.lt _ e).1; omega), (HB.out.alloc HB.out.size _).grown hg2 (by have := HB.out.size; simp; omega) (fun k hk => by have := (HO.out.lt k hk).1; omega), ?_⟩
          have := hg2.size; simp at this; omega
        case measure => simp [intOf]
    · obtain rfl : k = 7 := by omega
      go_wp2
      go_ret
      exact ⟨_, rfl, HO.out.mono (by omega), HB.out⟩
end Go.Proofs.YtjnehfbeokpgpaaDoor
