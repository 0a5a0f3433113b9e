/- Groups in the model: HamPut. -/
import Derived.Test.YtjnehfbeokpgpaaDoorHamI
namespace Go.Proofs.YtjnehfbeokpgpaaDoor
open Go.ChangeShapes Go.WideShapes Go.ChangeAt Go.RowKit
/-- a bit as a number -/
def xi (b : Bool) : Int := if b then 1 else 0
theorem xi_xor (a b : Bool) : bits .xor .i64 (xi a) (xi b) = xi (a != b) := by cases a <;> cases b <;> rfl
theorem xi_le (a : Bool) : 0 ≤ xi a ∧ xi a ≤ 1 := by cases a <;> decide
theorem xi_of {b : UInt8} (h : b = 48 ∨ b = 49) : ((b.toNat : Int) - 48) % 256 = xi (decide (b = 49)) := by rcases h with rfl | rfl <;> rfl
theorem l12Bit_any (s : ByteArray) (i : Nat) (w : World) (hi : i < s.size) (hb : s[i] = 48 ∨ s[i] = 49) :
    Calls Tryd.prog 34 #[.string s, .int .i64 i] w fun e w' => e = .returned (.int .i64 (xi (decide (s[i] = 49)))) ∧ w = w' := by
  have hx := xi_of hb
  have hl := xi_le (decide (s[i] = 49))
  have HX := Lib.hid hx
  generalize decide (s[i] = 49) = x at *
  clear hx
  go_enter Tryd.func34, Tryd.ntmps34
  go_wp2
  go_ret
  refine ⟨?_, rfl⟩
  rw [← HX.out]
  rfl
set_option maxRecDepth 100000 in
set_option maxHeartbeats 16000000 in
theorem l12Block_any (s : ByteArray) (w : World) (hs : 4 ≤ s.size) (b0 : s[0] = 48 ∨ s[0] = 49) (b1 : s[1] = 48 ∨ s[1] = 49) (b2 : s[2] = 48 ∨ s[2] = 49) (b3 : s[3] = 48 ∨ s[3] = 49) :
    Calls Tryd.prog 23 #[.string s] w fun e w' => e = .returned (.string ⟨(ham7 s[0] s[1] s[2] s[3]).toArray⟩) ∧ Below w.heap.size w w' := by
  obtain ⟨i0, hi, hz0, hz1, hz2⟩ := info_parts info_u8
  have HI := Lib.hid hi
  have HZ0 := Lib.hid hz0
  have HZ1 := Lib.hid hz1
  have HZ2 := Lib.hid hz2
  have B0 := Lib.hid b0
  have B1 := Lib.hid b1
  have B2 := Lib.hid b2
  have B3 := Lib.hid b3
  have HQ := Lib.hid (show ham7 s[0] s[1] s[2] s[3] = [bitC (decide (s[0] = 49) != (decide (s[1] = 49) != decide (s[3] = 49))), bitC (decide (s[0] = 49) != (decide (s[2] = 49) != decide (s[3] = 49))), bitC (decide (s[0] = 49)), bitC (decide (s[1] = 49) != (decide (s[2] = 49) != decide (s[3] = 49))), bitC (decide (s[1] = 49)), bitC (decide (s[2] = 49)), bitC (decide (s[3] = 49))] by
    unfold ham7 x3
    have e : ∀ b : UInt8, b = 48 ∨ b = 49 → bitC (decide (b = 49)) = b := by rintro b (rfl | rfl) <;> rfl
    rw [e _ b0, e _ b1, e _ b2, e _ b3, Bool.bne_assoc, Bool.bne_assoc, Bool.bne_assoc])
  clear hi hz0 hz1 hz2 b0 b1 b2 b3
  go_enter Tryd.func23, Tryd.ntmps23
  go_wp2_with fail
  refine (l12Bit_any s 0 _ (by omega) B0.out).mono ?_
  rintro e w' ⟨rfl, rfl⟩
  go_wp2_with fail
  refine (l12Bit_any s 1 _ (by omega) B1.out).mono ?_
  rintro e w' ⟨rfl, rfl⟩
  go_wp2_with fail
  refine (l12Bit_any s 2 _ (by omega) B2.out).mono ?_
  rintro e w' ⟨rfl, rfl⟩
  go_wp2_with fail
  refine (l12Bit_any s 3 _ (by omega) B3.out).mono ?_
  rintro e w' ⟨rfl, rfl⟩
  generalize decide (s[0] = 49) = xa at *
  generalize decide (s[1] = 49) = xb at *
  generalize decide (s[2] = 49) = xc at *
  generalize decide (s[3] = 49) = xd at *
  have hxor := xi_xor
  go_wp2
  clear hxor
  generalize hq0 : (xa != (xb != xd)) = q0 at *
  generalize hq1 : (xa != (xc != xd)) = q1 at *
  generalize hq3 : (xb != (xc != xd)) = q3 at *
  clear hq0 hq1 hq3
  have HK0 := Lib.hid (BK.new w #[.int .i64 (xi q0), .int .i64 (xi q1), .int .i64 (xi xa), .int .i64 (xi q3), .int .i64 (xi xb), .int .i64 (xi xc), .int .i64 (xi xd)] 3)
  go_loopw [8, 9] (fun v i wr => ∃ k : Nat, k ≤ 7 ∧ i = .int .i64 k ∧ OB 5 wr (w.heap.size + 1) v ([bitC q0, bitC q1, bitC xa, bitC q3, bitC xb, bitC xc, bitC xd].take k) ∧ BK wr w.heap.size #[.int .i64 (xi q0), .int .i64 (xi q1), .int .i64 (xi xa), .int .i64 (xi q3), .int .i64 (xi xb), .int .i64 (xi xc), .int .i64 (xi xd)] 3 ∧ Below w.heap.size w wr ∧ w.heap.size + 1 ≤ wr.heap.size) (fun _ i _ => 7 - (intOf i).toNat)
  case atStart =>
    refine ⟨0, by omega, rfl, ?_, HK0.out.alloc _, ((Below.refl _ w).alloc (Nat.le_refl _) _).alloc (by simp) _, by simp⟩
    exact .inr ⟨w.heap.size + 1, 0, #[], (0, 0), rfl, Nat.le_refl _, by have := heap_alloc_new (w.alloc (.cells #[.int .i64 (xi q0), .int .i64 (xi q1), .int .i64 (xi xa), .int .i64 (xi q3), .int .i64 (xi xb), .int .i64 (xi xc), .int .i64 (xi xd)] 3)) (.cells #[] 5); rw [World.size_alloc] at this; exact this, .inl rfl, Nat.le_refl _, by simp [maxLen], rfl, rfl⟩
  case round =>
    obtain ⟨k, hk, rfl, hown, hbk, hb, hsz⟩ := hrel
    have HO := Lib.hid hown
    have HB := Lib.hid hb
    clear hown hb
    by_cases h7 : k < 7
    · rcases (show k = 0 ∨ k = 1 ∨ k = 2 ∨ k = 3 ∨ k = 4 ∨ k = 5 ∨ k = 6 by omega) with rfl | rfl | rfl | rfl | rfl | rfl | rfl
      · have c0 := hbk.cell (i := 0) rfl
        have HK := Lib.hid hbk
        have HO : Hid (OB 5 wr (w.heap.size + 1) u8 []) := Lib.hid HO.out
        obtain ⟨hx0, hx1⟩ := xi_le q0
        clear hbk
        go_wp2_with (at_builtin; refine wpList_append_OB _ rfl _ _ 22 rfl (w.heap.size + 1) 5 i0 Tryd.underlying22 HI.out HZ0.out HZ1.out HZ2.out _ [] rfl (HO.out.alloc _) ⟨wr.heap.size, 0, none⟩ 1 1 [bitC q0] rfl rfl (one_new wr _ _ _ (by cases q0 <;> rfl)) (by simp) (by simp; omega) ?_; intro v2 w2 hown2 hg2)
        go_roundw
        case rel =>
          refine ⟨1, by omega, rfl, hown2, (HK.out.alloc _).grown hg2 (fun e => by have := (HO.out.lt _ e).1; omega), (HB.out.alloc HB.out.size _).grown hg2 (by have := HB.out.size; simp; omega) (fun k hk => by have := (HO.out.lt k hk).1; omega), ?_⟩
          have := hg2.size; simp at this; omega
        case measure => simp [intOf]
      · have c0 := hbk.cell (i := 1) rfl
        have HK := Lib.hid hbk
        have HO : Hid (OB 5 wr (w.heap.size + 1) u8 [bitC q0]) := Lib.hid HO.out
        obtain ⟨hx0, hx1⟩ := xi_le q1
        clear hbk
        go_wp2_with (at_builtin; refine wpList_append_OB _ rfl _ _ 22 rfl (w.heap.size + 1) 5 i0 Tryd.underlying22 HI.out HZ0.out HZ1.out HZ2.out _ [bitC q0] rfl (HO.out.alloc _) ⟨wr.heap.size, 0, none⟩ 1 1 [bitC q1] rfl rfl (one_new wr _ _ _ (by cases q1 <;> rfl)) (by simp) (by simp; omega) ?_; intro v2 w2 hown2 hg2)
        go_roundw
        case rel =>
          refine ⟨2, by omega, rfl, hown2, (HK.out.alloc _).grown hg2 (fun e => by have := (HO.out.lt _ e).1; omega), (HB.out.alloc HB.out.size _).grown hg2 (by have := HB.out.size; simp; omega) (fun k hk => by have := (HO.out.lt k hk).1; omega), ?_⟩
          have := hg2.size; simp at this; omega
        case measure => simp [intOf]
      · have c0 := hbk.cell (i := 2) rfl
        have HK := Lib.hid hbk
        have HO : Hid (OB 5 wr (w.heap.size + 1) u8 [bitC q0, bitC q1]) := Lib.hid HO.out
        obtain ⟨hx0, hx1⟩ := xi_le xa
        clear hbk
        go_wp2_with (at_builtin; refine wpList_append_OB _ rfl _ _ 22 rfl (w.heap.size + 1) 5 i0 Tryd.underlying22 HI.out HZ0.out HZ1.out HZ2.out _ [bitC q0, bitC q1] rfl (HO.out.alloc _) ⟨wr.heap.size, 0, none⟩ 1 1 [bitC xa] rfl rfl (one_new wr _ _ _ (by cases xa <;> rfl)) (by simp) (by simp; omega) ?_; intro v2 w2 hown2 hg2)
        go_roundw
        case rel =>
          refine ⟨3, by omega, rfl, hown2, (HK.out.alloc _).grown hg2 (fun e => by have := (HO.out.lt _ e).1; omega), (HB.out.alloc HB.out.size _).grown hg2 (by have := HB.out.size; simp; omega) (fun k hk => by have := (HO.out.lt k hk).1; omega), ?_⟩
          have := hg2.size; simp at this; omega
        case measure => simp [intOf]
      · have c0 := hbk.cell (i := 3) rfl
        have HK := Lib.hid hbk
        have HO : Hid (OB 5 wr (w.heap.size + 1) u8 [bitC q0, bitC q1, bitC xa]) := Lib.hid HO.out
        obtain ⟨hx0, hx1⟩ := xi_le q3
        clear hbk
        go_wp2_with (at_builtin; refine wpList_append_OB _ rfl _ _ 22 rfl (w.heap.size + 1) 5 i0 Tryd.underlying22 HI.out HZ0.out HZ1.out HZ2.out _ [bitC q0, bitC q1, bitC xa] rfl (HO.out.alloc _) ⟨wr.heap.size, 0, none⟩ 1 1 [bitC q3] rfl rfl (one_new wr _ _ _ (by cases q3 <;> rfl)) (by simp) (by simp; omega) ?_; intro v2 w2 hown2 hg2)
        go_roundw
        case rel =>
          refine ⟨4, by omega, rfl, hown2, (HK.out.alloc _).grown hg2 (fun e => by have := (HO.out.lt _ e).1; omega), (HB.out.alloc HB.out.size _).grown hg2 (by have := HB.out.size; simp; omega) (fun k hk => by have := (HO.out.lt k hk).1; omega), ?_⟩
          have := hg2.size; simp at this; omega
        case measure => simp [intOf]
      · have c0 := hbk.cell (i := 4) rfl
        have HK := Lib.hid hbk
        have HO : Hid (OB 5 wr (w.heap.size + 1) u8 [bitC q0, bitC q1, bitC xa, bitC q3]) := Lib.hid HO.out
        obtain ⟨hx0, hx1⟩ := xi_le xb
        clear hbk
        go_wp2_with (at_builtin; refine wpList_append_OB _ rfl _ _ 22 rfl (w.heap.size + 1) 5 i0 Tryd.underlying22 HI.out HZ0.out HZ1.out HZ2.out _ [bitC q0, bitC q1, bitC xa, bitC q3] rfl (HO.out.alloc _) ⟨wr.heap.size, 0, none⟩ 1 1 [bitC xb] rfl rfl (one_new wr _ _ _ (by cases xb <;> rfl)) (by simp) (by simp; omega) ?_; intro v2 w2 hown2 hg2)
        go_roundw
        case rel =>
          refine ⟨5, by omega, rfl, hown2, (HK.out.alloc _).grown hg2 (fun e => by have := (HO.out.lt _ e).1; omega), (HB.out.alloc HB.out.size _).grown hg2 (by have := HB.out.size; simp; omega) (fun k hk => by have := (HO.out.lt k hk).1; omega), ?_⟩
          have := hg2.size; simp at this; omega
        case measure => simp [intOf]
      · have c0 := hbk.cell (i := 5) rfl
        have HK := Lib.hid hbk
        have HO : Hid (OB 5 wr (w.heap.size + 1) u8 [bitC q0, bitC q1, bitC xa, bitC q3, bitC xb]) := Lib.hid HO.out
        obtain ⟨hx0, hx1⟩ := xi_le xc
        clear hbk
        go_wp2_with (at_builtin; refine wpList_append_OB _ rfl _ _ 22 rfl (w.heap.size + 1) 5 i0 Tryd.underlying22 HI.out HZ0.out HZ1.out HZ2.out _ [bitC q0, bitC q1, bitC xa, bitC q3, bitC xb] rfl (HO.out.alloc _) ⟨wr.heap.size, 0, none⟩ 1 1 [bitC xc] rfl rfl (one_new wr _ _ _ (by cases xc <;> rfl)) (by simp) (by simp; omega) ?_; intro v2 w2 hown2 hg2)
        go_roundw
        case rel =>
          refine ⟨6, by omega, rfl, hown2, (HK.out.alloc _).grown hg2 (fun e => by have := (HO.out.lt _ e).1; omega), (HB.out.alloc HB.out.size _).grown hg2 (by have := HB.out.size; simp; omega) (fun k hk => by have := (HO.out.lt k hk).1; omega), ?_⟩
          have := hg2.size; simp at this; omega
        case measure => simp [intOf]
      · have c0 := hbk.cell (i := 6) rfl
        have HK := Lib.hid hbk
        have HO : Hid (OB 5 wr (w.heap.size + 1) u8 [bitC q0, bitC q1, bitC xa, bitC q3, bitC xb, bitC xc]) := Lib.hid HO.out
        obtain ⟨hx0, hx1⟩ := xi_le xd
        clear hbk
        go_wp2_with (at_builtin; refine wpList_append_OB _ rfl _ _ 22 rfl (w.heap.size + 1) 5 i0 Tryd.underlying22 HI.out HZ0.out HZ1.out HZ2.out _ [bitC q0, bitC q1, bitC xa, bitC q3, bitC xb, bitC xc] rfl (HO.out.alloc _) ⟨wr.heap.size, 0, none⟩ 1 1 [bitC xd] rfl rfl (one_new wr _ _ _ (by cases xd <;> rfl)) (by simp) (by simp; omega) ?_; intro v2 w2 hown2 hg2)
        go_roundw
        case rel =>
          refine ⟨7, by omega, rfl, hown2, (HK.out.alloc _).grown hg2 (fun e => by have := (HO.out.lt _ e).1; omega), (HB.out.alloc HB.out.size _).grown hg2 (by have := HB.out.size; simp; omega) (fun k hk => by have := (HO.out.lt k hk).1; omega), ?_⟩
          have := hg2.size; simp at this; omega
        case measure => simp [intOf]
    · obtain rfl : k = 7 := by omega
      go_wp2_with (refine wpList_string_of_OB _ rfl 22 9 5 _ rfl (w.heap.size + 1) _ _ rfl Tryd.underlying22 Tryd.underlying5 Tryd.underlying9 HO.out ?_)
      go_ret
      exact ⟨by rw [HQ.out]; rfl, HB.out⟩
end Go.Proofs.YtjnehfbeokpgpaaDoor
