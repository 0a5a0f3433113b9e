/- Parts of a proof, 12: LnC LnD LnE FEvK MarkS LnF. -/
import Derived.SliceStrings
import Derived.Deep.RegionWith
import Derived.Deep.RegionHeld3
import Derived.Test.YtmggoiabcboaiaaGreatZc1
import Derived.Test.YtmggoiabcboaiaaGreatZc2
import Derived.Test.YtmggoiabcboaiaaGreatZc3
import Derived.Test.YtmggoiabcboaiaaGreatZc4
import Derived.Test.YtmggoiabcboaiaaGreatZc5
import Derived.Test.YtmggoiabcboaiaaGreatZc6
import Derived.Test.YtmggoiabcboaiaaGreatZc7
import Derived.Test.YtmggoiabcboaiaaGreatZc8
import Derived.Test.YtmggoiabcboaiaaGreatZc9
import Derived.Test.YtmggoiabcboaiaaGreatZc10
import Derived.Test.YtmggoiabcboaiaaGreatZc11
namespace Go.Proofs.YtmggoiabcboaiaaGreat
open Go.ChangeShapes Go.WideShapes Go.ChangeAt Go.RowKit
def SzN (w : World) (ok : Prop) (y : Nat) (e : Ending) (w' : World) : Prop := ∃ x : Int, e = .returned (.int .i64 x) ∧ Below w.heap.size w w' ∧ (x = -1 ∨ (0 ≤ x ∧ x ≤ (y : Int) ∧ ok))
def smallS (ss : List ByteArray) : Prop := ss.length ≤ 1048576 ∧ ∀ s ∈ ss, s.size ≤ 1048576
set_option maxRecDepth 100000 in
set_option maxHeartbeats 1000000 in
theorem szS_any (v : Value) (ss : List ByteArray) (y0 : Nat) (w : World) (B : Nat) (h : RS w B v ss) (hy0 : y0 ≤ 1048576) (hl : ss.length ≤ maxLen) (hz : ∀ s ∈ ss, s.size ≤ maxLen) :
  Calls Tryz.prog 21 #[v, .int .i64 y0] w (SzN w (smallS ss) y0) := by
 unfold maxLen at hl hz
 obtain ⟨a, cap, rfl⟩ := h.shape
 have H := Lib.hid h
 have HZ := Lib.hid hz
 clear h hz
 by_cases hbig : y0 < ss.length
 ·go_enter Tryz.func21, Tryz.ntmps21
  go_wp2
  go_ret
  exact ⟨_, rfl, Below.refl _ _, .inl rfl⟩
 have hsm : ss.length ≤ y0 := by omega
 clear hbig
 go_enter Tryz.func21, Tryz.ntmps21
 go_wp2
 go_loop [1, 5] (fun q j => ∃ (k y : Nat), k ≤ ss.length ∧ j = .int .i64 k ∧ q = .int .i64 y ∧ y ≤ y0 ∧ ∀ s ∈ ss.take k, s.size ≤ 1048576) (fun _ j => ss.length - (intOf j).toNat)
 case atStart => exact ⟨0, y0 - ss.length, Nat.zero_le _, rfl, val_int (by omega), by omega, fun s hs => by simp at hs⟩
 case round =>
  obtain ⟨k, y, hk, rfl, rfl, hy, hall⟩ := hrel
  have HA := Lib.hid hall
  clear hall
  by_cases hlt : k < ss.length
  ·obtain ⟨x, rfl, _, c0⟩ := H.out.at_ hlt
   have hsz := HZ.out ss[k] (List.getElem_mem _)
   have HT := Lib.hid (show ss.take (k + 1) = ss.take k ++ [ss[k]] from List.take_succ_eq_append_getElem hlt)
   generalize ss[k] = t at *
   by_cases hn : y < t.size
   ·go_wp2
    go_ret
    exact ⟨_, rfl, Below.refl _ _, .inl rfl⟩
   ·go_wp2
    go_round
    case rel =>
     refine ⟨k + 1, y - t.size, by omega, by go_num, val_int (by omega), by omega, fun s hs => ?_⟩
     rw [HT.out, List.mem_append] at hs
     rcases hs with hs | hs
     ·exact HA.out s hs
     ·rw [List.mem_singleton.1 hs]; omega
    case measure => simp [intOf]; omega
  ·go_wp2
   go_ret
   refine ⟨_, rfl, Below.refl _ _, .inr ⟨by omega, by omega, by omega, fun s hs => HA.out s ?_⟩⟩
   rw [List.take_of_length_le (by omega)]; exact hs
theorem szFindN_any (s : ByteArray) (o : Bool) (y : Nat) (w : World) (hy : y ≤ 1048576) (hs : s.size ≤ maxLen) :
  Calls Tryz.prog 60 #[fdV s o, .int .i64 y] w (SzN w (s.size ≤ 1048576) y) := by
 unfold maxLen at hs
 by_cases h : y < s.size
 ·go_enter Tryz.func60, Tryz.ntmps60
  go_wp2
  go_ret
  exact ⟨_, rfl, (Below.refl _ _).alloc (Nat.le_refl _) _, .inl rfl⟩
 ·go_enter Tryz.func60, Tryz.ntmps60
  go_wp2
  go_ret
  exact ⟨_, rfl, (Below.refl _ _).alloc (Nat.le_refl _) _, .inr ⟨by omega, by omega, by omega⟩⟩
def RL (W : World) (B : Nat) (vm : Value) (ms : List ByteArray) (vg : Value) (gs : List ByteArray) (vt : Value) (ts : List ByteArray) (vb : Value) (bs : List ByteArray) : Prop := RS W B vm ms ∧ RS W B vg gs ∧ RS W B vt ts ∧ RS W B vb bs
theorem RL.below {W W' : World} {B : Nat} {vm vg vt vb : Value} {ms gs ts bs : List ByteArray} (h : RL W B vm ms vg gs vt ts vb bs) (hb : Below B W W') : RL W' B vm ms vg gs vt ts vb bs := ⟨h.1.below hb, h.2.1.below hb, h.2.2.1.below hb, h.2.2.2.below hb⟩
theorem RL.mono {W : World} {B B' : Nat} {vm vg vt vb : Value} {ms gs ts bs : List ByteArray} (h : RL W B vm ms vg gs vt ts vb bs) (hB : B ≤ B') : RL W B' vm ms vg gs vt ts vb bs := ⟨h.1.mono hB, h.2.1.mono hB, h.2.2.1.mono hB, h.2.2.2.mono hB⟩
def wideS (ss : List ByteArray) : Prop := ss.length ≤ maxLen ∧ ∀ s ∈ ss, s.size ≤ maxLen
def smallLn (ms gs : List ByteArray) (T H : ByteArray) (ts bs : List ByteArray) : Prop := smallS ms ∧ smallS gs ∧ T.size ≤ 1048576 ∧ H.size ≤ 1048576 ∧ smallS ts ∧ smallS bs
set_option maxRecDepth 100000 in
set_option maxHeartbeats 4000000 in
theorem szLine_any (a b d m : Int) (vm : Value) (ms : List ByteArray) (nx : Int) (vg : Value) (gs : List ByteArray) (T : ByteArray) (to : Bool) (H : ByteArray) (ho : Bool) (vt : Value) (ts : List ByteArray) (vb : Value) (bs : List ByteArray) (w : World) (h : RL w w.heap.size vm ms vg gs vt ts vb bs) (hm : wideS ms) (hg : wideS gs) (hT : T.size ≤ maxLen) (hH : H.size ≤ maxLen) (ht : wideS ts) (hb : wideS bs) :
  Calls Tryz.prog 32 #[lnV a b d m vm nx vg T to H ho vt vb, .int .i64 1048576] w (SzN w (smallLn ms gs T H ts bs) 1048576) := by
 have HB := Lib.hid ((Below.refl _ w).alloc (Nat.le_refl _) (.cells #[.int .i64 a, .int .i64 b, .int .i64 d, .int .i64 m, vm, .int .i64 nx, vg, .string T, .bool to, .string H, .bool ho, vt, vb] 55))
 have hk := BK.new w #[.int .i64 a, .int .i64 b, .int .i64 d, .int .i64 m, vm, .int .i64 nx, vg, .string T, .bool to, .string H, .bool ho, vt, vb] 55
 obtain ⟨c0, c1, c2, c3, c4, c5, c6, c7, c8, c9, c10, c11, c12⟩ := cells13 hk
 have HR := Lib.hid (h.below ((Below.refl _ w).alloc (Nat.le_refl _) (.cells #[.int .i64 a, .int .i64 b, .int .i64 d, .int .i64 m, vm, .int .i64 nx, vg, .string T, .bool to, .string H, .bool ho, vt, vb] 55)))
 have HK := Lib.hid hk
 clear h hk
 go_enter Tryz.func32, Tryz.ntmps32
 go_wp2_with fail
 refine (szS_any vm ms 1048576 _ w.heap.size HR.out.1 (by omega) hm.1 hm.2).mono ?_
 rintro e x1 ⟨z, rfl, hbx, hz⟩
 have hk := HK.out.from hbx
 obtain ⟨c0, c1, c2, c3, c4, c5, c6, c7, c8, c9, c10, c11, c12⟩ := cells13 hk
 have HR := Lib.hid (HR.out.below (hbx.mono HB.out.size))
 have HB := Lib.hid (HB.out.trans (hbx.mono HB.out.size))
 have HK := Lib.hid hk
 clear hk hbx
 rcases hz with rfl | ⟨hz0, hz1, k1⟩
 ·go_wp2
  go_ret
  exact ⟨_, rfl, HB.out, .inl rfl⟩
 obtain ⟨y1, rfl⟩ := Int.eq_ofNat_of_zero_le hz0
 have hy1 : y1 ≤ 1048576 := by omega
 have Hk1 := Lib.hid k1
 clear hz0 hz1 k1
 go_wp2_with fail
 refine (szS_any vg gs y1 _ w.heap.size HR.out.2.1 (by omega) hg.1 hg.2).mono ?_
 rintro e x2 ⟨z, rfl, hbx, hz⟩
 have hk := HK.out.from hbx
 obtain ⟨c0, c1, c2, c3, c4, c5, c6, c7, c8, c9, c10, c11, c12⟩ := cells13 hk
 have HR := Lib.hid (HR.out.below (hbx.mono HB.out.size))
 have HB := Lib.hid (HB.out.trans (hbx.mono HB.out.size))
 have HK := Lib.hid hk
 clear hk hbx
 rcases hz with rfl | ⟨hz0, hz1, k2⟩
 ·go_wp2
  go_ret
  exact ⟨_, rfl, HB.out, .inl rfl⟩
 obtain ⟨y2, rfl⟩ := Int.eq_ofNat_of_zero_le hz0
 have hy2 : y2 ≤ 1048576 := by omega
 have Hk2 := Lib.hid k2
 clear hz0 hz1 k2
 go_wp2_with fail
 refine (szFindN_any T to y2 _ (by omega) hT).mono ?_
 rintro e x3 ⟨z, rfl, hbx, hz⟩
 have hk := HK.out.from hbx
 obtain ⟨c0, c1, c2, c3, c4, c5, c6, c7, c8, c9, c10, c11, c12⟩ := cells13 hk
 have HR := Lib.hid (HR.out.below (hbx.mono HB.out.size))
 have HB := Lib.hid (HB.out.trans (hbx.mono HB.out.size))
 have HK := Lib.hid hk
 clear hk hbx
 rcases hz with rfl | ⟨hz0, hz1, k3⟩
 ·go_wp2
  go_ret
  exact ⟨_, rfl, HB.out, .inl rfl⟩
 obtain ⟨y3, rfl⟩ := Int.eq_ofNat_of_zero_le hz0
 have hy3 : y3 ≤ 1048576 := by omega
 have Hk3 := Lib.hid k3
 clear hz0 hz1 k3
 go_wp2_with fail
 refine (szFindN_any H ho y3 _ (by omega) hH).mono ?_
 rintro e x4 ⟨z, rfl, hbx, hz⟩
 have hk := HK.out.from hbx
 obtain ⟨c0, c1, c2, c3, c4, c5, c6, c7, c8, c9, c10, c11, c12⟩ := cells13 hk
 have HR := Lib.hid (HR.out.below (hbx.mono HB.out.size))
 have HB := Lib.hid (HB.out.trans (hbx.mono HB.out.size))
 have HK := Lib.hid hk
 clear hk hbx
 rcases hz with rfl | ⟨hz0, hz1, k4⟩
 ·go_wp2
  go_ret
  exact ⟨_, rfl, HB.out, .inl rfl⟩
 obtain ⟨y4, rfl⟩ := Int.eq_ofNat_of_zero_le hz0
 have hy4 : y4 ≤ 1048576 := by omega
 have Hk4 := Lib.hid k4
 clear hz0 hz1 k4
 go_wp2_with fail
 refine (szS_any vt ts y4 _ w.heap.size HR.out.2.2.1 (by omega) ht.1 ht.2).mono ?_
 rintro e x5 ⟨z, rfl, hbx, hz⟩
 have hk := HK.out.from hbx
 obtain ⟨c0, c1, c2, c3, c4, c5, c6, c7, c8, c9, c10, c11, c12⟩ := cells13 hk
 have HR := Lib.hid (HR.out.below (hbx.mono HB.out.size))
 have HB := Lib.hid (HB.out.trans (hbx.mono HB.out.size))
 have HK := Lib.hid hk
 clear hk hbx
 rcases hz with rfl | ⟨hz0, hz1, k5⟩
 ·go_wp2
  go_ret
  exact ⟨_, rfl, HB.out, .inl rfl⟩
 obtain ⟨y5, rfl⟩ := Int.eq_ofNat_of_zero_le hz0
 have hy5 : y5 ≤ 1048576 := by omega
 have Hk5 := Lib.hid k5
 clear hz0 hz1 k5
 go_wp2_with fail
 refine (szS_any vb bs y5 _ w.heap.size HR.out.2.2.2 (by omega) hb.1 hb.2).mono ?_
 rintro e x6 ⟨z, rfl, hbx, hz⟩
 have hk := HK.out.from hbx
 obtain ⟨c0, c1, c2, c3, c4, c5, c6, c7, c8, c9, c10, c11, c12⟩ := cells13 hk
 have HR := Lib.hid (HR.out.below (hbx.mono HB.out.size))
 have HB := Lib.hid (HB.out.trans (hbx.mono HB.out.size))
 have HK := Lib.hid hk
 clear hk hbx
 rcases hz with rfl | ⟨hz0, hz1, k6⟩
 ·go_wp2
  go_ret
  exact ⟨_, rfl, HB.out, .inl rfl⟩
 obtain ⟨y6, rfl⟩ := Int.eq_ofNat_of_zero_le hz0
 have hy6 : y6 ≤ 1048576 := by omega
 have Hk6 := Lib.hid k6
 clear hz0 hz1 k6
 go_wp2
 go_ret
 exact ⟨_, rfl, HB.out, .inr ⟨by omega, by omega, Hk1.out, Hk2.out, Hk3.out, Hk4.out, Hk5.out, Hk6.out⟩⟩
theorem eqConf_same (a b d m : Int) (w : World) :
  Calls Tryz.prog 56 #[cfV a b d m, cfV a b d m] w fun e w' => e = .returned (.bool true) ∧ Below w.heap.size w w' := by
 go_enter Tryz.func56, Tryz.ntmps56
 go_wp2
 go_ret
 exact ⟨rfl, below2 _ _ _⟩
set_option maxRecDepth 100000 in
set_option maxHeartbeats 4000000 in
theorem eqLine_same (a b d m : Int) (vm : Value) (ms : List ByteArray) (nx : Int) (vg : Value) (gs : List ByteArray) (T : ByteArray) (to : Bool) (H : ByteArray) (ho : Bool) (vt : Value) (ts : List ByteArray) (vb : Value) (bs : List ByteArray) (vm' vg' vt' vb' : Value) (w : World) (B B' : Nat) (h : RL w B vm ms vg gs vt ts vb bs) (h' : RL w B' vm' ms vg' gs vt' ts vb' bs) (hB : B ≤ w.heap.size) (hB' : B' ≤ w.heap.size)
  (hm : ms.length ≤ 1048576) (hg : gs.length ≤ 1048576) (ht : ts.length ≤ 1048576) (hb : bs.length ≤ 1048576) :
  Calls Tryz.prog 25 #[lnV a b d m vm nx vg T to H ho vt vb, lnV a b d m vm' nx vg' T to H ho vt' vb'] w fun e w' => e = .returned (.bool true) ∧ Below w.heap.size w w' := by
 have HB := Lib.hid (((Below.refl _ w).alloc (Nat.le_refl _) (.cells #[.int .i64 a, .int .i64 b, .int .i64 d, .int .i64 m, vm, .int .i64 nx, vg, .string T, .bool to, .string H, .bool ho, vt, vb] 32)).alloc (by simp) (.cells #[.int .i64 a, .int .i64 b, .int .i64 d, .int .i64 m, vm', .int .i64 nx, vg', .string T, .bool to, .string H, .bool ho, vt', vb'] 32))
 have hk := (BK.new w #[.int .i64 a, .int .i64 b, .int .i64 d, .int .i64 m, vm, .int .i64 nx, vg, .string T, .bool to, .string H, .bool ho, vt, vb] 32).alloc (.cells #[.int .i64 a, .int .i64 b, .int .i64 d, .int .i64 m, vm', .int .i64 nx, vg', .string T, .bool to, .string H, .bool ho, vt', vb'] 32)
 have hj := BK.new (w.alloc (.cells #[.int .i64 a, .int .i64 b, .int .i64 d, .int .i64 m, vm, .int .i64 nx, vg, .string T, .bool to, .string H, .bool ho, vt, vb] 32)) #[.int .i64 a, .int .i64 b, .int .i64 d, .int .i64 m, vm', .int .i64 nx, vg', .string T, .bool to, .string H, .bool ho, vt', vb'] 32
 rw [World.size_alloc] at hj
 obtain ⟨c0, c1, c2, c3, c4, c5, c6, c7, c8, c9, c10, c11, c12⟩ := cells13 hk
 obtain ⟨e0, e1, e2, e3, e4, e5, e6, e7, e8, e9, e10, e11, e12⟩ := cells13 hj
 have HR := Lib.hid (h.below (((Below.refl B w).alloc hB (.cells #[.int .i64 a, .int .i64 b, .int .i64 d, .int .i64 m, vm, .int .i64 nx, vg, .string T, .bool to, .string H, .bool ho, vt, vb] 32)).alloc (by simp; omega) (.cells #[.int .i64 a, .int .i64 b, .int .i64 d, .int .i64 m, vm', .int .i64 nx, vg', .string T, .bool to, .string H, .bool ho, vt', vb'] 32)))
 have HR' := Lib.hid (h'.below (((Below.refl B' w).alloc hB' (.cells #[.int .i64 a, .int .i64 b, .int .i64 d, .int .i64 m, vm, .int .i64 nx, vg, .string T, .bool to, .string H, .bool ho, vt, vb] 32)).alloc (by simp; omega) (.cells #[.int .i64 a, .int .i64 b, .int .i64 d, .int .i64 m, vm', .int .i64 nx, vg', .string T, .bool to, .string H, .bool ho, vt', vb'] 32)))
 have HK := Lib.hid hk
 have HJ := Lib.hid hj
 have HW := Lib.hid (show w.heap.size ≤ ((w.alloc (.cells #[.int .i64 a, .int .i64 b, .int .i64 d, .int .i64 m, vm, .int .i64 nx, vg, .string T, .bool to, .string H, .bool ho, vt, vb] 32)).alloc (.cells #[.int .i64 a, .int .i64 b, .int .i64 d, .int .i64 m, vm', .int .i64 nx, vg', .string T, .bool to, .string H, .bool ho, vt', vb'] 32)).heap.size by simp; omega)
 clear h h' hk hj
 go_enter Tryz.func25, Tryz.ntmps25
 go_wp2_with fail
 refine (eqConf_same a b d m _).mono ?_
 rintro e x1 ⟨rfl, hbx⟩
 have hk := HK.out.from hbx
 have hj := HJ.out.from hbx
 obtain ⟨c0, c1, c2, c3, c4, c5, c6, c7, c8, c9, c10, c11, c12⟩ := cells13 hk
 obtain ⟨e0, e1, e2, e3, e4, e5, e6, e7, e8, e9, e10, e11, e12⟩ := cells13 hj
 have HR := Lib.hid (HR.out.below (hbx.mono (Nat.le_trans hB HW.out)))
 have HR' := Lib.hid (HR'.out.below (hbx.mono (Nat.le_trans hB' HW.out)))
 have HW := Lib.hid (Nat.le_trans HW.out hbx.size)
 have HB := Lib.hid (HB.out.trans (hbx.mono HB.out.size))
 have HK := Lib.hid hk
 have HJ := Lib.hid hj
 clear hk hj hbx
 go_wp2_with fail
 refine (eqStrs_same vm vm' ms _ B B' HR.out.1 HR'.out.1 (Nat.le_trans hB HW.out) (Nat.le_trans hB' HW.out) hm).mono ?_
 rintro e x2 ⟨rfl, hbx⟩
 have hk := HK.out.from hbx
 have hj := HJ.out.from hbx
 obtain ⟨c0, c1, c2, c3, c4, c5, c6, c7, c8, c9, c10, c11, c12⟩ := cells13 hk
 obtain ⟨e0, e1, e2, e3, e4, e5, e6, e7, e8, e9, e10, e11, e12⟩ := cells13 hj
 have HR := Lib.hid (HR.out.below (hbx.mono (Nat.le_trans hB HW.out)))
 have HR' := Lib.hid (HR'.out.below (hbx.mono (Nat.le_trans hB' HW.out)))
 have HW := Lib.hid (Nat.le_trans HW.out hbx.size)
 have HB := Lib.hid (HB.out.trans (hbx.mono HB.out.size))
 have HK := Lib.hid hk
 have HJ := Lib.hid hj
 clear hk hj hbx
 go_wp2_with fail
 refine (eqStrs_same vg vg' gs _ B B' HR.out.2.1 HR'.out.2.1 (Nat.le_trans hB HW.out) (Nat.le_trans hB' HW.out) hg).mono ?_
 rintro e x3 ⟨rfl, hbx⟩
 have hk := HK.out.from hbx
 have hj := HJ.out.from hbx
 obtain ⟨c0, c1, c2, c3, c4, c5, c6, c7, c8, c9, c10, c11, c12⟩ := cells13 hk
 obtain ⟨e0, e1, e2, e3, e4, e5, e6, e7, e8, e9, e10, e11, e12⟩ := cells13 hj
 have HR := Lib.hid (HR.out.below (hbx.mono (Nat.le_trans hB HW.out)))
 have HR' := Lib.hid (HR'.out.below (hbx.mono (Nat.le_trans hB' HW.out)))
 have HW := Lib.hid (Nat.le_trans HW.out hbx.size)
 have HB := Lib.hid (HB.out.trans (hbx.mono HB.out.size))
 have HK := Lib.hid hk
 have HJ := Lib.hid hj
 clear hk hj hbx
 go_wp2_with fail
 refine (eqFind_same T to _).mono ?_
 rintro e x4 ⟨rfl, hbx⟩
 have hk := HK.out.from hbx
 have hj := HJ.out.from hbx
 obtain ⟨c0, c1, c2, c3, c4, c5, c6, c7, c8, c9, c10, c11, c12⟩ := cells13 hk
 obtain ⟨e0, e1, e2, e3, e4, e5, e6, e7, e8, e9, e10, e11, e12⟩ := cells13 hj
 have HR := Lib.hid (HR.out.below (hbx.mono (Nat.le_trans hB HW.out)))
 have HR' := Lib.hid (HR'.out.below (hbx.mono (Nat.le_trans hB' HW.out)))
 have HW := Lib.hid (Nat.le_trans HW.out hbx.size)
 have HB := Lib.hid (HB.out.trans (hbx.mono HB.out.size))
 have HK := Lib.hid hk
 have HJ := Lib.hid hj
 clear hk hj hbx
 go_wp2_with fail
 refine (eqFind_same H ho _).mono ?_
 rintro e x5 ⟨rfl, hbx⟩
 have hk := HK.out.from hbx
 have hj := HJ.out.from hbx
 obtain ⟨c0, c1, c2, c3, c4, c5, c6, c7, c8, c9, c10, c11, c12⟩ := cells13 hk
 obtain ⟨e0, e1, e2, e3, e4, e5, e6, e7, e8, e9, e10, e11, e12⟩ := cells13 hj
 have HR := Lib.hid (HR.out.below (hbx.mono (Nat.le_trans hB HW.out)))
 have HR' := Lib.hid (HR'.out.below (hbx.mono (Nat.le_trans hB' HW.out)))
 have HW := Lib.hid (Nat.le_trans HW.out hbx.size)
 have HB := Lib.hid (HB.out.trans (hbx.mono HB.out.size))
 have HK := Lib.hid hk
 have HJ := Lib.hid hj
 clear hk hj hbx
 go_wp2_with fail
 refine (eqStrs_same vt vt' ts _ B B' HR.out.2.2.1 HR'.out.2.2.1 (Nat.le_trans hB HW.out) (Nat.le_trans hB' HW.out) ht).mono ?_
 rintro e x6 ⟨rfl, hbx⟩
 have hk := HK.out.from hbx
 have hj := HJ.out.from hbx
 obtain ⟨c0, c1, c2, c3, c4, c5, c6, c7, c8, c9, c10, c11, c12⟩ := cells13 hk
 obtain ⟨e0, e1, e2, e3, e4, e5, e6, e7, e8, e9, e10, e11, e12⟩ := cells13 hj
 have HR := Lib.hid (HR.out.below (hbx.mono (Nat.le_trans hB HW.out)))
 have HR' := Lib.hid (HR'.out.below (hbx.mono (Nat.le_trans hB' HW.out)))
 have HW := Lib.hid (Nat.le_trans HW.out hbx.size)
 have HB := Lib.hid (HB.out.trans (hbx.mono HB.out.size))
 have HK := Lib.hid hk
 have HJ := Lib.hid hj
 clear hk hj hbx
 go_wp2_with fail
 refine (eqStrs_same vb vb' bs _ B B' HR.out.2.2.2 HR'.out.2.2.2 (Nat.le_trans hB HW.out) (Nat.le_trans hB' HW.out) hb).mono ?_
 rintro e x7 ⟨rfl, hbx⟩
 have hk := HK.out.from hbx
 have hj := HJ.out.from hbx
 obtain ⟨c0, c1, c2, c3, c4, c5, c6, c7, c8, c9, c10, c11, c12⟩ := cells13 hk
 obtain ⟨e0, e1, e2, e3, e4, e5, e6, e7, e8, e9, e10, e11, e12⟩ := cells13 hj
 have HR := Lib.hid (HR.out.below (hbx.mono (Nat.le_trans hB HW.out)))
 have HR' := Lib.hid (HR'.out.below (hbx.mono (Nat.le_trans hB' HW.out)))
 have HW := Lib.hid (Nat.le_trans HW.out hbx.size)
 have HB := Lib.hid (HB.out.trans (hbx.mono HB.out.size))
 have HK := Lib.hid hk
 have HJ := Lib.hid hj
 clear hk hj hbx
 go_wp2
 go_ret
 exact ⟨rfl, HB.out⟩
end Go.Proofs.YtmggoiabcboaiaaGreat
namespace Go.Proofs.YtmggoiabcboaiaaGreat
open Go.ChangeShapes Go.WideShapes Go.ChangeAt Go.RowKit
theorem free13 {W : World} {g : Nat} {cs : Array Value} {t : TypeId} (h : BK W g cs t) : W.frozen? ⟨g, 0, none⟩ = false ∧ W.frozen? ⟨g, 1, none⟩ = false ∧ W.frozen? ⟨g, 2, none⟩ = false ∧ W.frozen? ⟨g, 3, none⟩ = false ∧ W.frozen? ⟨g, 4, none⟩ = false ∧ W.frozen? ⟨g, 5, none⟩ = false ∧ W.frozen? ⟨g, 6, none⟩ = false ∧ W.frozen? ⟨g, 7, none⟩ = false ∧ W.frozen? ⟨g, 8, none⟩ = false ∧ W.frozen? ⟨g, 9, none⟩ = false ∧ W.frozen? ⟨g, 10, none⟩ = false ∧ W.frozen? ⟨g, 11, none⟩ = false ∧ W.frozen? ⟨g, 12, none⟩ = false := ⟨h.free 0, h.free 1, h.free 2, h.free 3, h.free 4, h.free 5, h.free 6, h.free 7, h.free 8, h.free 9, h.free 10, h.free 11, h.free 12⟩
theorem zero_line : ∀ w : World, (zeroValue 32).run Tryz.prog w = .ok (.agg #[.int .i64 0, .int .i64 0, .int .i64 0, .int .i64 0, .slice none 0 0, .int .i64 0, .slice none 0 0, .string ⟨#[]⟩, .bool false, .string ⟨#[]⟩, .bool false, .slice none 0 0, .slice none 0 0]) w := fun w => by kernel_rfl
def OL (w : World) (base : Nat) (vm : Value) (ms : List ByteArray) (vg : Value) (gs : List ByteArray) (vt : Value) (ts : List ByteArray) (vb : Value) (bs : List ByteArray) : Prop := OS w base vm ms ∧ OS w base vg gs ∧ OS w base vt ts ∧ OS w base vb bs
theorem OL.reads {w : World} {base : Nat} {vm vg vt vb : Value} {ms gs ts bs : List ByteArray} (h : OL w base vm ms vg gs vt ts vb bs) : RL w w.heap.size vm ms vg gs vt ts vb bs := ⟨h.1.reads, h.2.1.reads, h.2.2.1.reads, h.2.2.2.reads⟩
theorem OL.below {w w' : World} {base : Nat} {vm vg vt vb : Value} {ms gs ts bs : List ByteArray} (h : OL w base vm ms vg gs vt ts vb bs) (hb : Below w.heap.size w w') : OL w' base vm ms vg gs vt ts vb bs := ⟨h.1.below hb, h.2.1.below hb, h.2.2.1.below hb, h.2.2.2.below hb⟩
theorem line_ret {k : Nat} {f : Func} {a b d m nx : Int} {vm vg vt vb : Value} {T H : ByteArray} {to ho : Bool} {W : World} {g : Nat} {A : Act} {Q : Ending → World → Prop} (hf : f.results = #[.cell k 32]) (hq : BK W g #[.int .i64 a, .int .i64 b, .int .i64 d, .int .i64 m, vm, .int .i64 nx, vg, .string T, .bool to, .string H, .bool ho, vt, vb] 32)
  (hs : A.tmps.getD k undef = .pointer (some ⟨g, 0, none⟩)) (hd : A.defers = []) (hQ : Q (.returned (lnV a b d m vm nx vg T to H ho vt vb)) W) : bodyPost Tryz.prog f Q .ret A W := by
 obtain ⟨z0, z1, z2, z3, z4, z5, z6, z7, z8, z9, z10, z11, z12⟩ := cells13 hq
 have hs2 : A.tmps[k]?.getD undef = .pointer (some ⟨g, 0, none⟩) := by rw [← hs]; simp
 refine bodyPost_ret (v := lnV a b d m vm nx vg T to H ho vt vb) ?_ hd hQ
 simp [results, hf, go_sem, hs2, z0, z1, z2, z3, z4, z5, z6, z7, z8, z9, z10, z11, z12]
end Go.Proofs.YtmggoiabcboaiaaGreat
namespace Go.Proofs.YtmggoiabcboaiaaGreat
open Go.ChangeShapes Go.WideShapes Go.ChangeAt Go.RowKit
theorem array13 {cs : Array Value} (h : cs.size = 13) : ∃ c0 c1 c2 c3 c4 c5 c6 c7 c8 c9 c10 c11 c12, cs = #[c0, c1, c2, c3, c4, c5, c6, c7, c8, c9, c10, c11, c12] := by
 rcases cs with ⟨l⟩
 simp only [List.size_toArray] at h
 match l, h with
 | [c0, c1, c2, c3, c4, c5, c6, c7, c8, c9, c10, c11, c12], _ => exact ⟨c0, c1, c2, c3, c4, c5, c6, c7, c8, c9, c10, c11, c12, rfl⟩
section
variable {Hh : Type} {enc : TypeId × Value → Hh} {W : World}
theorem strs_open {n : Nat} {v : Value} {y : DataW Hh × List MemPlace} (h : DataW.trod enc Tryz.prog W 0 (fun _ => true) true n 25 [v] = some y) : ∃ a len cap zs, v = .slice a len cap ∧ IsStrs W a len cap zs := by
 rcases open_strings Tryz.underlying25 Tryz.underlying9 (by kernel_rfl) h with ⟨hcs, _⟩ | ⟨x, l, c, zs, hcs, _, hl, hm, hz, _, hcell, hwz⟩
 ·simp only [List.cons.injEq, and_true] at hcs
  exact ⟨none, 0, 0, [], hcs, .inl ⟨rfl, rfl, rfl, rfl⟩⟩
 ·simp only [List.cons.injEq, and_true] at hcs
  exact ⟨_, _, _, zs, hcs, .inr ⟨_, rfl, hl, hm, by simpa using hz, hcell, hwz⟩⟩
theorem conf_open {n : Nat} {v0 v1 v2 v3 : Value} {y : DataW Hh × List MemPlace} (h : DataW.trod enc Tryz.prog W 0 (fun _ => true) true n 44 [v0, v1, v2, v3] = some y) :
  ∃ a b d m : Int, v0 = .int .i64 a ∧ v1 = .int .i64 b ∧ v2 = .int .i64 d ∧ v3 = .int .i64 m ∧ (Lit.int .i64 a).wf = true ∧ (Lit.int .i64 b).wf = true ∧ (Lit.int .i64 d).wf = true ∧ (Lit.int .i64 m).wf = true := by
 have ki : Tryz.prog.cellsOf 3 = 1 := by kernel_rfl
 obtain ⟨xs, k, _, _, _, hxl, hf⟩ := DataW.trod_struct Tryz.underlying44 h
 match xs, hxl with
 | [y0, y1, y2, y3], _ =>
  have g0 := hf 0 _ rfl
  have g1 := hf 1 _ rfl
  have g2 := hf 2 _ rfl
  have g3 := hf 3 _ rfl
  simp [ki] at g0 g1 g2 g3
  obtain ⟨a, e0, _, w0⟩ := DataW.trod_int Tryz.underlying3 g0
  obtain ⟨b, e1, _, w1⟩ := DataW.trod_int Tryz.underlying3 g1
  obtain ⟨d, e2, _, w2⟩ := DataW.trod_int Tryz.underlying3 g2
  obtain ⟨m, e3, _, w3⟩ := DataW.trod_int Tryz.underlying3 g3
  simp only [List.cons.injEq, and_true] at e0 e1 e2 e3
  exact ⟨a, b, d, m, e0, e1, e2, e3, w0, w1, w2, w3⟩
theorem find_open {n : Nat} {v0 v1 : Value} {y : DataW Hh × List MemPlace} (h : DataW.trod enc Tryz.prog W 0 (fun _ => true) true n 53 [v0, v1] = some y) :
  ∃ (s : ByteArray) (o : Bool), v0 = .string s ∧ v1 = .bool o ∧ s.size ≤ maxLen := by
 have ks : Tryz.prog.cellsOf 9 = 1 := by kernel_rfl
 have kb : Tryz.prog.cellsOf 4 = 1 := by kernel_rfl
 obtain ⟨xs, k, _, _, _, hxl, hf⟩ := DataW.trod_struct Tryz.underlying53 h
 match xs, hxl with
 | [y0, y1], _ =>
  have g0 := hf 0 _ rfl
  have g1 := hf 1 _ rfl
  simp [ks, kb] at g0 g1
  obtain ⟨s, e0, _, w0⟩ := DataW.trod_string Tryz.underlying9 g0
  obtain ⟨o, e1, _⟩ := DataW.trod_bool Tryz.underlying4 g1
  simp only [List.cons.injEq, and_true] at e0 e1
  exact ⟨s, o, e0, e1, w0⟩
set_option maxRecDepth 100000 in
theorem isLine_open {r : Reach} {b0 : Nat} {v : Value} {dd : DataW Hh} {p : List MemPlace} (hv : Value.okWide Tryz.prog W r b0 55 v) (h : DataW.Trod enc Tryz.prog W 0 (fun _ => true) true 55 v dd p) :
  ∃ (a b d m : Int) (am : Option Addr) (lm cm : Nat) (zm : List ByteArray) (nx : Int) (ag : Option Addr) (lg cg : Nat) (zg : List ByteArray) (T : ByteArray) (to : Bool) (H : ByteArray) (ho : Bool) (at_ : Option Addr) (lt ct : Nat) (zt : List ByteArray) (ab : Option Addr) (lb cb : Nat) (zb : List ByteArray),
   v = lnV a b d m (.slice am lm cm) nx (.slice ag lg cg) T to H ho (.slice at_ lt ct) (.slice ab lb cb) ∧ (Lit.int .i64 a).wf = true ∧ IsStrs W am lm cm zm ∧ (Lit.int .i64 nx).wf = true ∧ IsStrs W ag lg cg zg ∧ T.size ≤ maxLen ∧ H.size ≤ maxLen ∧ IsStrs W at_ lt ct zt ∧ IsStrs W ab lb cb zb := by
 have kc : Tryz.prog.cellsOf 44 = 4 := by kernel_rfl
 have kf : Tryz.prog.cellsOf 53 = 2 := by kernel_rfl
 have ki : Tryz.prog.cellsOf 3 = 1 := by kernel_rfl
 have kl : Tryz.prog.cellsOf 25 = 1 := by kernel_rfl
 obtain ⟨cs, rfl, hsz⟩ := okWide_struct Tryz.underlying55 hv
 obtain ⟨c0, c1, c2, c3, c4, c5, c6, c7, c8, c9, c10, c11, c12, rfl⟩ := array13 (hsz.trans (by kernel_rfl))
 obtain ⟨fuel, hf0⟩ := h
 obtain ⟨xs, k, _, _, _, hxl, hf⟩ := DataW.trod_struct Tryz.underlying55 hf0
 match xs, hxl with
 | [y0, y1, y2, y3, y4, y5, y6, y7], _ =>
  have g0 := hf 0 _ rfl
  have g1 := hf 1 _ rfl
  have g2 := hf 2 _ rfl
  have g3 := hf 3 _ rfl
  have g4 := hf 4 _ rfl
  have g5 := hf 5 _ rfl
  have g6 := hf 6 _ rfl
  have g7 := hf 7 _ rfl
  simp [Value.cells, kc, kf, ki, kl] at g0 g1 g2 g3 g4 g5 g6 g7
  obtain ⟨a, b, d, m, rfl, rfl, rfl, rfl, wa, _⟩ := conf_open g0
  obtain ⟨am, lm, cm, zm, rfl, hm⟩ := strs_open g1
  obtain ⟨nx, e2, _, wn⟩ := DataW.trod_int Tryz.underlying3 g2
  simp only [List.cons.injEq, and_true] at e2
  subst e2
  obtain ⟨ag, lg, cg, zg, rfl, hg⟩ := strs_open g3
  obtain ⟨T, to, rfl, rfl, hT⟩ := find_open g4
  obtain ⟨H, ho, rfl, rfl, hH⟩ := find_open g5
  obtain ⟨at_, lt, ct, zt, rfl, ht⟩ := strs_open g6
  obtain ⟨ab, lb, cb, zb, rfl, hb⟩ := strs_open g7
  exact ⟨a, b, d, m, am, lm, cm, zm, nx, ag, lg, cg, zg, T, to, H, ho, at_, lt, ct, zt, ab, lb, cb, zb, rfl, wa, hm, wn, hg, hT, hH, ht, hb⟩
end
end Go.Proofs.YtmggoiabcboaiaaGreat
namespace Go.Proofs.YtmggoiabcboaiaaGreat
open Go.ChangeShapes Go.WideShapes Go.ChangeAt Go.RowKit
theorem RE.at_ {w : World} {lo B : Nat} {l : List Ev} {a : Option Addr} {cap : Nat} (h : RE w lo B (.slice a l.length cap) l) {k : Nat} (hk : k < l.length) :
  ∃ g, a = some ⟨g, 0, none⟩ ∧ lo ≤ g ∧ g < B ∧ w.cell? ⟨g, k * 2, none⟩ = some (.int .i64 l[k].kind) ∧ w.cell? ⟨g, k * 2 + 1, none⟩ = some (.string ⟨l[k].text.toArray⟩) := by
 obtain ⟨a', cap', hv, h2⟩ := h
 injection hv with hv1 hv2 hv3
 subst hv1
 obtain ⟨x, hx, hl, hB, hc⟩ := h2 (by omega)
 obtain ⟨e1, e2⟩ := evCs_at l k hk
 rw [Nat.mul_comm] at e1 e2
 exact ⟨x, hx, hl, hB, hc _ _ e1, hc _ _ e2⟩
theorem RE.shape {w : World} {lo B : Nat} {v : Value} {l : List Ev} (h : RE w lo B v l) : ∃ a cap, v = .slice a l.length cap := by
 obtain ⟨a, cap, hv, _⟩ := h
 exact ⟨a, cap, hv⟩
theorem grown_set {w w' : World} {row : Option Nat} (hg : w.grownBy w' row) {g : Nat} (hr : row = some g) (j : Nat) (u : Value) : w.grownBy (w'.setCell ⟨g, j, none⟩ u) row := by
 refine ⟨hg.os, hg.tape, hg.output, by simpa using hg.size, fun k hk hne => ?_⟩
 rw [Below.heap_setCell _ _ _ _ (by rintro rfl; exact hne hr.symm)]
 exact hg.block k hk hne
theorem kgrown_below {w w' w'' : World} {row : Option Nat} (hg : w.grownBy w' row) (hb : Below w'.heap.size w' w'') : w.grownBy w'' row :=
 ⟨hb.os.trans hg.os, hb.tape.trans hg.tape, hb.output.trans hg.output, Nat.le_trans hg.size hb.size, fun k hk hne => (hb.block k (Nat.lt_of_lt_of_le hk hg.size)).trans (hg.block k hk hne)⟩
theorem own_below {w w' : World} {base : Nat} {e : TypeId} {size n : Nat} {v : Value} {xs : List Value} (h : w.ownsRow base e size v n xs) (hb : Below w.heap.size w w') : w'.ownsRow base e size v n xs :=
 h.kept (row := none) ⟨hb.os, hb.tape, hb.output, hb.size, fun g hg _ => hb.block g hg⟩ (by cases v.ownBlock <;> simp)
end Go.Proofs.YtmggoiabcboaiaaGreat
namespace Go.Proofs.YtmggoiabcboaiaaGreat
open Go.ChangeShapes Go.WideShapes Go.ChangeAt Go.RowKit
def marksS (k0 n : Nat) : List ByteArray := (List.range n).map fun i => ⟨(markL (k0 + i)).toArray⟩
theorem marksS_len (k0 n : Nat) : (marksS k0 n).length = n := by simp [marksS]
theorem marksS_at (k0 n k : Nat) (h : k < n) : (marksS k0 n)[k]'(by rw [marksS_len]; exact h) = ⟨(markL (k0 + k)).toArray⟩ := by simp [marksS]
def partK (ss : List ByteArray) (k0 k : Nat) : List ByteArray := marksS k0 k ++ ss.drop k
theorem partK_len (ss : List ByteArray) (k0 k : Nat) (h : k ≤ ss.length) : (partK ss k0 k).length = ss.length := by simp [partK, marksS_len]; omega
theorem partK_set (ss : List ByteArray) (k0 k : Nat) (h : k < ss.length) : (partK ss k0 k).set k ⟨(markL (k0 + k)).toArray⟩ = partK ss k0 (k + 1) := by
 unfold partK
 rw [List.set_append_right _ _ (by rw [marksS_len]; exact Nat.le_refl _), marksS_len, Nat.sub_self, List.drop_eq_getElem_cons h, List.set_cons_zero]
 have : marksS k0 (k + 1) = marksS k0 k ++ [⟨(markL (k0 + k)).toArray⟩] := by simp [marksS, List.range_succ]
 rw [this, List.append_assoc, List.singleton_append]
def MarkSPost (w : World) (base : Nat) (v : Value) (k0 n : Nat) (e : Ending) (w' : World) : Prop := e = .returned (.int .i64 ((k0 + n : Nat) : Int)) ∧ OS w' base v (marksS k0 n) ∧ w.grownBy w' v.ownBlock
theorem OS.stored {w : World} {base g n cap : Nat} {ss : List ByteArray} (h : OS w base (.slice (some ⟨g, 0, none⟩) n cap) ss) (k : Nat) (s : ByteArray) : OS (w.setCell ⟨g, k, none⟩ (.string s)) base (.slice (some ⟨g, 0, none⟩) n cap) (ss.set k s) := by
 have h1 := sown_stored h k (.string s)
 unfold OS
 rw [List.length_set, show (ss.set k s).map strV = (ss.map strV).set k (.string s) by rw [List.map_set]; rfl]
 exact h1
set_option maxRecDepth 100000 in
set_option maxHeartbeats 1000000 in
theorem markS_any (v : Value) (ss : List ByteArray) (k0 : Nat) (w : World) (base : Nat) (h : OS w base v ss) (hk0 : 1 ≤ k0) (hl : k0 + ss.length ≤ 100000000) :
  Calls Tryz.prog 28 #[v, .int .i64 k0] w (MarkSPost w base v k0 ss.length) := by
 obtain ⟨a, cap, hv⟩ := h.reads.shape
 have H := Lib.hid h
 have HV := Lib.hid hv
 rw [hv]
 clear h hv
 go_enter Tryz.func28, Tryz.ntmps28
 go_wp2
 go_loopw [1, 5] (fun q j wr => ∃ k : Nat, k ≤ ss.length ∧ j = .int .i64 k ∧ q = .int .i64 ((k0 + k : Nat) : Int) ∧ OS wr base v (partK ss k0 k) ∧ w.grownBy wr v.ownBlock) (fun _ j _ => ss.length - (intOf j).toNat)
 case atStart => exact ⟨0, Nat.zero_le _, rfl, rfl, by simpa [partK, marksS] using H.out, ⟨rfl, rfl, rfl, Nat.le_refl _, fun _ _ _ => rfl⟩⟩
 case round =>
  obtain ⟨k, hk, rfl, rfl, hoe, hg⟩ := hrel
  have HG := Lib.hid hg
  by_cases hlt : k < ss.length
  ·have HPL := Lib.hid (partK_len ss k0 k hk)
   obtain ⟨g, cp, hvg, hg1, hg2⟩ := hoe.pos (by rw [HPL.out]; omega)
   rw [HV.out, HPL.out] at hvg
   injection hvg with hva _ hvc
   subst hva hvc
   have HPS := Lib.hid (partK_set ss k0 k hlt)
   rw [HV.out] at hoe
   have HOE := Lib.hid hoe
   obtain ⟨q, hq⟩ : ∃ q, q = k0 + k := ⟨_, rfl⟩
   rw [← hq] at HPS ⊢
   have HQ := Lib.hid hq
   have hq1 : 0 < q := by omega
   have hq2 : q ≤ 100000000 := by omega
   have HM := Lib.hid (fun W => markText_any q W hq1 (by omega))
   clear hoe hg hq
   go_wp2_with fail
   refine (HM.out _).mono ?_
   rintro e w3 ⟨rfl, hb3⟩
   have ho3 := HOE.out.below hb3
   have d1 := ho3.cellAt (k := k) (by rw [HPL.out]; exact hlt)
   have e1 := ho3.freeAt k
   have HO4 := Lib.hid (show OS (w3.setCell ⟨g, k, none⟩ (.string ⟨(markL q).toArray⟩)) base (.slice (some ⟨g, 0, none⟩) ss.length cap) (partK ss k0 (k + 1)) by rw [← HPS.out]; exact ho3.stored k _)
   have HG4 := Lib.hid (grown_set (kgrown_below HG.out hb3) (g := g) (by rw [HV.out]; rfl) k (.string ⟨(markL q).toArray⟩))
   generalize (partK ss k0 k)[k]'(by rw [HPL.out]; exact hlt) = old at *
   clear ho3 hb3
   go_wp2
   go_roundw
   case rel => exact ⟨k + 1, by omega, by go_num, val_int (by have := HQ.out; omega), by rw [HV.out]; exact HO4.out, HG4.out⟩
   case measure => simp [intOf]; omega
  ·obtain rfl : k = ss.length := by omega
   have HOE := Lib.hid hoe
   clear hoe hg
   go_wp2
   go_ret
   refine ⟨rfl, ?_, ?_⟩
   ·have := HOE.out
    rw [partK, List.drop_length, List.append_nil] at this
    rw [← HV.out]; exact this
   ·rw [← HV.out]; exact HG.out
set_option maxRecDepth 100000 in
set_option maxHeartbeats 1000000 in
theorem heldS_any (v : Value) (k0 n : Nat) (w : World) (B : Nat) (h : RS w B v (marksS k0 n)) (hB : B ≤ w.heap.size) (hk0 : 1 ≤ k0) (hl : k0 + n ≤ 100000000) :
  Calls Tryz.prog 59 #[v, .int .i64 k0] w fun e w' => e = .returned (.int .i64 ((k0 + n : Nat) : Int)) ∧ Below w.heap.size w w' := by
 obtain ⟨a, cap, rfl⟩ := h.shape
 have H := Lib.hid h
 clear h
 rw [marksS_len] at H
 rw [marksS_len]
 go_enter Tryz.func59, Tryz.ntmps59
 go_wp2
 go_loopw [1, 5] (fun q j wr => ∃ k : Nat, k ≤ n ∧ j = .int .i64 k ∧ q = .int .i64 ((k0 + k : Nat) : Int) ∧ Below w.heap.size w wr) (fun _ j _ => n - (intOf j).toNat)
 case atStart => exact ⟨0, Nat.zero_le _, rfl, rfl, Below.refl _ _⟩
 case round =>
  obtain ⟨k, hk, rfl, rfl, hb⟩ := hrel
  have HB := Lib.hid hb
  by_cases hlt : k < n
  ·have hre := H.out.below (hb.mono hB)
   rw [show Value.slice a n cap = .slice a (marksS k0 n).length cap by rw [marksS_len]] at hre
   obtain ⟨x, rfl, hxB, c0⟩ := hre.at_ (k := k) (by rw [marksS_len]; exact hlt)
   rw [marksS_at k0 n k hlt] at c0
   have hgl : (x.add k).block < wr.heap.size := by rw [add_block]; have := hb.size; omega
   obtain ⟨q, hq⟩ : ∃ q, q = k0 + k := ⟨_, rfl⟩
   rw [← hq] at c0 ⊢
   have HQ := Lib.hid hq
   have hq1 : 0 < q := by omega
   have hq2 : q ≤ 100000000 := by omega
   have HM := Lib.hid (fun W => markText_any q W hq1 (by omega))
   clear hb hre hq
   go_wp2_with fail
   go_region_with ((go_at_call 58; refine (HM.out _).mono ?_; rintro e w3 ⟨rfl, hb3⟩; have d1 := (hb3.cell (p := x.add k) hgl).trans c0; have HB3 := Lib.hid (HB.out.drew.trans (hb3.mono HB.out.size)); clear hb3))
   all_goals
    clear d1 c0
    go_wp2
    go_roundw
    case rel => exact ⟨k + 1, by omega, by go_num, val_int (by have := HQ.out; omega), HB3.out⟩
    case measure => simp [intOf]; omega
  ·obtain rfl : k = n := by omega
   go_wp2
   go_ret
   exact ⟨rfl, HB.out⟩
end Go.Proofs.YtmggoiabcboaiaaGreat
namespace Go.Proofs.YtmggoiabcboaiaaGreat
open Go.ChangeShapes Go.WideShapes Go.ChangeAt Go.RowKit
def CopiedPost (w : World) (ss : List ByteArray) (e : Ending) (w' : World) : Prop := (∃ v, e = .returned v ∧ OS w' w.heap.size v ss) ∧ Below w.heap.size w w'
set_option maxRecDepth 100000 in
set_option maxHeartbeats 2000000 in
theorem copied_any (v : Value) (ss : List ByteArray) (w : World) (B : Nat) (h : RS w B v ss) (hB : B ≤ w.heap.size) (hl : ss.length ≤ 1048576) (hz : ∀ s ∈ ss, s.size ≤ 1048576) :
  Calls Tryz.prog 46 #[v] w (CopiedPost w ss) := by
 obtain ⟨i0, hi, hz0, hz1, hz2⟩ := info_parts info_str
 have HI := Lib.hid hi
 have HZ0 := Lib.hid hz0
 have HZ1 := Lib.hid hz1
 have HZ2 := Lib.hid hz2
 obtain ⟨a, cap, rfl⟩ := h.shape
 have H := Lib.hid h
 have HZ := Lib.hid hz
 clear h hz hi hz0 hz1 hz2
 go_enter Tryz.func46, Tryz.ntmps46
 go_wp2
 go_loopw [3, 8] (fun u j wr => ∃ k : Nat, k ≤ ss.length ∧ j = .int .i64 k ∧ OS wr w.heap.size u (ss.take k) ∧ Below w.heap.size w wr) (fun _ j _ => ss.length - (intOf j).toNat)
 case atStart => exact ⟨0, Nat.zero_le _, rfl, OS_nil _ _, Below.refl _ _⟩
 case round =>
  obtain ⟨k, hk, rfl, hown, hb⟩ := hrel
  have HB := Lib.hid hb
  have HO := Lib.hid hown
  by_cases hlt : k < ss.length
  ·obtain ⟨x, rfl, hxB, c0⟩ := (H.out.below (hb.mono hB)).at_ hlt
   have hsz := HZ.out ss[k] (List.getElem_mem _)
   have HS := Lib.hid (show ss.take (k + 1) = ss.take k ++ [ss[k]] from List.take_succ_eq_append_getElem hlt)
   have HTL := Lib.hid (show (ss.take k).length ≤ k from List.length_take_le _ _)
   generalize ss[k] = t at *
   clear hown hb
   go_wp2_with fail
   refine (clone_any t _ (by omega)).mono ?_
   rintro e w2 ⟨rfl, hb2⟩
   have HB2 := Lib.hid (HB.out.trans (hb2.mono HB.out.size))
   have HO2 := Lib.hid (HO.out.below hb2)
   clear hb2
   go_wp2_with (at_builtin; refine wpList_append_os _ rfl _ _ 25 rfl w.heap.size i0 Tryz.underlying25 HI.out HZ0.out HZ1.out HZ2.out _ _ rfl (HO2.out.alloc _) _ _ [t] rfl (RS_one w2 t) (by have := HTL.out; simp only [List.length_singleton]; omega) (by have := HB2.out.size; simp; omega) ?_; intro v3 w3 hown3 hg3 _)
   go_roundw
   case rel => exact ⟨k + 1, by omega, by go_num, by rw [HS.out]; exact hown3, (HB2.out.alloc HB2.out.size _).grown hg3 (by have := HB2.out.size; simp; omega) (fun j hj => (HO2.out.low j hj).1)⟩
   case measure => simp [intOf]; omega
  ·have HE := Lib.hid (show ss.take k = ss from List.take_of_length_le (by omega))
   clear hown hb
   go_wp2
   go_ret
   exact ⟨⟨_, rfl, by have := HO.out; rw [HE.out] at this; exact this⟩, HB.out⟩
theorem opwp_append_os {P : Program} {w : World} {o : Oper} {a : Act} {K : Act → World → Prop} {Q : Exit → Act → World → Prop} (s x : Operand) (t : TypeId)
  (ho : o.op = .call { callee := .builtin .append, args := #[s, x], argTypes := #[t, t] })
  (base : Nat) (i : TypeInfo) (ht : P.underlying t = some (.slice 9)) (hi : P.info? 9 = some i) (hz : i.zero = some (.string ⟨#[]⟩))
  (hsize : i.size = 1) (hby : i.bytes = 16) (v : Value) (l : List ByteArray) (hs : a.eval s = v) (hown : OS w base v l)
  (B : Nat) (v2 : Value) (news : List ByteArray) (hx : a.eval x = v2) (hr : RS w B v2 news) (hlen : l.length + news.length ≤ 1000000000000) (hbase : base ≤ w.heap.size)
  (h : ∀ v' w', OS w' base v' (l ++ news) → w.grownBy w' v.ownBlock → K (a.put o.dst v') w') : Oper.wp P o a w K Q := by
 obtain ⟨v', w', hr, h2, h3, h4⟩ := run_append_os (P := P) w base t o.type i ht hi hz hsize hby v l hown B v2 news hr hlen hbase
 unfold Oper.wp execOp
 simp only [ho, resolve, invoke, builtin, Sem.run_bind, Sem.run_pure, Result.andThen_ok, List.map_toArray, List.map_cons, List.map_nil, hs, hx, hr]
 exact h v' w' h2 h3
end Go.Proofs.YtmggoiabcboaiaaGreat
