/- A line in the laws: opened, its size told, copied, two that are the same. -/
import Derived.Test.YtdnedoafgfpnfaaLnB
import Derived.Test.YtdnedoafgfpnfaaKitFindC
import Derived.Test.YtdnedoafgfpnfaaOs
import Derived.SliceStrings
namespace Go.Proofs.Ytdnedoafgfpnfaa
open Go.ChangeShapes Go.WideShapes Go.ChangeAt Go.RowKit
/-- so much is told of the size -/
def SzN (w : World) (ok : Prop) (y : Nat) (e : Ending) (w' : World) : Prop := ∃ x : Int, e = .returned (.int .i64 x) ∧ Below w.heap.size w w' ∧ (x = -1 ∨ (0 ≤ x ∧ x ≤ (y : Int) ∧ ok))
def smallS (ss : List ByteArray) : Prop := ss.length ≤ 1048576 ∧ ∀ s ∈ ss, s.size ≤ 1048576
set_option maxRecDepth 100000 in
set_option maxHeartbeats 1000000 in
theorem szS_any (v : Value) (ss : List ByteArray) (y0 : Nat) (w : World) (B : Nat) (h : RS w B v ss) (hy0 : y0 ≤ 1048576) (hl : ss.length ≤ maxLen) (hz : ∀ s ∈ ss, s.size ≤ maxLen) :
    Calls Try.prog 22 #[v, .int .i64 y0] w (SzN w (smallS ss) y0) := by
  unfold maxLen at hl hz
  obtain ⟨a, cap, rfl⟩ := h.shape
  have H := Lib.hid h
  have HZ := Lib.hid hz
  clear h hz
  by_cases hbig : y0 < ss.length
  · go_enter Try.func22, Try.ntmps22
    go_wp2
    go_ret
    exact ⟨_, rfl, Below.refl _ _, .inl rfl⟩
  have hsm : ss.length ≤ y0 := by omega
  clear hbig
  go_enter Try.func22, Try.ntmps22
  go_wp2
  go_loop [1, 5] (fun q j => ∃ (k y : Nat), k ≤ ss.length ∧ j = .int .i64 k ∧ q = .int .i64 y ∧ y ≤ y0 ∧ ∀ s ∈ ss.take k, s.size ≤ 1048576) (fun _ j => ss.length - (intOf j).toNat)
  case atStart => exact ⟨0, y0 - ss.length, Nat.zero_le _, rfl, val_int (by omega), by omega, fun s hs => by simp at hs⟩
  case round =>
    obtain ⟨k, y, hk, rfl, rfl, hy, hall⟩ := hrel
    have HA := Lib.hid hall
    clear hall
    by_cases hlt : k < ss.length
    · obtain ⟨x, rfl, _, c0⟩ := H.out.at_ hlt
      have hsz := HZ.out ss[k] (List.getElem_mem _)
      have HT := Lib.hid (show ss.take (k + 1) = ss.take k ++ [ss[k]] from List.take_succ_eq_append_getElem hlt)
      generalize ss[k] = t at *
      by_cases hn : y < t.size
      · go_wp2
        go_ret
        exact ⟨_, rfl, Below.refl _ _, .inl rfl⟩
      · go_wp2
        go_round
        case rel =>
          refine ⟨k + 1, y - t.size, by omega, by go_num, val_int (by omega), by omega, fun s hs => ?_⟩
          rw [HT.out, List.mem_append] at hs
          rcases hs with hs | hs
          · exact HA.out s hs
          · rw [List.mem_singleton.1 hs]; omega
        case measure => simp [intOf]; omega
    · go_wp2
      go_ret
      refine ⟨_, rfl, Below.refl _ _, .inr ⟨by omega, by omega, by omega, fun s hs => HA.out s ?_⟩⟩
      rw [List.take_of_length_le (by omega)]; exact hs
theorem szFindN_any (s : ByteArray) (o : Bool) (y : Nat) (w : World) (hy : y ≤ 1048576) (hs : s.size ≤ maxLen) :
    Calls Try.prog 41 #[fdV s o, .int .i64 y] w (SzN w (s.size ≤ 1048576) y) := by
  unfold maxLen at hs
  by_cases h : y < s.size
  · go_enter Try.func41, Try.ntmps41
    go_wp2
    go_ret
    exact ⟨_, rfl, (Below.refl _ _).alloc (Nat.le_refl _) _, .inl rfl⟩
  · go_enter Try.func41, Try.ntmps41
    go_wp2
    go_ret
    exact ⟨_, rfl, (Below.refl _ _).alloc (Nat.le_refl _) _, .inr ⟨by omega, by omega, by omega⟩⟩
/-- the four lists of a line, read below B -/
def RL (W : World) (B : Nat) (vm : Value) (ms : List ByteArray) (vg : Value) (gs : List ByteArray) (vt : Value) (ts : List ByteArray) (vb : Value) (bs : List ByteArray) : Prop := RS W B vm ms ∧ RS W B vg gs ∧ RS W B vt ts ∧ RS W B vb bs
theorem RL.below {W W' : World} {B : Nat} {vm vg vt vb : Value} {ms gs ts bs : List ByteArray} (h : RL W B vm ms vg gs vt ts vb bs) (hb : Below B W W') : RL W' B vm ms vg gs vt ts vb bs := ⟨h.1.below hb, h.2.1.below hb, h.2.2.1.below hb, h.2.2.2.below hb⟩
theorem RL.mono {W : World} {B B' : Nat} {vm vg vt vb : Value} {ms gs ts bs : List ByteArray} (h : RL W B vm ms vg gs vt ts vb bs) (hB : B ≤ B') : RL W B' vm ms vg gs vt ts vb bs := ⟨h.1.mono hB, h.2.1.mono hB, h.2.2.1.mono hB, h.2.2.2.mono hB⟩
def wideS (ss : List ByteArray) : Prop := ss.length ≤ maxLen ∧ ∀ s ∈ ss, s.size ≤ maxLen
def smallLn (ms gs : List ByteArray) (T H : ByteArray) (ts bs : List ByteArray) : Prop := smallS ms ∧ smallS gs ∧ T.size ≤ 1048576 ∧ H.size ≤ 1048576 ∧ smallS ts ∧ smallS bs
set_option maxRecDepth 100000 in
set_option maxHeartbeats 4000000 in
theorem szLine_any (a b d m : Int) (vm : Value) (ms : List ByteArray) (nx : Int) (vg : Value) (gs : List ByteArray) (T : ByteArray) (to : Bool) (H : ByteArray) (ho : Bool) (vt : Value) (ts : List ByteArray) (vb : Value) (bs : List ByteArray) (w : World) (h : RL w w.heap.size vm ms vg gs vt ts vb bs) (hm : wideS ms) (hg : wideS gs) (hT : T.size ≤ maxLen) (hH : H.size ≤ maxLen) (ht : wideS ts) (hb : wideS bs) :
    Calls Try.prog 18 #[lnV a b d m vm nx vg T to H ho vt vb, .int .i64 1048576] w (SzN w (smallLn ms gs T H ts bs) 1048576) := by
  have HB := Lib.hid ((Below.refl _ w).alloc (Nat.le_refl _) (.cells #[.int .i64 a, .int .i64 b, .int .i64 d, .int .i64 m, vm, .int .i64 nx, vg, .string T, .bool to, .string H, .bool ho, vt, vb] 48))
  have hk := BK.new w #[.int .i64 a, .int .i64 b, .int .i64 d, .int .i64 m, vm, .int .i64 nx, vg, .string T, .bool to, .string H, .bool ho, vt, vb] 48
  obtain ⟨c0, c1, c2, c3, c4, c5, c6, c7, c8, c9, c10, c11, c12⟩ := cells13 hk
  have HR := Lib.hid (h.below ((Below.refl _ w).alloc (Nat.le_refl _) (.cells #[.int .i64 a, .int .i64 b, .int .i64 d, .int .i64 m, vm, .int .i64 nx, vg, .string T, .bool to, .string H, .bool ho, vt, vb] 48)))
  have HK := Lib.hid hk
  clear h hk
  go_enter Try.func18, Try.ntmps18
  go_wp2_with fail
  refine (szS_any vm ms 1048576 _ w.heap.size HR.out.1 (by omega) hm.1 hm.2).mono ?_
  rintro e x1 ⟨z, rfl, hbx, hz⟩
  have hk := HK.out.from hbx
  obtain ⟨c0, c1, c2, c3, c4, c5, c6, c7, c8, c9, c10, c11, c12⟩ := cells13 hk
  have HR := Lib.hid (HR.out.below (hbx.mono HB.out.size))
  have HB := Lib.hid (HB.out.trans (hbx.mono HB.out.size))
  have HK := Lib.hid hk
  clear hk hbx
  rcases hz with rfl | ⟨hz0, hz1, k1⟩
  · go_wp2
    go_ret
    exact ⟨_, rfl, HB.out, .inl rfl⟩
  obtain ⟨y1, rfl⟩ := Int.eq_ofNat_of_zero_le hz0
  have hy1 : y1 ≤ 1048576 := by omega
  have Hk1 := Lib.hid k1
  clear hz0 hz1 k1
  go_wp2_with fail
  refine (szS_any vg gs y1 _ w.heap.size HR.out.2.1 (by omega) hg.1 hg.2).mono ?_
  rintro e x2 ⟨z, rfl, hbx, hz⟩
  have hk := HK.out.from hbx
  obtain ⟨c0, c1, c2, c3, c4, c5, c6, c7, c8, c9, c10, c11, c12⟩ := cells13 hk
  have HR := Lib.hid (HR.out.below (hbx.mono HB.out.size))
  have HB := Lib.hid (HB.out.trans (hbx.mono HB.out.size))
  have HK := Lib.hid hk
  clear hk hbx
  rcases hz with rfl | ⟨hz0, hz1, k2⟩
  · go_wp2
    go_ret
    exact ⟨_, rfl, HB.out, .inl rfl⟩
  obtain ⟨y2, rfl⟩ := Int.eq_ofNat_of_zero_le hz0
  have hy2 : y2 ≤ 1048576 := by omega
  have Hk2 := Lib.hid k2
  clear hz0 hz1 k2
  go_wp2_with fail
  refine (szFindN_any T to y2 _ (by omega) hT).mono ?_
  rintro e x3 ⟨z, rfl, hbx, hz⟩
  have hk := HK.out.from hbx
  obtain ⟨c0, c1, c2, c3, c4, c5, c6, c7, c8, c9, c10, c11, c12⟩ := cells13 hk
  have HR := Lib.hid (HR.out.below (hbx.mono HB.out.size))
  have HB := Lib.hid (HB.out.trans (hbx.mono HB.out.size))
  have HK := Lib.hid hk
  clear hk hbx
  rcases hz with rfl | ⟨hz0, hz1, k3⟩
  · go_wp2
    go_ret
    exact ⟨_, rfl, HB.out, .inl rfl⟩
  obtain ⟨y3, rfl⟩ := Int.eq_ofNat_of_zero_le hz0
  have hy3 : y3 ≤ 1048576 := by omega
  have Hk3 := Lib.hid k3
  clear hz0 hz1 k3
  go_wp2_with fail
  refine (szFindN_any H ho y3 _ (by omega) hH).mono ?_
  rintro e x4 ⟨z, rfl, hbx, hz⟩
  have hk := HK.out.from hbx
  obtain ⟨c0, c1, c2, c3, c4, c5, c6, c7, c8, c9, c10, c11, c12⟩ := cells13 hk
  have HR := Lib.hid (HR.out.below (hbx.mono HB.out.size))
  have HB := Lib.hid (HB.out.trans (hbx.mono HB.out.size))
  have HK := Lib.hid hk
  clear hk hbx
  rcases hz with rfl | ⟨hz0, hz1, k4⟩
  · go_wp2
    go_ret
    exact ⟨_, rfl, HB.out, .inl rfl⟩
  obtain ⟨y4, rfl⟩ := Int.eq_ofNat_of_zero_le hz0
  have hy4 : y4 ≤ 1048576 := by omega
  have Hk4 := Lib.hid k4
  clear hz0 hz1 k4
  go_wp2_with fail
  refine (szS_any vt ts y4 _ w.heap.size HR.out.2.2.1 (by omega) ht.1 ht.2).mono ?_
  rintro e x5 ⟨z, rfl, hbx, hz⟩
  have hk := HK.out.from hbx
  obtain ⟨c0, c1, c2, c3, c4, c5, c6, c7, c8, c9, c10, c11, c12⟩ := cells13 hk
  have HR := Lib.hid (HR.out.below (hbx.mono HB.out.size))
  have HB := Lib.hid (HB.out.trans (hbx.mono HB.out.size))
  have HK := Lib.hid hk
  clear hk hbx
  rcases hz with rfl | ⟨hz0, hz1, k5⟩
  · go_wp2
    go_ret
    exact ⟨_, rfl, HB.out, .inl rfl⟩
  obtain ⟨y5, rfl⟩ := Int.eq_ofNat_of_zero_le hz0
  have hy5 : y5 ≤ 1048576 := by omega
  have Hk5 := Lib.hid k5
  clear hz0 hz1 k5
  go_wp2_with fail
  refine (szS_any vb bs y5 _ w.heap.size HR.out.2.2.2 (by omega) hb.1 hb.2).mono ?_
  rintro e x6 ⟨z, rfl, hbx, hz⟩
  have hk := HK.out.from hbx
  obtain ⟨c0, c1, c2, c3, c4, c5, c6, c7, c8, c9, c10, c11, c12⟩ := cells13 hk
  have HR := Lib.hid (HR.out.below (hbx.mono HB.out.size))
  have HB := Lib.hid (HB.out.trans (hbx.mono HB.out.size))
  have HK := Lib.hid hk
  clear hk hbx
  rcases hz with rfl | ⟨hz0, hz1, k6⟩
  · go_wp2
    go_ret
    exact ⟨_, rfl, HB.out, .inl rfl⟩
  obtain ⟨y6, rfl⟩ := Int.eq_ofNat_of_zero_le hz0
  have hy6 : y6 ≤ 1048576 := by omega
  have Hk6 := Lib.hid k6
  clear hz0 hz1 k6
  go_wp2
  go_ret
  exact ⟨_, rfl, HB.out, .inr ⟨by omega, by omega, Hk1.out, Hk2.out, Hk3.out, Hk4.out, Hk5.out, Hk6.out⟩⟩
theorem eqConf_same (a b d m : Int) (w : World) :
    Calls Try.prog 44 #[cfV a b d m, cfV a b d m] w fun e w' => e = .returned (.bool true) ∧ Below w.heap.size w w' := by
  go_enter Try.func44, Try.ntmps44
  go_wp2
  go_ret
  exact ⟨rfl, below2 _ _ _⟩
set_option maxRecDepth 100000 in
set_option maxHeartbeats 4000000 in
theorem eqLine_same (a b d m : Int) (vm : Value) (ms : List ByteArray) (nx : Int) (vg : Value) (gs : List ByteArray) (T : ByteArray) (to : Bool) (H : ByteArray) (ho : Bool) (vt : Value) (ts : List ByteArray) (vb : Value) (bs : List ByteArray) (vm' vg' vt' vb' : Value) (w : World) (B B' : Nat) (h : RL w B vm ms vg gs vt ts vb bs) (h' : RL w B' vm' ms vg' gs vt' ts vb' bs) (hB : B ≤ w.heap.size) (hB' : B' ≤ w.heap.size)
    (hm : ms.length ≤ 1048576) (hg : gs.length ≤ 1048576) (ht : ts.length ≤ 1048576) (hb : bs.length ≤ 1048576) :
    Calls Try.prog 21 #[lnV a b d m vm nx vg T to H ho vt vb, lnV a b d m vm' nx vg' T to H ho vt' vb'] w fun e w' => e = .returned (.bool true) ∧ Below w.heap.size w w' := by
  have HB := Lib.hid (((Below.refl _ w).alloc (Nat.le_refl _) (.cells #[.int .i64 a, .int .i64 b, .int .i64 d, .int .i64 m, vm, .int .i64 nx, vg, .string T, .bool to, .string H, .bool ho, vt, vb] 31)).alloc (by simp) (.cells #[.int .i64 a, .int .i64 b, .int .i64 d, .int .i64 m, vm', .int .i64 nx, vg', .string T, .bool to, .string H, .bool ho, vt', vb'] 31))
  have hk := (BK.new w #[.int .i64 a, .int .i64 b, .int .i64 d, .int .i64 m, vm, .int .i64 nx, vg, .string T, .bool to, .string H, .bool ho, vt, vb] 31).alloc (.cells #[.int .i64 a, .int .i64 b, .int .i64 d, .int .i64 m, vm', .int .i64 nx, vg', .string T, .bool to, .string H, .bool ho, vt', vb'] 31)
  have hj := BK.new (w.alloc (.cells #[.int .i64 a, .int .i64 b, .int .i64 d, .int .i64 m, vm, .int .i64 nx, vg, .string T, .bool to, .string H, .bool ho, vt, vb] 31)) #[.int .i64 a, .int .i64 b, .int .i64 d, .int .i64 m, vm', .int .i64 nx, vg', .string T, .bool to, .string H, .bool ho, vt', vb'] 31
  rw [World.size_alloc] at hj
  obtain ⟨c0, c1, c2, c3, c4, c5, c6, c7, c8, c9, c10, c11, c12⟩ := cells13 hk
  obtain ⟨e0, e1, e2, e3, e4, e5, e6, e7, e8, e9, e10, e11, e12⟩ := cells13 hj
  have HR := Lib.hid (h.below (((Below.refl B w).alloc hB (.cells #[.int .i64 a, .int .i64 b, .int .i64 d, .int .i64 m, vm, .int .i64 nx, vg, .string T, .bool to, .string H, .bool ho, vt, vb] 31)).alloc (by simp; omega) (.cells #[.int .i64 a, .int .i64 b, .int .i64 d, .int .i64 m, vm', .int .i64 nx, vg', .string T, .bool to, .string H, .bool ho, vt', vb'] 31)))
  have HR' := Lib.hid (h'.below (((Below.refl B' w).alloc hB' (.cells #[.int .i64 a, .int .i64 b, .int .i64 d, .int .i64 m, vm, .int .i64 nx, vg, .string T, .bool to, .string H, .bool ho, vt, vb] 31)).alloc (by simp; omega) (.cells #[.int .i64 a, .int .i64 b, .int .i64 d, .int .i64 m, vm', .int .i64 nx, vg', .string T, .bool to, .string H, .bool ho, vt', vb'] 31)))
  have HK := Lib.hid hk
  have HJ := Lib.hid hj
  have HW := Lib.hid (show w.heap.size ≤ ((w.alloc (.cells #[.int .i64 a, .int .i64 b, .int .i64 d, .int .i64 m, vm, .int .i64 nx, vg, .string T, .bool to, .string H, .bool ho, vt, vb] 31)).alloc (.cells #[.int .i64 a, .int .i64 b, .int .i64 d, .int .i64 m, vm', .int .i64 nx, vg', .string T, .bool to, .string H, .bool ho, vt', vb'] 31)).heap.size by simp; omega)
  clear h h' hk hj
  go_enter Try.func21, Try.ntmps21
  go_wp2_with fail
  refine (eqConf_same a b d m _).mono ?_
  rintro e x1 ⟨rfl, hbx⟩
  have hk := HK.out.from hbx
  have hj := HJ.out.from hbx
  obtain ⟨c0, c1, c2, c3, c4, c5, c6, c7, c8, c9, c10, c11, c12⟩ := cells13 hk
  obtain ⟨e0, e1, e2, e3, e4, e5, e6, e7, e8, e9, e10, e11, e12⟩ := cells13 hj
  have HR := Lib.hid (HR.out.below (hbx.mono (Nat.le_trans hB HW.out)))
  have HR' := Lib.hid (HR'.out.below (hbx.mono (Nat.le_trans hB' HW.out)))
  have HW := Lib.hid (Nat.le_trans HW.out hbx.size)
  have HB := Lib.hid (HB.out.trans (hbx.mono HB.out.size))
  have HK := Lib.hid hk
  have HJ := Lib.hid hj
  clear hk hj hbx
  go_wp2_with fail
  refine (eqStrs_same vm vm' ms _ B B' HR.out.1 HR'.out.1 (Nat.le_trans hB HW.out) (Nat.le_trans hB' HW.out) hm).mono ?_
  rintro e x2 ⟨rfl, hbx⟩
  have hk := HK.out.from hbx
  have hj := HJ.out.from hbx
  obtain ⟨c0, c1, c2, c3, c4, c5, c6, c7, c8, c9, c10, c11, c12⟩ := cells13 hk
  obtain ⟨e0, e1, e2, e3, e4, e5, e6, e7, e8, e9, e10, e11, e12⟩ := cells13 hj
  have HR := Lib.hid (HR.out.below (hbx.mono (Nat.le_trans hB HW.out)))
  have HR' := Lib.hid (HR'.out.below (hbx.mono (Nat.le_trans hB' HW.out)))
  have HW := Lib.hid (Nat.le_trans HW.out hbx.size)
  have HB := Lib.hid (HB.out.trans (hbx.mono HB.out.size))
  have HK := Lib.hid hk
  have HJ := Lib.hid hj
  clear hk hj hbx
  go_wp2_with fail
  refine (eqStrs_same vg vg' gs _ B B' HR.out.2.1 HR'.out.2.1 (Nat.le_trans hB HW.out) (Nat.le_trans hB' HW.out) hg).mono ?_
  rintro e x3 ⟨rfl, hbx⟩
  have hk := HK.out.from hbx
  have hj := HJ.out.from hbx
  obtain ⟨c0, c1, c2, c3, c4, c5, c6, c7, c8, c9, c10, c11, c12⟩ := cells13 hk
  obtain ⟨e0, e1, e2, e3, e4, e5, e6, e7, e8, e9, e10, e11, e12⟩ := cells13 hj
  have HR := Lib.hid (HR.out.below (hbx.mono (Nat.le_trans hB HW.out)))
  have HR' := Lib.hid (HR'.out.below (hbx.mono (Nat.le_trans hB' HW.out)))
  have HW := Lib.hid (Nat.le_trans HW.out hbx.size)
  have HB := Lib.hid (HB.out.trans (hbx.mono HB.out.size))
  have HK := Lib.hid hk
  have HJ := Lib.hid hj
  clear hk hj hbx
  go_wp2_with fail
  refine (eqFind_same T to _).mono ?_
  rintro e x4 ⟨rfl, hbx⟩
  have hk := HK.out.from hbx
  have hj := HJ.out.from hbx
  obtain ⟨c0, c1, c2, c3, c4, c5, c6, c7, c8, c9, c10, c11, c12⟩ := cells13 hk
  obtain ⟨e0, e1, e2, e3, e4, e5, e6, e7, e8, e9, e10, e11, e12⟩ := cells13 hj
  have HR := Lib.hid (HR.out.below (hbx.mono (Nat.le_trans hB HW.out)))
  have HR' := Lib.hid (HR'.out.below (hbx.mono (Nat.le_trans hB' HW.out)))
  have HW := Lib.hid (Nat.le_trans HW.out hbx.size)
  have HB := Lib.hid (HB.out.trans (hbx.mono HB.out.size))
  have HK := Lib.hid hk
  have HJ := Lib.hid hj
  clear hk hj hbx
  go_wp2_with fail
  refine (eqFind_same H ho _).mono ?_
  rintro e x5 ⟨rfl, hbx⟩
  have hk := HK.out.from hbx
  have hj := HJ.out.from hbx
  obtain ⟨c0, c1, c2, c3, c4, c5, c6, c7, c8, c9, c10, c11, c12⟩ := cells13 hk
  obtain ⟨e0, e1, e2, e3, e4, e5, e6, e7, e8, e9, e10, e11, e12⟩ := cells13 hj
  have HR := Lib.hid (HR.out.below (hbx.mono (Nat.le_trans hB HW.out)))
  have HR' := Lib.hid (HR'.out.below (hbx.mono (Nat.le_trans hB' HW.out)))
  have HW := Lib.hid (Nat.le_trans HW.out hbx.size)
  have HB := Lib.hid (HB.out.trans (hbx.mono HB.out.size))
  have HK := Lib.hid hk
  have HJ := Lib.hid hj
  clear hk hj hbx
  go_wp2_with fail
  refine (eqStrs_same vt vt' ts _ B B' HR.out.2.2.1 HR'.out.2.2.1 (Nat.le_trans hB HW.out) (Nat.le_trans hB' HW.out) ht).mono ?_
  rintro e x6 ⟨rfl, hbx⟩
  have hk := HK.out.from hbx
  have hj := HJ.out.from hbx
  obtain ⟨c0, c1, c2, c3, c4, c5, c6, c7, c8, c9, c10, c11, c12⟩ := cells13 hk
  obtain ⟨e0, e1, e2, e3, e4, e5, e6, e7, e8, e9, e10, e11, e12⟩ := cells13 hj
  have HR := Lib.hid (HR.out.below (hbx.mono (Nat.le_trans hB HW.out)))
  have HR' := Lib.hid (HR'.out.below (hbx.mono (Nat.le_trans hB' HW.out)))
  have HW := Lib.hid (Nat.le_trans HW.out hbx.size)
  have HB := Lib.hid (HB.out.trans (hbx.mono HB.out.size))
  have HK := Lib.hid hk
  have HJ := Lib.hid hj
  clear hk hj hbx
  go_wp2_with fail
  refine (eqStrs_same vb vb' bs _ B B' HR.out.2.2.2 HR'.out.2.2.2 (Nat.le_trans hB HW.out) (Nat.le_trans hB' HW.out) hb).mono ?_
  rintro e x7 ⟨rfl, hbx⟩
  have hk := HK.out.from hbx
  have hj := HJ.out.from hbx
  obtain ⟨c0, c1, c2, c3, c4, c5, c6, c7, c8, c9, c10, c11, c12⟩ := cells13 hk
  obtain ⟨e0, e1, e2, e3, e4, e5, e6, e7, e8, e9, e10, e11, e12⟩ := cells13 hj
  have HR := Lib.hid (HR.out.below (hbx.mono (Nat.le_trans hB HW.out)))
  have HR' := Lib.hid (HR'.out.below (hbx.mono (Nat.le_trans hB' HW.out)))
  have HW := Lib.hid (Nat.le_trans HW.out hbx.size)
  have HB := Lib.hid (HB.out.trans (hbx.mono HB.out.size))
  have HK := Lib.hid hk
  have HJ := Lib.hid hj
  clear hk hj hbx
  go_wp2
  go_ret
  exact ⟨rfl, HB.out⟩
end Go.Proofs.Ytdnedoafgfpnfaa
