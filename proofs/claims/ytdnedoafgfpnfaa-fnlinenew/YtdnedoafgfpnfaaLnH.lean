/- Two lines that are the same, as the laws of the line compare them. -/
import Derived.Test.YtdnedoafgfpnfaaLnE
import Derived.Laws.StructEq
namespace Go.Proofs.Ytdnedoafgfpnfaa
open Go.ChangeShapes Go.WideShapes Go.ChangeAt Go.RowKit
theorem lnf_fd : Try.prog.underlying 29 = some (.struct (Try.prog.fieldsOf 29)) := by kernel_rfl
theorem lnh_fd : Try.prog.stoodInHeld 29 = false := by kernel_rfl
theorem lng_fd : Try.prog.eqGuardType Try.prog.depth 29 = false := by kernel_rfl
theorem lnFd_eq (d : Nat) (t : ByteArray) (o : Bool) (w : World) : (Op.equalIn (d + 2) 29 (fdV t o) (fdV t o)).run Try.prog w = .ok true w := by
  rw [run_equalIn_agg w (d + 1) _ _ _ lnf_fd lnh_fd]
  simp [go_sem, Try.underlying29]
theorem lnFd_eql (t : ByteArray) (o : Bool) (w : World) : (binOp .eql 29 (fdV t o) (fdV t o)).run Try.prog w = .ok (.bool true) w := by
  rw [run_eql_struct, lnFd_eq 9998]; rfl
theorem lnf_cf : Try.prog.underlying 24 = some (.struct (Try.prog.fieldsOf 24)) := by kernel_rfl
theorem lnh_cf : Try.prog.stoodInHeld 24 = false := by kernel_rfl
theorem lng_cf : Try.prog.eqGuardType Try.prog.depth 24 = false := by kernel_rfl
theorem lnCf_eq (k : Nat) (a b d m : Int) (w : World) : (Op.equalIn (k + 2) 24 (cfV a b d m) (cfV a b d m)).run Try.prog w = .ok true w := by
  rw [run_equalIn_agg w (k + 1) _ _ _ lnf_cf lnh_cf]
  simp [go_sem, Try.underlying24]
theorem lnCf_eql (a b d m : Int) (w : World) : (binOp .eql 24 (cfV a b d m) (cfV a b d m)).run Try.prog w = .ok (.bool true) w := by
  rw [run_eql_struct, lnCf_eq 9998]; rfl
set_option maxRecDepth 100000 in
set_option maxHeartbeats 1000000 in
theorem ctTexts_same (v v' : Value) (ss : List ByteArray) (w : World) (B B' : Nat) (h : RS w B v ss) (h' : RS w B' v' ss) (hB : B ≤ w.heap.size) (hB' : B' ≤ w.heap.size) (hl : ss.length ≤ 1048576) :
    Calls Try.prog 12 #[v, v'] w fun e w' => e = .returned (.bool true) ∧ Below w.heap.size w w' := by
  obtain ⟨a, cap, rfl⟩ := h.shape
  obtain ⟨a', cap', rfl⟩ := h'.shape
  have H := Lib.hid h
  have H' := Lib.hid h'
  clear h h'
  go_enter Try.func12, Try.ntmps12
  go_wp2
  go_loopw [5] (fun j wr => ∃ k : Nat, k ≤ ss.length ∧ j = .int .i64 k ∧ Below w.heap.size w wr) (fun j _ => ss.length - (intOf j).toNat)
  case atStart => exact ⟨0, Nat.zero_le _, rfl, Below.refl _ _⟩
  case round =>
    obtain ⟨k, hk, rfl, hb⟩ := hrel
    have HB := Lib.hid hb
    by_cases hlt : k < ss.length
    · obtain ⟨x, rfl, _, c0⟩ := (H.out.below (hb.mono hB)).at_ hlt
      obtain ⟨x', rfl, _, c0'⟩ := (H'.out.below (hb.mono hB')).at_ hlt
      clear hb
      generalize ss[k] = t at *
      go_wp2_with fail
      go_region
      all_goals
        go_wp2
        go_roundw
        case rel => exact ⟨k + 1, by omega, by go_num, HB.out.drew⟩
        case measure => simp [intOf]; omega
    · go_wp2
      go_ret
      exact ⟨rfl, HB.out⟩
set_option maxRecDepth 100000 in
set_option maxHeartbeats 4000000 in
theorem ctLine_same (a b d m : Int) (vm : Value) (ms : List ByteArray) (nx : Int) (vg : Value) (gs : List ByteArray) (T : ByteArray) (to : Bool) (H : ByteArray) (ho : Bool) (vt : Value) (ts : List ByteArray) (vb : Value) (bs : List ByteArray) (vm' vg' vt' vb' : Value) (w : World) (B B' : Nat) (h : RL w B vm ms vg gs vt ts vb bs) (h' : RL w B' vm' ms vg' gs vt' ts vb' bs) (hB : B ≤ w.heap.size) (hB' : B' ≤ w.heap.size)
    (hm : ms.length ≤ 1048576) (hg : gs.length ≤ 1048576) (ht : ts.length ≤ 1048576) (hb : bs.length ≤ 1048576) :
    Calls Try.prog 9 #[lnV a b d m vm nx vg T to H ho vt vb, lnV a b d m vm' nx vg' T to H ho vt' vb'] w fun e w' => e = .returned (.bool true) ∧ Below w.heap.size w w' := by
  have HB := Lib.hid (((Below.refl _ w).alloc (Nat.le_refl _) (.cells #[.int .i64 a, .int .i64 b, .int .i64 d, .int .i64 m, vm, .int .i64 nx, vg, .string T, .bool to, .string H, .bool ho, vt, vb] 31)).alloc (by simp) (.cells #[.int .i64 a, .int .i64 b, .int .i64 d, .int .i64 m, vm', .int .i64 nx, vg', .string T, .bool to, .string H, .bool ho, vt', vb'] 31))
  have hk := (BK.new w #[.int .i64 a, .int .i64 b, .int .i64 d, .int .i64 m, vm, .int .i64 nx, vg, .string T, .bool to, .string H, .bool ho, vt, vb] 31).alloc (.cells #[.int .i64 a, .int .i64 b, .int .i64 d, .int .i64 m, vm', .int .i64 nx, vg', .string T, .bool to, .string H, .bool ho, vt', vb'] 31)
  have hj := BK.new (w.alloc (.cells #[.int .i64 a, .int .i64 b, .int .i64 d, .int .i64 m, vm, .int .i64 nx, vg, .string T, .bool to, .string H, .bool ho, vt, vb] 31)) #[.int .i64 a, .int .i64 b, .int .i64 d, .int .i64 m, vm', .int .i64 nx, vg', .string T, .bool to, .string H, .bool ho, vt', vb'] 31
  rw [World.size_alloc] at hj
  obtain ⟨c0, c1, c2, c3, c4, c5, c6, c7, c8, c9, c10, c11, c12⟩ := cells13 hk
  obtain ⟨e0, e1, e2, e3, e4, e5, e6, e7, e8, e9, e10, e11, e12⟩ := cells13 hj
  have HR := Lib.hid (h.below (((Below.refl B w).alloc hB (.cells #[.int .i64 a, .int .i64 b, .int .i64 d, .int .i64 m, vm, .int .i64 nx, vg, .string T, .bool to, .string H, .bool ho, vt, vb] 31)).alloc (by simp; omega) (.cells #[.int .i64 a, .int .i64 b, .int .i64 d, .int .i64 m, vm', .int .i64 nx, vg', .string T, .bool to, .string H, .bool ho, vt', vb'] 31)))
  have HR' := Lib.hid (h'.below (((Below.refl B' w).alloc hB' (.cells #[.int .i64 a, .int .i64 b, .int .i64 d, .int .i64 m, vm, .int .i64 nx, vg, .string T, .bool to, .string H, .bool ho, vt, vb] 31)).alloc (by simp; omega) (.cells #[.int .i64 a, .int .i64 b, .int .i64 d, .int .i64 m, vm', .int .i64 nx, vg', .string T, .bool to, .string H, .bool ho, vt', vb'] 31)))
  have HK := Lib.hid hk
  have HJ := Lib.hid hj
  have HW := Lib.hid (show w.heap.size ≤ ((w.alloc (.cells #[.int .i64 a, .int .i64 b, .int .i64 d, .int .i64 m, vm, .int .i64 nx, vg, .string T, .bool to, .string H, .bool ho, vt, vb] 31)).alloc (.cells #[.int .i64 a, .int .i64 b, .int .i64 d, .int .i64 m, vm', .int .i64 nx, vg', .string T, .bool to, .string H, .bool ho, vt', vb'] 31)).heap.size by simp; omega)
  have q1 := lnCf_eql a b d m
  have q2 := lnFd_eql T to
  have q3 := lnFd_eql H ho
  have q4 := lng_fd
  have q5 := lng_cf
  have q6 := lnCf_eq 9998 a b d m
  have q7 := lnFd_eq 9998 T to
  have q8 := lnFd_eq 9998 H ho
  clear h h' hk hj
  go_enter Try.func9, Try.ntmps9
  go_wp2_with fail
  refine (ctTexts_same vm vm' ms _ B B' HR.out.1 HR'.out.1 (Nat.le_trans hB HW.out) (Nat.le_trans hB' HW.out) hm).mono ?_
  rintro e x2 ⟨rfl, hbx⟩
  have hk := HK.out.from hbx
  have hj := HJ.out.from hbx
  obtain ⟨c0, c1, c2, c3, c4, c5, c6, c7, c8, c9, c10, c11, c12⟩ := cells13 hk
  obtain ⟨e0, e1, e2, e3, e4, e5, e6, e7, e8, e9, e10, e11, e12⟩ := cells13 hj
  have HR := Lib.hid (HR.out.below (hbx.mono (Nat.le_trans hB HW.out)))
  have HR' := Lib.hid (HR'.out.below (hbx.mono (Nat.le_trans hB' HW.out)))
  have HW := Lib.hid (Nat.le_trans HW.out hbx.size)
  have HB := Lib.hid (HB.out.trans (hbx.mono HB.out.size))
  have HK := Lib.hid hk
  have HJ := Lib.hid hj
  clear hk hj hbx
  go_wp2_with fail
  refine (ctTexts_same vg vg' gs _ B B' HR.out.2.1 HR'.out.2.1 (Nat.le_trans hB HW.out) (Nat.le_trans hB' HW.out) hg).mono ?_
  rintro e x3 ⟨rfl, hbx⟩
  have hk := HK.out.from hbx
  have hj := HJ.out.from hbx
  obtain ⟨c0, c1, c2, c3, c4, c5, c6, c7, c8, c9, c10, c11, c12⟩ := cells13 hk
  obtain ⟨e0, e1, e2, e3, e4, e5, e6, e7, e8, e9, e10, e11, e12⟩ := cells13 hj
  have HR := Lib.hid (HR.out.below (hbx.mono (Nat.le_trans hB HW.out)))
  have HR' := Lib.hid (HR'.out.below (hbx.mono (Nat.le_trans hB' HW.out)))
  have HW := Lib.hid (Nat.le_trans HW.out hbx.size)
  have HB := Lib.hid (HB.out.trans (hbx.mono HB.out.size))
  have HK := Lib.hid hk
  have HJ := Lib.hid hj
  clear hk hj hbx
  go_wp2_with fail
  refine (ctTexts_same vt vt' ts _ B B' HR.out.2.2.1 HR'.out.2.2.1 (Nat.le_trans hB HW.out) (Nat.le_trans hB' HW.out) ht).mono ?_
  rintro e x6 ⟨rfl, hbx⟩
  have hk := HK.out.from hbx
  have hj := HJ.out.from hbx
  obtain ⟨c0, c1, c2, c3, c4, c5, c6, c7, c8, c9, c10, c11, c12⟩ := cells13 hk
  obtain ⟨e0, e1, e2, e3, e4, e5, e6, e7, e8, e9, e10, e11, e12⟩ := cells13 hj
  have HR := Lib.hid (HR.out.below (hbx.mono (Nat.le_trans hB HW.out)))
  have HR' := Lib.hid (HR'.out.below (hbx.mono (Nat.le_trans hB' HW.out)))
  have HW := Lib.hid (Nat.le_trans HW.out hbx.size)
  have HB := Lib.hid (HB.out.trans (hbx.mono HB.out.size))
  have HK := Lib.hid hk
  have HJ := Lib.hid hj
  clear hk hj hbx
  go_wp2_with fail
  refine (ctTexts_same vb vb' bs _ B B' HR.out.2.2.2 HR'.out.2.2.2 (Nat.le_trans hB HW.out) (Nat.le_trans hB' HW.out) hb).mono ?_
  rintro e x7 ⟨rfl, hbx⟩
  have hk := HK.out.from hbx
  have hj := HJ.out.from hbx
  obtain ⟨c0, c1, c2, c3, c4, c5, c6, c7, c8, c9, c10, c11, c12⟩ := cells13 hk
  obtain ⟨e0, e1, e2, e3, e4, e5, e6, e7, e8, e9, e10, e11, e12⟩ := cells13 hj
  have HR := Lib.hid (HR.out.below (hbx.mono (Nat.le_trans hB HW.out)))
  have HR' := Lib.hid (HR'.out.below (hbx.mono (Nat.le_trans hB' HW.out)))
  have HW := Lib.hid (Nat.le_trans HW.out hbx.size)
  have HB := Lib.hid (HB.out.trans (hbx.mono HB.out.size))
  have HK := Lib.hid hk
  have HJ := Lib.hid hj
  clear hk hj hbx
  go_wp2
  go_ret
  exact ⟨rfl, HB.out⟩
end Go.Proofs.Ytdnedoafgfpnfaa
