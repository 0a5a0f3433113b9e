/- Draws for the laws of bytes and bits. -/
import Derived.Test.YtiknnebeaigkfaaDoorKitDraw
import Derived.Deep.RegionWith
namespace Go.Proofs.YtiknnebeaigkfaaDoor
open Go.ChangeShapes Go.WideShapes Go.ChangeAt Go.RowKit
theorem grown_drewn {a w : World} {row : Option Nat} (h : a.grownBy w row) : a.grownBy w.drew row := ⟨h.os, h.tape, h.output, h.size, h.block⟩
set_option maxRecDepth 100000 in
set_option maxHeartbeats 1000000 in
theorem full_any {w : World} {B g N : Nat} (h : Rd w B g N) (hN : N + 11 ≤ 1000000000) :
    Calls Tryd.prog 38 #[.pointer (some ⟨g, 0, none⟩)] w fun e w' => ∃ s : ByteArray, e = .returned (.string s) ∧ s.size ≤ 260 ∧ Rd w' B g (N + 11) ∧ w.grownBy w' (some g) := by
  obtain ⟨i0, hi, hz0, hz1, hz2⟩ := info_parts info_u8
  have HI := Lib.hid hi
  have HZ0 := Lib.hid hz0
  have HZ1 := Lib.hid hz1
  have HZ2 := Lib.hid hz2
  have HR := Lib.hid h
  have hgl := h.lt
  clear h hi hz0 hz1 hz2
  go_enter Tryd.func38, Tryd.ntmps38
  go_wp2_with fail
  refine (pick_any _ (HR.out.alloc _) (by omega)).mono ?_
  rintro e w1 ⟨⟨x, rfl, hx, _⟩, hr1, hg1⟩
  obtain ⟨h0, h1⟩ := hx (by omega)
  obtain ⟨n0, rfl⟩ := Int.eq_ofNat_of_zero_le h0
  have hn0 : n0 ≤ 7 := by omega
  have HR1 := Lib.hid hr1
  have HG1 := Lib.hid (grown_trans (World.grownBy_alloc w _ _) hg1)
  have HO1 := Lib.hid ((OB_empty 5 w w.heap.size (Nat.le_refl _)).keptg hg1 hgl)
  clear hr1 hg1 hx h0 h1
  go_wp2_with fail
  go_loopw [3, 4] (fun v n wr => ∃ (k : Nat) (l : List UInt8), k ≤ 250 + n0 ∧ n = .int .i64 k ∧ l.length + k = 250 + n0 ∧ OB 5 wr w.heap.size v l ∧ Rd wr B g (N + 1) ∧ w.grownBy wr (some g)) (fun _ n _ => (intOf n).toNat)
  case atStart => exact ⟨250 + n0, [], Nat.le_refl _, val_int (by omega), by simp, HO1.out, by simpa using HR1.out, HG1.out⟩
  case round =>
    obtain ⟨k, l, hk, rfl, hlk, hown, hrd, hgr⟩ := hrel
    have HO := Lib.hid hown
    have HRd := Lib.hid hrd
    have HGr := Lib.hid hgr
    have HLK := Lib.hid hlk
    have hll : l.length + k ≤ 250 + n0 := by omega
    have hsz : w.heap.size ≤ wr.heap.size := hgr.size
    clear hown hrd hgr hlk
    by_cases hpos : 0 < k
    · obtain ⟨q, hq⟩ : ∃ q, k % 255 = q := ⟨_, rfl⟩
      have hq2 : q < 255 := by omega
      have e3 : (k : Int) % 255 = (q : Int) := by omega
      have e4 : (k : Int).tmod 255 = (q : Int) := by rw [Int.tmod_eq_emod_of_nonneg (by omega)]; exact e3
      obtain ⟨b, hb⟩ : ∃ b : UInt8, byteV b = .int .u8 (1 + (q : Int)) := ⟨UInt8.ofNat (1 + q), by unfold byteV; rw [UInt8.toNat_ofNat']; exact val_int (by omega)⟩
      have HOA := Lib.hid hb
      clear hq hb
      go_wp2_with (at_builtin; refine wpList_append_OB _ rfl _ _ 22 rfl w.heap.size 5 i0 Tryd.underlying22 HI.out HZ0.out HZ1.out HZ2.out _ l rfl (HO.out.alloc _) ⟨wr.heap.size, 0, none⟩ 1 1 [b] rfl rfl (one_new wr _ _ _ HOA.out) (by simp; omega) (by simp; omega) ?_; intro v3 w3 hown3 hg3)
      go_roundw
      case rel =>
        have hlt3 := HO.out.lt
        refine ⟨k - 1, l ++ [b], by omega, val_int (by omega), by simp; have := HLK.out; omega, hown3, ?_, ?_⟩
        · refine (HRd.out.alloc _).grow hg3 (fun e => ?_) (fun j e => ?_)
          · have := (hlt3 g e).1; omega
          · have := (hlt3 j e).1
            have hB : B ≤ g := by obtain ⟨_, _, _, _, _, _, _, _, _, h5, _⟩ := HRd.out; exact h5
            omega
        · exact grown_own (grown_alloc HGr.out _) hg3 (fun j e => (hlt3 j e).1)
      case measure => simp [intOf]; omega
    · go_wp2
      have hcv := run_string_of_OB (P := Tryd.prog) wr.drew 22 9 5 w.heap.size _ _ Tryd.underlying22 Tryd.underlying5 Tryd.underlying9 HO.out.drew
      go_region_with (first | (go_at_call 30; (refine (bytes_any (B := B) (N := N + 1) 3 (by exact HRd.out) (by omega) (by omega)).mono ?_; rintro e w3 ⟨t, rfl, ht, hr3, hg3⟩; have HR3 := Lib.hid hr3; have hcv3 := run_string_of_OB (P := Tryd.prog) w3 22 9 5 w.heap.size _ _ Tryd.underlying22 Tryd.underlying5 Tryd.underlying9 (HO.out.drew.keptg hg3 hgl); (first | (have HG3 := Lib.hid (grown_trans HGr.out hg3)) | (have HG3 := Lib.hid (grown_trans (grown_drewn HGr.out) hg3))); clear hr3 hg3)))
      all_goals go_wp2
      all_goals go_ret
      all_goals
        refine ⟨_, rfl, ?_, HR3.out.mono (by omega), HG3.out⟩
        have hls : (⟨l.toArray⟩ : ByteArray).size = l.length := by show l.toArray.size = _; simp
        rw [ByteArray.size_append, hls]
        omega
set_option maxRecDepth 100000 in
set_option maxHeartbeats 2000000 in
theorem some_any {w : World} {B g N : Nat} (h : Rd w B g N) (hN : N + 200 ≤ 1000000000) :
    Calls Tryd.prog 22 #[.pointer (some ⟨g, 0, none⟩)] w fun e w' => ∃ s : ByteArray, e = .returned (.string s) ∧ s.size ≤ 780 ∧ Rd w' B g (N + 200) ∧ w.grownBy w' (some g) := by
  have HR := Lib.hid h
  clear h
  go_enter Tryd.func22, Tryd.ntmps22
  go_wp2_with fail
  refine (pick_any _ HR.out (by omega)).mono ?_
  rintro e w1 ⟨⟨x, rfl, hx, _⟩, hr1, hg1⟩
  have HR1 := Lib.hid hr1
  have HG1 := Lib.hid hg1
  clear hr1 hg1 hx
  by_cases hx0 : x = 0
  · subst hx0
    go_wp2_with fail
    refine (full_any HR1.out (by omega)).mono ?_
    rintro e w2 ⟨s, rfl, hs, hr2, hg2⟩
    have HR2 := Lib.hid hr2
    have HG2 := Lib.hid (grown_trans HG1.out hg2)
    clear hr2 hg2
    go_wp2
    go_ret
    exact ⟨s, rfl, by omega, HR2.out.mono (by omega), HG2.out⟩
  have b0 : (x == 0) = false := beq_eq_false_iff_ne.2 hx0
  by_cases hx1 : x = 1
  · subst hx1
    clear hx0 b0
    go_wp2_with fail
    refine (full_any HR1.out (by omega)).mono ?_
    rintro e w2 ⟨s2, rfl, hs2, hr, hg⟩
    have HR2 := Lib.hid hr
    have HG2 := Lib.hid (grown_trans HG1.out hg)
    clear hr hg
    go_wp2_with fail
    refine (full_any HR2.out (by omega)).mono ?_
    rintro e w3 ⟨s3, rfl, hs3, hr, hg⟩
    have HR3 := Lib.hid hr
    have HG3 := Lib.hid (grown_trans HG2.out hg)
    clear hr hg
    go_wp2
    go_ret
    exact ⟨_, rfl, by rw [ByteArray.size_append]; omega, HR3.out.mono (by omega), HG3.out⟩
  have b1 : (x == 1) = false := beq_eq_false_iff_ne.2 hx1
  by_cases hx2 : x = 2
  · subst hx2
    clear hx0 b0 hx1 b1
    go_wp2
    go_ret
    exact ⟨_, rfl, by show 0 ≤ 780; omega, HR1.out.mono (by omega), HG1.out⟩
  have b2 : (x == 2) = false := beq_eq_false_iff_ne.2 hx2
  by_cases hx3 : x = 3
  · subst hx3
    clear hx0 b0 hx1 b1 hx2 b2
    go_wp2_with fail
    refine (full_any HR1.out (by omega)).mono ?_
    rintro e w2 ⟨s2, rfl, hs2, hr, hg⟩
    have HR2 := Lib.hid hr
    have HG2 := Lib.hid (grown_trans HG1.out hg)
    clear hr hg
    go_wp2_with fail
    refine (full_any HR2.out (by omega)).mono ?_
    rintro e w3 ⟨s3, rfl, hs3, hr, hg⟩
    have HR3 := Lib.hid hr
    have HG3 := Lib.hid (grown_trans HG2.out hg)
    clear hr hg
    go_wp2_with fail
    refine (full_any HR3.out (by omega)).mono ?_
    rintro e w4 ⟨s4, rfl, hs4, hr, hg⟩
    have HR4 := Lib.hid hr
    have HG4 := Lib.hid (grown_trans HG3.out hg)
    clear hr hg
    go_wp2
    go_ret
    exact ⟨_, rfl, by rw [ByteArray.size_append, ByteArray.size_append]; omega, HR4.out.mono (by omega), HG4.out⟩
  have b3 : (x == 3) = false := beq_eq_false_iff_ne.2 hx3
  go_wp2_with fail
  refine (bytes_any 30 HR1.out (by omega) (by omega)).mono ?_
  rintro e w2 ⟨s, rfl, hs, hr2, hg2⟩
  have HR2 := Lib.hid hr2
  have HG2 := Lib.hid (grown_trans HG1.out hg2)
  clear hr2 hg2
  go_wp2
  go_ret
  exact ⟨s, rfl, by omega, HR2.out.mono (by omega), HG2.out⟩
end Go.Proofs.YtiknnebeaigkfaaDoor
