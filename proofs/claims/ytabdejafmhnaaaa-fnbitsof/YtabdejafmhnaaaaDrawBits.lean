/- Draws of bits. -/
import Derived.Test.YtabdejafmhnaaaaDrawC
import Derived.Test.YtabdejafmhnaaaaBitsA
namespace Go.Proofs.Ytabdejafmhnaaaa
open Go.ChangeShapes Go.WideShapes Go.ChangeAt Go.RowKit

set_option maxRecDepth 100000 in
set_option maxHeartbeats 1000000 in
theorem bits_any {w : World} {B g N : Nat} (most : Nat) (h : Rd w B g N) (hm : most ≤ 1000000) (hN : N + most + 1 ≤ 1000000000) :
    Calls Try.prog 55 #[.pointer (some ⟨g, 0, none⟩), .int .i64 most] w fun e w' => ∃ s : ByteArray, e = .returned (.string s) ∧ s.size ≤ most ∧ s.data.toList.all bitB = true ∧ Rd w' B g (N + most + 1) ∧ w.grownBy w' (some g) := by
  obtain ⟨i0, hi, hz0, hz1, hz2⟩ := info_parts info_u8
  have HI := Lib.hid hi
  have HZ0 := Lib.hid hz0
  have HZ1 := Lib.hid hz1
  have HZ2 := Lib.hid hz2
  have HR := Lib.hid h
  have hgl := h.lt
  clear h hi hz0 hz1 hz2
  go_enter Try.func55, Try.ntmps55
  go_wp2_with fail
  refine (pick_any _ (HR.out.alloc _) (by omega)).mono ?_
  rintro e w1 ⟨⟨x, rfl, hx, _⟩, hr1, hg1⟩
  obtain ⟨h0, h1⟩ := hx (by omega)
  obtain ⟨n0, rfl⟩ := Int.eq_ofNat_of_zero_le h0
  have hn0 : n0 ≤ most := by omega
  have HR1 := Lib.hid hr1
  have HG1 := Lib.hid (grown_trans (World.grownBy_alloc w _ _) hg1)
  have HO1 := Lib.hid ((OB_empty 5 w w.heap.size (Nat.le_refl _)).keptg hg1 hgl)
  clear hr1 hg1 hx h0 h1
  go_wp2_with fail
  go_loopw [5, 6] (fun v n wr => ∃ (k : Nat) (l : List UInt8), k ≤ n0 ∧ n = .int .i64 k ∧ l.length + k = n0 ∧ l.all bitB = true ∧ OB 5 wr w.heap.size v l ∧ Rd wr B g (N + 1 + l.length) ∧ w.grownBy wr (some g)) (fun _ n _ => (intOf n).toNat)
  case atStart => exact ⟨n0, [], Nat.le_refl _, rfl, by simp, rfl, HO1.out, by simpa using HR1.out, HG1.out⟩
  case round =>
    obtain ⟨k, l, hk, rfl, hlk, hlb, hown, hrd, hgr⟩ := hrel
    have HO := Lib.hid hown
    have HRd := Lib.hid hrd
    have HGr := Lib.hid hgr
    have HLK := Lib.hid hlk
    have HLB := Lib.hid hlb
    have hll : l.length + k ≤ n0 := by omega
    have hsz0 : w.heap.size ≤ wr.heap.size := hgr.size
    clear hown hrd hgr hlk hlb
    by_cases hpos : 0 < k
    · go_wp2_with fail
      refine (one_any [0, 1, 1, 1] 3 (HRd.out.alloc _) (by omega) (by simp) (by simp) (by omega) (list_row wr _ _ _ rfl)).mono ?_
      rintro e w2 ⟨q, hq, rfl, hr2, hg2⟩
      have hq01 : q = 0 ∨ q = 1 := by simp at hq; omega
      have HR2 := Lib.hid hr2
      have HG2 := Lib.hid (grown_trans (grown_alloc HGr.out _) hg2)
      have HO2 := Lib.hid ((HO.out.alloc _).keptg hg2 hgl)
      have hsz : w.heap.size ≤ w2.heap.size := HG2.out.size
      clear hr2 hg2 hq
      have hfin : ∀ (b : UInt8) (v3 : Value) (w3 : World), bitB b = true → OB 5 w3 w.heap.size v3 (l ++ [b]) → (w2.alloc (.cells #[byteV b] 5)).grownBy w3 u5.ownBlock →
          ∃ (k' : Nat) (l' : List UInt8), k' ≤ n0 ∧ Value.int .i64 ((k : Int) - 1) = .int .i64 k' ∧ l'.length + k' = n0 ∧ l'.all bitB = true ∧ OB 5 w3 w.heap.size v3 l' ∧ Rd w3 B g (N + 1 + l'.length) ∧ w.grownBy w3 (some g) := by
        intro b v3 w3 hbb hown3 hg3
        have hlt3 := HO2.out.lt
        refine ⟨k - 1, l ++ [b], by omega, val_int (by omega), by simp; have := HLK.out; omega, by rw [List.all_append, HLB.out]; simp [hbb], hown3, ?_, ?_⟩
        · rw [show N + 1 + (l ++ [b]).length = N + 1 + l.length + 1 by simp; omega]
          refine (HR2.out.alloc _).grow hg3 (fun e => ?_) (fun j e => ?_)
          · have := (hlt3 g e).1; omega
          · have := (hlt3 j e).1
            have hB : B ≤ g := by obtain ⟨_, _, _, _, _, _, _, _, _, h5, _⟩ := HR2.out; exact h5
            omega
        · exact grown_own (grown_alloc HG2.out _) hg3 (fun j e => (hlt3 j e).1)
      have HF := Lib.hid hfin
      clear hfin
      rcases hq01 with rfl | rfl
      · go_wp2_with (at_builtin; refine wpList_append_OB _ rfl _ _ 22 rfl w.heap.size 5 i0 Try.underlying22 HI.out HZ0.out HZ1.out HZ2.out _ l rfl (HO2.out.alloc _) ⟨w2.heap.size, 0, none⟩ 1 1 [48] rfl rfl (one_new w2 _ _ _ rfl) (by simp; omega) (by simp; omega) ?_; intro v3 w3 hown3 hg3)
        go_roundw
        case rel => exact HF.out 48 v3 w3 rfl hown3 hg3
        case measure => simp [intOf]; omega
      · go_wp2_with (at_builtin; refine wpList_append_OB _ rfl _ _ 22 rfl w.heap.size 5 i0 Try.underlying22 HI.out HZ0.out HZ1.out HZ2.out _ l rfl (HO2.out.alloc _) ⟨w2.heap.size, 0, none⟩ 1 1 [49] rfl rfl (one_new w2 _ _ _ rfl) (by simp; omega) (by simp; omega) ?_; intro v3 w3 hown3 hg3)
        go_roundw
        case rel => exact HF.out 49 v3 w3 rfl hown3 hg3
        case measure => simp [intOf]; omega
    · go_wp2_with (refine wpList_string_of_OB _ rfl 22 9 5 _ rfl w.heap.size _ _ rfl Try.underlying22 Try.underlying5 Try.underlying9 HO.out ?_)
      go_ret
      refine ⟨⟨l.toArray⟩, rfl, ?_, by simpa using HLB.out, HRd.out.mono (by omega), HGr.out⟩
      show l.toArray.size ≤ most
      simp; omega

def lenS : Value → Nat | .string s => s.size | _ => 0
set_option maxRecDepth 100000 in
set_option maxHeartbeats 1000000 in
theorem anyBits_any {w : World} {B g N : Nat} (h : Rd w B g N) (hN : N + 100 ≤ 1000000000) :
    Calls Try.prog 47 #[.pointer (some ⟨g, 0, none⟩)] w fun e w' => ∃ s : ByteArray, e = .returned (.string s) ∧ s.size ≤ 1205 ∧ Rd w' B g (N + 100) ∧ w.grownBy w' (some g) := by
  have HR := Lib.hid h
  have hgl := h.lt
  clear h
  go_enter Try.func47, Try.ntmps47
  go_wp2_with fail
  refine (one_any [0, 8, 40, 90] 3 (HR.out.alloc _) (by omega) (by simp) (by simp) (by omega) (list_row w _ _ _ rfl)).mono ?_
  rintro e w1 ⟨q, hq, rfl, hr1, hg1⟩
  have hq2 : 0 ≤ q ∧ q ≤ 90 := by simp at hq; omega
  obtain ⟨hq0, hq9⟩ := hq2
  obtain ⟨m, rfl⟩ := Int.eq_ofNat_of_zero_le hq0
  have HR1 := Lib.hid hr1
  have HG1 := Lib.hid (grown_trans (World.grownBy_alloc w _ _) hg1)
  clear hr1 hg1 hq
  go_wp2_with fail
  refine (bits_any m HR1.out (by omega) (by omega)).mono ?_
  rintro e w2 ⟨s, rfl, hs, hsb, hr2, hg2⟩
  have HR2 := Lib.hid (hr2.mono (show N + 1 + m + 1 ≤ N + 92 by omega))
  have HG2 := Lib.hid (grown_trans HG1.out hg2)
  clear hr2 hg2 hsb
  go_wp2_with fail
  refine (pick_any _ HR2.out (by omega)).mono ?_
  rintro e w3 ⟨⟨x, rfl, hx, _⟩, hr3, hg3⟩
  obtain ⟨h0, h1⟩ := hx (by omega)
  have HR3 := Lib.hid hr3
  have HG3 := Lib.hid (grown_trans HG2.out hg3)
  clear hr3 hg3 hx
  by_cases hx0 : x = 0
  · subst hx0
    go_wp2
    go_ret
    refine ⟨_, rfl, ?_, HR3.out.mono (by omega), HG3.out⟩
    have h1s : (⟨#[50]⟩ : ByteArray).size = 1 := rfl
    rw [ByteArray.size_append, h1s]; omega
  · have hb0 : ((x : Int) == 0) = false := beq_eq_false_iff_ne.2 hx0
    by_cases hx1 : x = 1
    · subst hx1
      go_wp2
      go_loop [3] (fun v => ∃ t : ByteArray, v = .string t ∧ t.size ≤ 1205) (fun v => 1300 - lenS v)
      case atStart => exact ⟨s, rfl, by omega⟩
      case round =>
        obtain ⟨t, rfl, ht⟩ := hrel
        by_cases hl : t.size < 1201
        · go_wp2
          go_round
          case rel =>
            refine ⟨_, rfl, ?_⟩
            have h4 : (⟨#[49, 49, 48, 49]⟩ : ByteArray).size = 4 := rfl
            rw [ByteArray.size_append, h4]; omega
          case measure =>
            have h4 : (⟨#[49, 49, 48, 49]⟩ : ByteArray).size = 4 := rfl
            simp [lenS, ByteArray.size_append, h4]; omega
        · go_wp2
          go_ret
          exact ⟨t, rfl, ht, HR3.out.mono (by omega), HG3.out⟩
    · have hb1 : ((x : Int) == 1) = false := beq_eq_false_iff_ne.2 hx1
      go_wp2
      go_ret
      exact ⟨s, rfl, by omega, HR3.out.mono (by omega), HG3.out⟩
end Go.Proofs.Ytabdejafmhnaaaa
