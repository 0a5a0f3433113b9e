/- VarPut, in the program and in the model. -/
import Derived.Test.YthbijeicdjpbeaaVarA
import Derived.Test.YthbijeicdjpbeaaKitA
import Derived.Test.YthbijeicdjpbeaaKitBits
namespace Go.Proofs.Ythbijeicdjpbeaa
open Go.ChangeShapes Go.WideShapes Go.ChangeAt Go.RowKit
set_option maxRecDepth 100000 in
set_option maxHeartbeats 4000000 in
theorem implVarPut_any (n : Int) (w : World) (hn : n ≤ 9223372036854775807) :
    Calls Try.prog 18 #[.int .i64 n] w fun e w' => e = .returned (.string ⟨(putVI n).toArray⟩) ∧ Below w.heap.size w w' := by
  by_cases hneg : n < 0
  · have HE := Lib.hid (show putVI n = [] by unfold putVI; rw [if_pos hneg])
    go_enter Try.func18, Try.ntmps18
    go_wp2
    go_ret
    exact ⟨by rw [HE.out]; rfl, Below.refl _ _⟩
  obtain ⟨n0, rfl⟩ := Int.eq_ofNat_of_zero_le (show 0 ≤ n by omega)
  have HPE := Lib.hid (show putVI (n0 : Int) = putV n0 by unfold putVI; rw [if_neg hneg]; rfl)
  have HLN := Lib.hid (putV_nine (n := n0) (by omega)).2
  obtain ⟨i0, hi, hz0, hz1, hz2⟩ := info_parts info_u8
  have HI := Lib.hid hi
  have HZ0 := Lib.hid hz0
  have HZ1 := Lib.hid hz1
  have HZ2 := Lib.hid hz2
  clear hi hz0 hz1 hz2 hneg
  go_enter Try.func18, Try.ntmps18
  go_wp2
  go_loopw [0, 3] (fun i v wr => ∃ (m : Nat) (pre : List UInt8), m ≤ n0 ∧ i = .int .i64 m ∧ putV n0 = pre ++ putV m ∧ OB 5 wr w.heap.size v pre ∧ Below w.heap.size w wr) (fun i _ _ => (intOf i).toNat)
  case atStart => exact ⟨n0, [], Nat.le_refl _, rfl, rfl, OB.nil _ _ _, Below.refl _ _⟩
  case round =>
    obtain ⟨m, pre, hm, rfl, hput, hown, hb⟩ := hrel
    have HO := Lib.hid hown
    have HB := Lib.hid hb
    have HP := Lib.hid hput
    have hpl : pre.length ≤ 9 := by
      have h1 := HLN.out
      rw [hput, List.length_append] at h1
      omega
    clear hown hb hput
    by_cases hlt : 128 ≤ m
    · have HS := Lib.hid (putV_ge hlt)
      obtain ⟨q, hq⟩ : ∃ q, q = m / 128 := ⟨_, rfl⟩
      obtain ⟨r, hr⟩ : ∃ r, r = m % 128 := ⟨_, rfl⟩
      rw [← hq, ← hr] at HS
      have hq1 : (m : Int) / 128 = (q : Int) := by omega
      have hq2 : (m : Int).tdiv 128 = (q : Int) := by rw [Int.tdiv_eq_ediv_of_nonneg (by omega)]; exact hq1
      have hr1 : (m : Int) % 128 = (r : Int) := by omega
      have hr2 : (m : Int).tmod 128 = (r : Int) := by rw [Int.tmod_eq_emod_of_nonneg (by omega)]; exact hr1
      have hr3 : r < 128 := by omega
      have hqm : q < m := by omega
      have HBV := Lib.hid (show byteV (UInt8.ofNat (r + 128)) = .int .u8 ((r : Int) + 128) by
        unfold byteV; rw [UInt8.toNat_ofNat']; congr 1; omega)
      clear hq hr
      go_wp2_with (at_builtin; refine wpList_append_OB _ rfl _ _ 22 rfl w.heap.size 5 i0 Try.underlying22 HI.out HZ0.out HZ1.out HZ2.out _ _ rfl (HO.out.alloc _) ⟨wr.heap.size, 0, none⟩ 1 1 [UInt8.ofNat (r + 128)] rfl rfl (one_new wr _ _ _ HBV.out) (by simp; omega) (by have := HB.out.size; simp; omega) ?_; intro v2 w2 hown2 hg2)
      go_roundw
      case rel =>
        refine ⟨q, pre ++ [UInt8.ofNat (r + 128)], by omega, rfl, ?_, hown2, (HB.out.alloc HB.out.size _).grown hg2 (by have := HB.out.size; simp; omega) (fun k hk => (HO.out.lt k hk).1)⟩
        rw [HP.out, HS.out]; simp
      case measure => simp [intOf]; omega
    · have HS := Lib.hid (putV_lt (show m < 128 by omega))
      have HBV := Lib.hid (show byteV (UInt8.ofNat m) = .int .u8 (m : Int) by
        unfold byteV; rw [UInt8.toNat_ofNat']; congr 1; omega)
      have hm128 : (m : Int) < 128 := by omega
      go_wp2_with (first | (at_builtin; refine wpList_append_OB _ rfl _ _ 22 rfl w.heap.size 5 i0 Try.underlying22 HI.out HZ0.out HZ1.out HZ2.out _ _ rfl (HO.out.alloc _) ⟨wr.heap.size, 0, none⟩ 1 1 [UInt8.ofNat m] rfl rfl (one_new wr _ _ _ HBV.out) (by simp; omega) (by have := HB.out.size; simp; omega) ?_; intro v2 w2 hown2 hg2) | (refine wpList_string_of_OB _ rfl 22 9 5 _ rfl w.heap.size _ _ rfl Try.underlying22 Try.underlying5 Try.underlying9 hown2 ?_))
      go_ret
      exact ⟨by rw [HPE.out, HP.out, HS.out]; rfl, (HB.out.alloc HB.out.size _).grown hg2 (by have := HB.out.size; simp; omega) (fun k hk => (HO.out.lt k hk).1)⟩
set_option maxRecDepth 100000 in
set_option maxHeartbeats 4000000 in
theorem specVarPut_any (n : Int) (w : World) (hn : n ≤ 9223372036854775807) :
    Calls Try.prog 19 #[.int .i64 n] w fun e w' => e = .returned (.string ⟨(putVI n).toArray⟩) ∧ Below w.heap.size w w' := by
  by_cases hneg : n < 0
  · have HE := Lib.hid (show putVI n = [] by unfold putVI; rw [if_pos hneg])
    go_enter Try.func19, Try.ntmps19
    go_wp2
    go_ret
    exact ⟨by rw [HE.out]; rfl, Below.refl _ _⟩
  obtain ⟨n0, rfl⟩ := Int.eq_ofNat_of_zero_le (show 0 ≤ n by omega)
  have HPE := Lib.hid (show putVI (n0 : Int) = putV n0 by unfold putVI; rw [if_neg hneg]; rfl)
  have HLN := Lib.hid (putV_nine (n := n0) (by omega)).2
  obtain ⟨i0, hi, hz0, hz1, hz2⟩ := info_parts info_u8
  have HI := Lib.hid hi
  have HZ0 := Lib.hid hz0
  have HZ1 := Lib.hid hz1
  have HZ2 := Lib.hid hz2
  clear hi hz0 hz1 hz2 hneg
  go_enter Try.func19, Try.ntmps19
  go_wp2
  go_loopw [0, 3] (fun i v wr => ∃ (m : Nat) (pre : List UInt8), m ≤ n0 ∧ i = .int .i64 m ∧ putV n0 = pre ++ putV m ∧ OB 5 wr w.heap.size v pre ∧ Below w.heap.size w wr) (fun i _ _ => (intOf i).toNat)
  case atStart => exact ⟨n0, [], Nat.le_refl _, rfl, rfl, .inr ⟨w.heap.size, 0, #[], (0, 0), rfl, Nat.le_refl _, heap_alloc_new w _, .inl rfl, Nat.le_refl _, by simp [maxLen], rfl, rfl⟩, (Below.refl _ _).alloc (Nat.le_refl _) _⟩
  case round =>
    obtain ⟨m, pre, hm, rfl, hput, hown, hb⟩ := hrel
    have HO := Lib.hid hown
    have HB := Lib.hid hb
    have HP := Lib.hid hput
    have hpl : pre.length ≤ 9 := by
      have h1 := HLN.out
      rw [hput, List.length_append] at h1
      omega
    clear hown hb hput
    by_cases hlt : 128 ≤ m
    · have HS := Lib.hid (putV_ge hlt)
      obtain ⟨q, hq⟩ : ∃ q, q = m / 128 := ⟨_, rfl⟩
      obtain ⟨r, hr⟩ : ∃ r, r = m % 128 := ⟨_, rfl⟩
      rw [← hq, ← hr] at HS
      have hq1 : (m : Int) / 128 = (q : Int) := by omega
      have hq2 : (m : Int).tdiv 128 = (q : Int) := by rw [Int.tdiv_eq_ediv_of_nonneg (by omega)]; exact hq1
      have hr1 : (m : Int) % 128 = (r : Int) := by omega
      have hr2 : (m : Int).tmod 128 = (r : Int) := by rw [Int.tmod_eq_emod_of_nonneg (by omega)]; exact hr1
      have hr3 : r < 128 := by omega
      have hqm : q < m := by omega
      have HBV := Lib.hid (show byteV (UInt8.ofNat (r + 128)) = .int .u8 (128 + (r : Int)) by
        unfold byteV; rw [UInt8.toNat_ofNat']; congr 1; omega)
      clear hq hr
      go_wp2_with (at_builtin; refine wpList_append_OB _ rfl _ _ 22 rfl w.heap.size 5 i0 Try.underlying22 HI.out HZ0.out HZ1.out HZ2.out _ _ rfl (HO.out.alloc _) ⟨wr.heap.size, 0, none⟩ 1 1 [UInt8.ofNat (r + 128)] rfl rfl (one_new wr _ _ _ HBV.out) (by simp; omega) (by have := HB.out.size; simp; omega) ?_; intro v2 w2 hown2 hg2)
      go_roundw
      case rel =>
        refine ⟨q, pre ++ [UInt8.ofNat (r + 128)], by omega, rfl, ?_, hown2, (HB.out.alloc HB.out.size _).grown hg2 (by have := HB.out.size; simp; omega) (fun k hk => (HO.out.lt k hk).1)⟩
        rw [HP.out, HS.out]; simp
      case measure => simp [intOf]; omega
    · have HS := Lib.hid (putV_lt (show m < 128 by omega))
      have HBV := Lib.hid (show byteV (UInt8.ofNat m) = .int .u8 (m : Int) by
        unfold byteV; rw [UInt8.toNat_ofNat']; congr 1; omega)
      have hm128 : (m : Int) < 128 := by omega
      go_wp2_with (first | (at_builtin; refine wpList_append_OB _ rfl _ _ 22 rfl w.heap.size 5 i0 Try.underlying22 HI.out HZ0.out HZ1.out HZ2.out _ _ rfl (HO.out.alloc _) ⟨wr.heap.size, 0, none⟩ 1 1 [UInt8.ofNat m] rfl rfl (one_new wr _ _ _ HBV.out) (by simp; omega) (by have := HB.out.size; simp; omega) ?_; intro v2 w2 hown2 hg2) | (refine wpList_string_of_OB _ rfl 22 9 5 _ rfl w.heap.size _ _ rfl Try.underlying22 Try.underlying5 Try.underlying9 hown2 ?_))
      go_ret
      exact ⟨by rw [HPE.out, HP.out, HS.out]; rfl, (HB.out.alloc HB.out.size _).grown hg2 (by have := HB.out.size; simp; omega) (fun k hk => (HO.out.lt k hk).1)⟩
end Go.Proofs.Ythbijeicdjpbeaa
