/- BitsOf of the model. -/
import Derived.Test.YtabdejafmhnaaaaOfC
namespace Go.Proofs.Ytabdejafmhnaaaa
open Go.ChangeShapes Go.WideShapes Go.ChangeAt Go.RowKit
theorem bitAt_at (s : ByteArray) (m j : Nat) (hj : j < 8) (hm : m < s.size) : bitAt s.data.toList (8 * m + j) = UInt8.ofNat (48 + s[m].toNat / 2 ^ j % 2) := bitAt_of (by omega) (by omega) hm
set_option maxRecDepth 100000 in
set_option maxHeartbeats 4000000 in
theorem l2Of_any (s : ByteArray) (w : World) (hs : s.size ≤ 150) :
    Calls Try.prog 46 #[.string s] w fun e w' => e = .returned (.string ⟨(ofL s.data.toList).toArray⟩) ∧ Below w.heap.size w w' := by
  obtain ⟨i0, hi, hz0, hz1, hz2⟩ := info_parts info_u8
  have HI := Lib.hid hi
  have HZ0 := Lib.hid hz0
  have HZ1 := Lib.hid hz1
  have HZ2 := Lib.hid hz2
  have HSL := Lib.hid (size_list s)
  clear hi hz0 hz1 hz2
  go_enter Try.func46, Try.ntmps46
  go_wp2
  go_loopw [3, 4, 5, 6] (fun v i _ _ wr => ∃ m : Nat, m ≤ s.size ∧ i = .int .i64 m ∧ OB 5 wr w.heap.size v (uptoL s.data.toList (8 * m)) ∧ Below w.heap.size w wr) (fun _ i _ _ _ => s.size - (intOf i).toNat)
  case atStart => exact ⟨0, by omega, rfl, .inr ⟨w.heap.size, 0, #[], (0, 0), rfl, Nat.le_refl _, heap_alloc_new w _, .inl rfl, Nat.le_refl _, by simp [maxLen], rfl, rfl⟩, (Below.refl _ _).alloc (Nat.le_refl _) _⟩
  case round =>
    obtain ⟨m, hm, rfl, hown, hb⟩ := hrel
    have HO := Lib.hid hown
    have HB := Lib.hid hb
    clear hown hb
    by_cases hlt : m < s.size
    · go_wp2_with fail
      have hub := UInt8.toNat_lt s[m]
      go_loopw [3, 5, 6] (fun v n k wr => ∃ j : Nat, j ≤ 8 ∧ k = .int .i64 j ∧ n = .int .i64 ((s[m].toNat / 2 ^ j : Nat) : Int) ∧ OB 5 wr w.heap.size v (uptoL s.data.toList (8 * m + j)) ∧ Below w.heap.size w wr) (fun _ _ k _ => (8 - intOf k).toNat)
      case atStart => exact ⟨0, by omega, rfl, by have := hub; simp [wrap64]; omega, HO.out, HB.out⟩
      case round =>
        obtain ⟨j, hj, rfl, rfl, hown, hb⟩ := hrel
        have HO1 := Lib.hid hown
        have HB1 := Lib.hid hb
        clear hown hb
        by_cases hj8 : j < 8
        · have HBA := Lib.hid (bitAt_at s m j hj8 hlt)
          have hdl : s[m].toNat / 2 ^ j < 256 := Nat.lt_of_le_of_lt (Nat.div_le_self _ _) hub
          have HN := Lib.hid (show s[m].toNat / 2 ^ (j + 1) = s[m].toNat / 2 ^ j / 2 by rw [Nat.pow_succ, Nat.div_div_eq_div_mul])
          generalize s[m].toNat / 2 ^ j = n at *
          obtain ⟨h, hh⟩ : ∃ h, n / 2 = h := ⟨_, rfl⟩
          obtain ⟨b, hbb⟩ : ∃ b, n % 2 = b := ⟨_, rfl⟩
          have hb2 : b < 2 := by omega
          have e1 : (n : Int) / 2 = (h : Int) := by omega
          have e2 : (n : Int).tdiv 2 = (h : Int) := by rw [Int.tdiv_eq_ediv_of_nonneg (by omega)]; exact e1
          have e3 : (n : Int) % 2 = (b : Int) := by omega
          have e4 : (n : Int).tmod 2 = (b : Int) := by rw [Int.tmod_eq_emod_of_nonneg (by omega)]; exact e3
          have HH := Lib.hid hh
          have hll : (uptoL s.data.toList (8 * m + j)).length + [bitAt s.data.toList (8 * m + j)].length ≤ 140737488355328 := by rw [uptoL_len]; simp; omega
          have HOA := Lib.hid (show byteV (bitAt s.data.toList (8 * m + j)) = .int .u8 (48 + (b : Int)) by
            rw [HBA.out, hbb]; unfold byteV; rw [UInt8.toNat_ofNat']; exact val_int (by omega))
          clear hh hbb
          go_wp2_with (at_builtin; refine wpList_append_OB _ rfl _ _ 22 rfl w.heap.size 5 i0 Try.underlying22 HI.out HZ0.out HZ1.out HZ2.out _ (uptoL s.data.toList (8 * m + j)) rfl (HO1.out.alloc _) ⟨wr.heap.size, 0, none⟩ 1 1 [bitAt s.data.toList (8 * m + j)] rfl rfl (one_new wr _ _ _ HOA.out) hll (by have := HB1.out.size; simp; omega) ?_; intro v2 w2 hown2 hg2)
          go_roundw
          case rel =>
            refine ⟨j + 1, by omega, by go_num, ?_, ?_, ?_⟩
            · rw [HN.out, HH.out]
            · rw [← Nat.add_assoc, uptoL_succ]; exact hown2
            · exact (HB1.out.alloc HB1.out.size _).grown hg2 (by have := HB1.out.size; simp; omega) (fun k hk => (HO1.out.lt k hk).1)
          case measure => simp [intOf]; omega
        · obtain rfl : j = 8 := by omega
          go_wp2
          go_roundw
          case rel => exact ⟨m + 1, by omega, by go_num, by rw [show 8 * (m + 1) = 8 * m + 8 by omega]; exact HO1.out, HB1.out⟩
          case measure => simp [intOf]; omega
    · obtain rfl : m = s.size := by omega
      go_wp2_with (refine wpList_string_of_OB _ rfl 22 9 5 _ rfl w.heap.size _ _ rfl Try.underlying22 Try.underlying5 Try.underlying9 HO.out ?_)
      go_ret
      refine ⟨?_, HB.out⟩
      rw [ofL, HSL.out]
      rfl
set_option maxHeartbeats 1000000 in
theorem specOf_any (s : ByteArray) (w : World) (hs : s.size ≤ 100000000) :
    Calls Try.prog 20 #[.string s] w fun e w' => e = .returned (.string ⟨(ofA s.data.toList).toArray⟩) ∧ Below w.heap.size w w' := by
  have HSL := Lib.hid (size_list s)
  by_cases hbig : 150 < s.size
  · have HA := Lib.hid (show ofA s.data.toList = [] by unfold ofA; rw [if_neg (by rw [HSL.out]; omega)])
    go_enter Try.func20, Try.ntmps20
    go_wp2
    go_ret
    exact ⟨by rw [HA.out]; rfl, Below.refl _ _⟩
  · have HA := Lib.hid (show ofA s.data.toList = ofL s.data.toList by unfold ofA; rw [if_pos (by rw [HSL.out]; omega)])
    go_enter Try.func20, Try.ntmps20
    go_wp2_with fail
    refine (l2Of_any s w (by omega)).mono ?_
    rintro e w2 ⟨rfl, hb⟩
    go_wp2
    go_ret
    exact ⟨by rw [HA.out]; rfl, hb⟩
end Go.Proofs.Ytabdejafmhnaaaa
