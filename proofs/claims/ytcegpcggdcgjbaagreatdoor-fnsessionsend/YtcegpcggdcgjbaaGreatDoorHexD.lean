/- HexGet of the program. -/
import Derived.Test.YtcegpcggdcgjbaaGreatDoorHexC
namespace Go.Proofs.YtcegpcggdcgjbaaGreatDoor
open Go.ChangeShapes Go.WideShapes Go.ChangeAt Go.RowKit
set_option maxRecDepth 100000 in
set_option maxHeartbeats 4000000 in
theorem implHexGet_any (s : ByteArray) (w : World) (hs : s.size ≤ 100000000) :
    Calls Tryz.prog 52 #[.string s] w fun e w' => e = .returned (.tuple #[.string ⟨(getH s.data.toList).toArray⟩, .bool (getHOk s.data.toList)]) ∧ Below w.heap.size w w' := by
  by_cases h45 : s = ⟨#[45]⟩
  · subst h45
    go_enter Tryz.func52, Tryz.ntmps52
    go_wp2
    go_ret2
    exact ⟨rfl, Below.refl _ _⟩
  have HNE := Lib.hid (dash_ne h45)
  have HSL := Lib.hid (size_list s)
  have hne : (s.toList == [45]) = false := beq_eq_false_iff_ne.2 (by rw [Lib.toList_data]; exact HNE.out)
  clear h45
  by_cases h0 : s.size = 0
  · obtain rfl := sz_zero h0
    go_enter Tryz.func52, Tryz.ntmps52
    go_wp2
    go_ret2
    exact ⟨rfl, Below.refl _ _⟩
  have hemp : s.toList.isEmpty = false := by rw [emp_list]; exact decide_eq_false h0
  have HNO := Lib.hid (show ¬ (s.size % 2 = 0 ∧ s.size ≤ 80) → getHOk s.data.toList = false ∧ getH s.data.toList = [] by
    intro h
    have h1 : getHOk s.data.toList = false := by
      unfold getHOk
      rw [decide_eq_false HNE.out, HSL.out, decide_eq_false (by omega)]; rfl
    exact ⟨h1, by unfold getH; rw [if_neg HNE.out, h1]; rfl⟩)
  by_cases hodd : s.size % 2 = 1
  · obtain ⟨h1, h2⟩ := HNO.out (by omega)
    have HK := Lib.hid h1
    have HV := Lib.hid h2
    have hm : ((s.size : Int) % 2 != 0) = true := by rw [bne_iff_ne]; omega
    clear hodd h1 h2
    go_enter Tryz.func52, Tryz.ntmps52
    go_wp2
    go_ret2
    exact ⟨by rw [HK.out, HV.out]; rfl, Below.refl _ _⟩
  have HEV := Lib.hid (show s.size % 2 = 0 by omega)
  have hm : ((s.size : Int) % 2 != 0) = false := by rw [show (s.size : Int) % 2 = 0 by omega]; rfl
  clear hodd
  by_cases h80 : 80 < s.size
  · obtain ⟨h1, h2⟩ := HNO.out (by omega)
    have HK := Lib.hid h1
    have HV := Lib.hid h2
    clear h1 h2
    go_enter Tryz.func52, Tryz.ntmps52
    go_wp2
    go_ret2
    exact ⟨by rw [HK.out, HV.out]; rfl, Below.refl _ _⟩
  clear HNO
  obtain ⟨i0, hi, hz0, hz1, hz2⟩ := info_parts info_u8
  obtain ⟨n, hn⟩ : ∃ n, n = s.size / 2 := ⟨_, rfl⟩
  have hn1 : (s.size : Int) / 2 = (n : Int) := by omega
  have hn2 : (s.size : Int).tdiv 2 = (n : Int) := by rw [Int.tdiv_eq_ediv_of_nonneg (by omega)]; exact hn1
  have hn3 : n ≤ 40 := by omega
  have hmk : ∀ u : World, (Instr.makeSlice 22 (.int .i64 (n : Int)) (.int .i64 (n : Int))).run Tryz.prog u = .ok (.slice (some ⟨u.heap.size, 0, none⟩) n n) (u.alloc (.cells (madeCells #[.int .u8 0] n) 5)) := fun u => by
    have h := run_make (P := Tryz.prog) u 22 5 i0 (.int .u8 0) Tryz.underlying22 hi hz0 .i64 .i64 (n : Int) (n : Int) (by omega) (Int.le_refl _) (by rw [hz2]; omega) (by omega)
    simpa [hz1, Value.cells] using h
  have HN := Lib.hid hn
  clear hi hz0 hz1 hz2 hn
  go_enter Tryz.func52, Tryz.ntmps52
  go_wp2
  clear hmk
  have HO0 := Lib.hid (OB_made 5 w n (by unfold maxLen; omega) w.heap.size (Nat.le_refl _))
  go_loopw [28] (fun i wr => ∃ k : Nat, k ≤ s.size ∧ i = .int .i64 k ∧ OB 5 wr w.heap.size (.slice (some ⟨w.heap.size, 0, none⟩) n n) (halfL s.data.toList n k) ∧ (s.data.toList.take k).all goodB = true ∧ Below w.heap.size w wr) (fun i _ => s.size - (intOf i).toNat)
  case atStart => exact ⟨0, Nat.zero_le _, rfl, by rw [halfL_zero]; exact HO0.out, rfl, (Below.refl _ _).alloc (Nat.le_refl _) _⟩
  case round =>
    obtain ⟨k, hk, rfl, hown, hgood, hb⟩ := hrel
    have HO := Lib.hid hown
    have HB := Lib.hid hb
    have HG := Lib.hid hgood
    clear hown hb hgood HO0
    by_cases hlt : k < s.size
    · have h1 := digV_lt s[k]
      have hb8 := UInt8.toNat_lt s[k]
      go_wp2_with fail
      refine (idx_any _ _ _).mono ?_
      rintro e w' ⟨rfl, rfl⟩
      rw [show (s[k].toNat : Int).toNat.toUInt8 = s[k] by simp, dig_idx]
      by_cases hx0 : digV s[k] < 0
      · have HK := Lib.hid (bad_not (l := s.data.toList) (i := k) (by rw [HSL.out]; exact hlt) hx0 HNE.out)
        have HV := Lib.hid (show getH s.data.toList = [] by unfold getH; rw [if_neg HNE.out, HK.out]; rfl)
        go_wp2
        go_ret2
        exact ⟨by rw [HK.out, HV.out]; rfl, HB.out⟩
      have HG2 := Lib.hid (show (s.data.toList.take (k + 1)).all goodB = true by
        rw [snoc_take s k hlt, List.all_append, HG.out]
        simp [goodB]; omega)
      have HST := Lib.hid (halfL_set s.data.toList n k)
      have hdn : digN s.data.toList k = (digV s[k]).toNat := by
        unfold digN
        rw [List.getD, List.getElem?_eq_getElem (by rw [HSL.out]; exact hlt)]
        rfl
      rw [hdn] at HST
      obtain ⟨d, hd⟩ := Int.eq_ofNat_of_zero_le (show 0 ≤ digV s[k] by omega)
      rw [hd] at HST h1 hx0 ⊢
      rw [Int.toNat_natCast] at HST
      have hkm : k / 2 < (halfL s.data.toList n k).length := by rw [halfL_len]; have := HN.out; have := HEV.out; omega
      have hcell := HO.out.cellAt hkm
      have hfrz := HO.out.frozenAt hkm
      have hoct : (halfL s.data.toList n k)[k / 2] = halfAt s.data.toList k (k / 2) := by simp [halfL]
      rw [hoct] at hcell
      unfold byteV at hcell
      have hx16 := (half_step s.data.toList k).1
      obtain ⟨x, hx⟩ : ∃ x, x = (halfAt s.data.toList k (k / 2)).toNat := ⟨_, rfl⟩
      rw [← hx] at hcell hx16 HST
      obtain ⟨m, hm2⟩ : ∃ m, k / 2 = m := ⟨_, rfl⟩
      rw [hm2] at hcell hfrz HST
      have hmi : (k : Int) / 2 = (m : Int) := by omega
      have hmi2 : (k : Int).tdiv 2 = (m : Int) := by rw [Int.tdiv_eq_ediv_of_nonneg (by omega)]; exact hmi
      have hmn : m < n := by have := HN.out; have := HEV.out; omega
      have hmnI : (m : Int) < (n : Int) := by omega
      have HOR := Lib.hid (or4 x hx16 d (by omega))
      clear hd hdn hkm hoct hm2 hx
      go_wp2_with fail
      go_roundw
      case rel =>
        refine ⟨k + 1, by omega, by go_num, ?_, HG2.out, ?_⟩
        · rw [HST.out]
          have e : Value.int .u8 (bits .or .u8 ((x : Int) * 16) (d : Int)) = byteV (UInt8.ofNat (16 * x + d)) := by
            have h := u8_or_nat (x * 16) d (by omega) (by omega)
            rw [HOR.out] at h
            unfold byteV
            rw [UInt8.toNat_ofNat', show (x : Int) * 16 = ((x * 16 : Nat) : Int) by omega, h]
            congr 1
            omega
          rw [e]
          exact HO.out.stored m _
        · exact HB.out.setCell (p := ⟨w.heap.size, m, none⟩) (Nat.le_refl _) _
      case measure => simp [intOf]; omega
    · have HE := Lib.hid (take_all s k (by omega))
      have HK := Lib.hid (show getHOk s.data.toList = true by
        have hg := HG.out
        rw [HE.out] at hg
        unfold getHOk
        rw [hg, HSL.out, decide_eq_true (show s.size % 2 = 0 ∧ 0 < s.size ∧ s.size ≤ 80 by have := HEV.out; omega)]; simp)
      have HV := Lib.hid (show getH s.data.toList = halfL s.data.toList n k by
        unfold getH
        rw [if_neg HNE.out, if_pos HK.out, ← halfL_all (by rw [HSL.out]; exact HEV.out), HSL.out, HN.out, show k = s.size by omega])
      go_wp2_with (refine wpList_string_of_OB _ rfl 22 9 5 _ rfl w.heap.size _ _ rfl Tryz.underlying22 Tryz.underlying5 Tryz.underlying9 HO.out ?_)
      go_ret2
      exact ⟨by rw [HK.out, HV.out]; rfl, HB.out⟩
end Go.Proofs.YtcegpcggdcgjbaaGreatDoor
