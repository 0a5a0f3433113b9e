/- Numbers and their figures, in the model and in the program. -/
import Derived.Test.YtcegpcggdcgjbaaGreatDoorNetP
import Derived.Test.YtcegpcggdcgjbaaGreatDoorSesL
import Derived.Test.YtcegpcggdcgjbaaGreatDoorOs
import Derived.Test.YtcegpcggdcgjbaaGreatDoorKitA
import Derived.Test.YtcegpcggdcgjbaaGreatDoorKitBits
import Derived.Test.YtcegpcggdcgjbaaGreatDoorKitDraw
import Derived.Test.YtcegpcggdcgjbaaGreatDoorDrawD
import Derived.Deep.RegionWith
import Derived.RegionTactic
import Derived.Lib.AppendIntMem
import Derived.Lib.IndexLaws
import Derived.Lib.AtoiErrMem
import Derived.OwnWalk
namespace Go.Proofs.YtcegpcggdcgjbaaGreatDoor
open Go.ChangeShapes Go.WideShapes Go.ChangeAt Go.RowKit
open Go.Lib (decDigits itoa)
theorem conv_kept {X w3 : World} {g : Nat} {b : UInt8} (hX : X.heap[g]? = some (.cells #[.int .u8 (b.toNat : Int)] 5 (0, 0))) (h : Below X.heap.size X w3) :
    (convert 22 9 (.slice (some ⟨g, 0, none⟩) 1 1)).run Tryz.prog w3 = .ok (.string ⟨#[b]⟩) w3 := by
  have hg := (Array.getElem?_eq_some_iff.1 hX).1
  exact run_string_of_OB (P := Tryz.prog) _ 22 9 5 g _ [b] Tryz.underlying22 Tryz.underlying5 Tryz.underlying9
    (.inr ⟨g, 1, #[.int .u8 (b.toNat : Int)], (0, 0), rfl, Nat.le_refl _, (h.block g hg).trans hX, .inl rfl, Nat.le_refl _, by unfold maxLen; omega, rfl, rfl⟩)
set_option maxRecDepth 100000 in
set_option maxHeartbeats 800000 in
theorem l1Dec_any (n : Nat) : ∀ (_ : n ≤ 4294967295) (w : World), Calls Tryz.prog 34 #[.int .i64 (n : Int)] w fun e w' => e = .returned (.string ⟨(decDigits n).toArray⟩) ∧ Below w.heap.size w w' := by
  induction n using Nat.strongRecOn with
  | ind n ih =>
    intro hn w
    have IH := Lib.hid ih
    clear ih
    have hcv := run_string_one
    by_cases h : n < 10
    · obtain ⟨b, hb⟩ : ∃ b : UInt8, b = UInt8.ofNat (48 + n) := ⟨_, rfl⟩
      have hbn : b.toNat = 48 + n := by rw [hb, fig_toNat h]
      have hbw : ∀ u : World, (convert 22 9 (.slice (some ⟨u.heap.size, 0, none⟩) 1 1)).run Tryz.prog (u.alloc (.cells #[.int .u8 (48 + (n : Int))] 5)) = .ok (.string ⟨#[b]⟩) (u.alloc (.cells #[.int .u8 (48 + (n : Int))] 5)) := fun u => by
        have := hcv u b
        rw [show (b.toNat : Int) = 48 + (n : Int) by omega] at this
        exact this
      have HD := Lib.hid (show decDigits n = [b] by rw [dec_small h, hb])
      clear hb hbn hcv
      go_enter Tryz.func34, Tryz.ntmps34
      go_wp2
      go_ret
      exact ⟨by rw [HD.out]; rfl, (Below.refl _ _).alloc (Nat.le_refl _) _⟩
    · obtain ⟨d, hd⟩ : ∃ d, d = n % 10 := ⟨_, rfl⟩
      obtain ⟨q, hq⟩ : ∃ q, q = n / 10 := ⟨_, rfl⟩
      obtain ⟨b, hb⟩ : ∃ b : UInt8, b = UInt8.ofNat (48 + d) := ⟨_, rfl⟩
      have hbn : b.toNat = 48 + d := by rw [hb, fig_toNat (by omega)]
      have hw1 : IntKind.i64.wrap (q : Int) = (q : Int) := wrap_in _ (by omega) (by omega)
      have hw2 : IntKind.i64.wrap (48 + (d : Int)) = 48 + (d : Int) := wrap_in _ (by omega) (by omega)
      have hw3 : IntKind.u8.wrap (48 + (d : Int)) = (b.toNat : Int) := by rw [hbn]; rw [show IntKind.u8.wrap (48 + (d : Int)) = (48 + (d : Int)) % 256 from rfl]; omega
      have HD := Lib.hid (show decDigits n = decDigits q ++ [b] by rw [dec_big h, hb, hd, hq])
      have hd1 : (n : Int) % 10 = (d : Int) := by omega
      have hd2 : (n : Int).tmod 10 = (d : Int) := by rw [Int.tmod_eq_emod_of_nonneg (by omega)]; exact hd1
      have hq1 : (n : Int) / 10 = (q : Int) := by omega
      have hq2 : (n : Int).tdiv 10 = (q : Int) := by rw [Int.tdiv_eq_ediv_of_nonneg (by omega)]; exact hq1
      have hdb : d < 10 := by omega
      have hqn : q < n := by omega
      have hn10 : ¬ ((n : Int) < 10) := by omega
      clear hb hbn hd hq
      obtain ⟨Q, hQ⟩ : ∃ Q : ByteArray, Q = ⟨(decDigits q).toArray⟩ := ⟨_, rfl⟩
      have hQs : Q.size ≤ 10 := by rw [hQ, size_of_list]; exact dec_len 9 q (by omega)
      have IQ := Lib.hid (fun W => IH.out q hqn (by omega) W)
      rw [← hQ] at IQ
      have HV := Lib.hid (show Q ++ ⟨#[b]⟩ = ⟨(decDigits n).toArray⟩ by rw [HD.out, hQ]; exact (Lib.mk_data _).symm.trans (by congr 1))
      clear hQ
      have hcvd := conv_kept (X := (w.alloc (.cells #[.int .u8 (b.toNat : Int)] 5)).drew) (b := b) (g := w.heap.size) (heap_alloc_new w _) (Below.refl _ _)
      go_enter Tryz.func34, Tryz.ntmps34
      go_wp2_with fail
      go_region_with (first | (go_at_call 34; refine (IQ.out _).mono ?_; rintro e w3 ⟨rfl, hb3⟩; have HB3 := Lib.hid hb3; (first | (have hcv3 := conv_kept (X := (w.alloc (.cells #[.int .u8 (b.toNat : Int)] 5)).drew) (b := b) (g := w.heap.size) (heap_alloc_new w _) hb3) | skip); clear hb3))
      all_goals go_wp2
      all_goals go_ret
      all_goals refine ⟨by rw [← HV.out]; rfl, ?_⟩
      all_goals first
        | exact (Below.refl _ _).drew.trans HB3.out
        | exact (((Below.refl _ _).drew.trans HB3.out).alloc HB3.out.size _)
        | exact (((Below.refl w.heap.size w).alloc (Nat.le_refl _) _).drew).trans (HB3.out.mono (by simp))
set_option maxRecDepth 100000 in
set_option maxHeartbeats 800000 in
theorem l1Num_any (s : ByteArray) (w : World) :
    Calls Tryz.prog 56 #[.string s] w fun e w' => e = .returned (.int .i64 (numL s.data.toList)) ∧ w = w' := by
  have HSL := Lib.hid (size_list s)
  go_enter Tryz.func56, Tryz.ntmps56
  go_wp2
  go_loop [3, 4] (fun n i => ∃ (k : Nat), i = .int .i64 k ∧ n = .int .i64 (numV (s.data.toList.take k)) ∧ k ≤ s.size ∧ k ≤ 6 ∧ (s.data.toList.take k).all digB = true) (fun _ i => s.size - (intOf i).toNat)
  case atStart => exact ⟨0, rfl, rfl, Nat.zero_le _, Nat.zero_le _, rfl⟩
  case round =>
    obtain ⟨k, rfl, rfl, hk, hk6, hall⟩ := hrel
    have HALL := Lib.hid hall
    clear hall
    by_cases hlt : k < s.size
    · have hkl : k < s.data.toList.length := by rw [HSL.out]; exact hlt
      have HT := Lib.hid (num_take hkl)
      have HBD := Lib.hid (fun h => num_bad hkl h)
      have HTA := Lib.hid (show (s.data.toList.take (k + 1)).all digB = ((s.data.toList.take k).all digB && digB s[k]) by
        rw [List.take_succ_eq_append_getElem hkl, List.all_append]; simp; rfl)
      have hb := UInt8.toNat_lt s[k]
      have HDG := Lib.hid (show digB s[k] = decide (48 ≤ s[k].toNat ∧ s[k].toNat ≤ 57) from rfl)
      have hge : s.data.toList[k] = s[k] := rfl
      rw [hge] at HT HBD
      have hvl : numV (s.data.toList.take k) < 10 ^ k := numV_lt k _ (by rw [List.length_take]; omega) HALL.out
      have hv6 : 10 ^ k ≤ 10 ^ 6 := Nat.pow_le_pow_right (by omega) hk6
      obtain ⟨c, hc⟩ : ∃ c, c = s[k].toNat := ⟨_, rfl⟩
      by_cases h1 : c < 48
      · have HV := Lib.hid (HBD.out (.inl (by rw [HDG.out]; exact decide_eq_false (by omega))))
        clear hvl hv6
        go_wp2
        go_ret
        exact ⟨by rw [HV.out]; rfl, rfl⟩
      · by_cases h2 : 57 < c
        · have HV := Lib.hid (HBD.out (.inl (by rw [HDG.out]; exact decide_eq_false (by omega))))
          clear hvl hv6
          go_wp2
          go_ret
          exact ⟨by rw [HV.out]; rfl, rfl⟩
        · by_cases h6 : 6 ≤ k
          · have HV := Lib.hid (HBD.out (.inr h6))
            clear hvl hv6
            go_wp2
            go_ret
            exact ⟨by rw [HV.out]; rfl, rfl⟩
          · have hn : numV (s.data.toList.take k) ≤ 1000000 := by omega
            have HT2 := Lib.hid (show numV (s.data.toList.take (k + 1)) = numV (s.data.toList.take k) * 10 + (c - 48) by rw [HT.out, hc])
            have HA2 := Lib.hid (show (s.data.toList.take (k + 1)).all digB = true by rw [HTA.out, HALL.out, HDG.out, decide_eq_true (by omega)]; rfl)
            clear hvl hv6 HTA HT HBD HDG
            generalize numV (s.data.toList.take k) = N at *
            go_wp2
            go_round
            case rel => exact ⟨k + 1, by go_num, by rw [HT2.out]; exact val_int (by omega), by omega, by omega, HA2.out⟩
            case measure => simp [intOf]; omega
    · have hke : k = s.size := by omega
      have hall2 := HALL.out
      rw [List.take_of_length_le (by rw [HSL.out]; omega)] at hall2 ⊢
      have HNUM := Lib.hid (show numL s.data.toList = if 1 ≤ s.size ∧ ¬ (1 < s.size ∧ s.data.toList.headD 0 = 48) then (numV s.data.toList : Int) else -1 by
        unfold numL numOkB
        rw [hall2, HSL.out, Bool.true_and]
        by_cases a : 1 ≤ s.size
        · rw [decide_eq_true ⟨a, by omega⟩, Bool.true_and]
          by_cases b : 1 < s.size ∧ s.data.toList.headD 0 = 48
          · rw [decide_eq_true b, if_neg (by decide), if_neg (fun h => h.2 b)]
          · rw [decide_eq_false b, if_pos (by decide), if_pos ⟨a, b⟩]
        · rw [decide_eq_false (fun h => a h.1), Bool.false_and, if_neg (by decide), if_neg (fun h => a h.1)])
      clear hall2 HALL hke
      by_cases h0 : s.size = 0
      · have HV := Lib.hid (HNUM.out.trans (if_neg (fun h => by omega)))
        go_wp2
        go_ret
        exact ⟨by rw [HV.out]; rfl, rfl⟩
      · have hb0 : ((s.size : Int) == 0) = false := beq_eq_false_iff_ne.2 (by omega)
        by_cases h1 : 1 < s.size
        · have hh : s.data.toList.headD 0 = s[0] := by
            have e := List.drop_eq_getElem_cons (l := s.data.toList) (i := 0) (by rw [HSL.out]; omega)
            rw [List.drop_zero] at e
            rw [e]; rfl
          by_cases h48 : s[0].toNat = 48
          · have HV := Lib.hid (HNUM.out.trans (if_neg (fun h => h.2 ⟨h1, by rw [hh]; exact UInt8.toNat_inj.1 h48⟩)))
            have hb48 : ((s[0].toNat : Int) == 48) = true := by rw [beq_iff_eq]; omega
            clear h48
            go_wp2
            go_ret
            exact ⟨by rw [HV.out]; rfl, rfl⟩
          · have HV := Lib.hid (HNUM.out.trans (if_pos ⟨by omega, fun h => h48 (by have e := h.2; rw [hh] at e; rw [e]; rfl)⟩))
            have hb48 : ((s[0].toNat : Int) == 48) = false := beq_eq_false_iff_ne.2 (by omega)
            clear h48
            go_wp2
            go_ret
            exact ⟨by rw [HV.out]; rfl, rfl⟩
        · have HV := Lib.hid (HNUM.out.trans (if_pos ⟨by omega, fun h => h1 h.1⟩))
          have h1i : ¬ (1 < (s.size : Int)) := by omega
          go_wp2
          go_ret
          exact ⟨by rw [HV.out]; rfl, rfl⟩
theorem itoaN_any (n : Nat) (hn : n ≤ 4294967295) (w : World) (hw : PowIs w) :
    Calls Tryz.prog 29 #[.int .i64 (n : Int)] w fun e w' => e = .returned (.string ⟨(decDigits n).toArray⟩) ∧ Below w.heap.size w w' := by
  have := Any.strconv_Itoa laysItoa (n : Int) (by omega) (by omega) w hw
  refine Calls.mono this ?_
  rintro e w' ⟨rfl, k, os, rfl⟩
  rw [Lib.itoa_nonneg]
  exact ⟨rfl, Lib.below_grow _ _ (Nat.le_refl _) _ _⟩
set_option maxRecDepth 100000 in
set_option maxHeartbeats 800000 in
theorem numberOf_any (s : ByteArray) (w : World) (hw : NumIs w) (hs : s.size ≤ 1048576) :
    Calls Tryz.prog 42 #[.string s] w fun e w' => e = .returned (.int .i64 (numL s.data.toList)) ∧ Below w.heap.size w w' := by
  have HW := Lib.hid hw
  rcases ha : Lib.atoiAll s.data.toList with v | _ | _
  · have HX := Lib.hid (show ∀ u, Calls Tryz.prog 70 #[.string s] u fun e w' => e = .returned (.tuple #[.int .i64 v, .nilIface]) ∧ Below u.heap.size u w' from fun u => Calls.mono (Any.strconv_Atoi_ok laysAtoi s (by omega) v ha u) (by
      rintro e w' ⟨rfl, rfl | ⟨t, rfl⟩⟩
      · exact ⟨rfl, Below.refl _ _⟩
      · exact ⟨rfl, Lib.bytesWorld_below _ _ _⟩))
    have HNO := Lib.hid (show ¬ (0 ≤ v ∧ v ≤ 999999 ∧ itoa v = s.data.toList) → numL s.data.toList = -1 from fun h => num_no (fun v' h' hh => h (by rw [ha] at h'; injection h' with h'; rw [h']; exact hh)))
    obtain ⟨hb0, hb1⟩ := Lib.atoiAll_bounds ha
    clear ha hw
    by_cases hlo : v < 0
    · have HV := Lib.hid (HNO.out (fun h => by omega))
      go_enter Tryz.func42, Tryz.ntmps42
      go_wp2_with fail
      refine (HX.out _).mono ?_
      rintro e w1 ⟨rfl, hb⟩
      have HB := Lib.hid hb
      clear hb
      go_wp2
      go_ret
      exact ⟨by rw [HV.out]; rfl, HB.out⟩
    · by_cases hhi : 999999 < v
      · have HV := Lib.hid (HNO.out (fun h => by omega))
        go_enter Tryz.func42, Tryz.ntmps42
        go_wp2_with fail
        refine (HX.out _).mono ?_
        rintro e w1 ⟨rfl, hb⟩
        have HB := Lib.hid hb
        clear hb
        go_wp2
        go_ret
        exact ⟨by rw [HV.out]; rfl, HB.out⟩
      · obtain ⟨n, rfl⟩ := Int.eq_ofNat_of_zero_le (show 0 ≤ v by omega)
        have HIT := Lib.hid (show itoa (n : Int) = decDigits n from Lib.itoa_nonneg n)
        have hn : n ≤ 999999 := by omega
        clear hlo hhi hb0 hb1
        obtain ⟨D, hD⟩ : ∃ D : ByteArray, D = ⟨(decDigits n).toArray⟩ := ⟨_, rfl⟩
        have HI := Lib.hid (fun u hu => itoaN_any n (by omega) u hu)
        rw [← hD] at HI
        have HD := Lib.hid (show D.data.toList = decDigits n by rw [hD])
        clear hD
        by_cases heq : D = s
        · have HV := Lib.hid (show numL s.data.toList = (n : Int) from num_of (by omega) (by omega) (by rw [HIT.out, ← HD.out, heq]))
          have hne : (D.toList == s.toList) = true := by rw [heq]; simp
          clear heq
          go_enter Tryz.func42, Tryz.ntmps42
          go_wp2_with fail
          refine (HX.out _).mono ?_
          rintro e w1 ⟨rfl, hb⟩
          have HB := Lib.hid hb
          clear hb
          go_wp2_with fail
          refine (HI.out _ (HW.out.below HB.out).pow).mono ?_
          rintro e w2 ⟨rfl, hb⟩
          have HB2 := Lib.hid (HB.out.trans (hb.mono HB.out.size))
          clear hb
          go_wp2
          go_ret
          exact ⟨by rw [HV.out]; rfl, HB2.out⟩
        · have hd : D.data.toList ≠ s.data.toList := fun e => heq (by rw [← Lib.mk_data D, ← Lib.mk_data s, e])
          have HV := Lib.hid (HNO.out (fun h => hd (by rw [HD.out, ← HIT.out]; exact h.2.2)))
          have hne : (D.toList == s.toList) = false := beq_eq_false_iff_ne.2 (by rw [Lib.toList_data, Lib.toList_data]; exact hd)
          clear heq hd
          go_enter Tryz.func42, Tryz.ntmps42
          go_wp2_with fail
          refine (HX.out _).mono ?_
          rintro e w1 ⟨rfl, hb⟩
          have HB := Lib.hid hb
          clear hb
          go_wp2_with fail
          refine (HI.out _ (HW.out.below HB.out).pow).mono ?_
          rintro e w2 ⟨rfl, hb⟩
          have HB2 := Lib.hid (HB.out.trans (hb.mono HB.out.size))
          clear hb
          go_wp2
          go_ret
          exact ⟨by rw [HV.out]; rfl, HB2.out⟩
  · have HV := Lib.hid (num_no (w := s.data.toList) (fun v' h' => by rw [ha] at h'; cases h'))
    obtain ⟨_, _, tp, p, hvar⟩ := hw
    have HX := Lib.hid (show Calls Tryz.prog 70 #[.string s] w fun e w' => ∃ N, e = .returned (.tuple #[.int .i64 0, .iface 143 (.pointer (some ⟨N, 0, none⟩))]) ∧ Below w.heap.size w w' from Calls.mono (Any.strconv_Atoi_syntax_var laysAtoi s (by omega) ha tp p w hvar) (by
      rintro e w' ⟨N, rfl, _, _, hb⟩
      exact ⟨N, rfl, hb⟩))
    clear hvar ha
    go_enter Tryz.func42, Tryz.ntmps42
    go_wp2_with fail
    refine HX.out.mono ?_
    rintro e w1 ⟨N, rfl, hb⟩
    have HB := Lib.hid hb
    clear hb
    go_wp2
    go_ret
    exact ⟨by rw [HV.out]; rfl, HB.out⟩
  · have HV := Lib.hid (num_no (w := s.data.toList) (fun v' h' => by rw [ha] at h'; cases h'))
    obtain ⟨_, ⟨tp, p, hvar⟩, _⟩ := hw
    obtain ⟨z, hz⟩ : ∃ z, z = Lib.atoiSat s.data.toList := ⟨_, rfl⟩
    have HX := Lib.hid (show Calls Tryz.prog 70 #[.string s] w fun e w' => ∃ N, e = .returned (.tuple #[.int .i64 z, .iface 143 (.pointer (some ⟨N, 0, none⟩))]) ∧ Below w.heap.size w w' from Calls.mono (Any.strconv_Atoi_range_var laysAtoi s (by omega) ha tp p w hvar) (by
      rintro e w' ⟨N, rfl, _, _, hb⟩
      exact ⟨N, by rw [hz]; rfl, hb⟩))
    clear hvar ha hz
    go_enter Tryz.func42, Tryz.ntmps42
    go_wp2_with fail
    refine HX.out.mono ?_
    rintro e w1 ⟨N, rfl, hb⟩
    have HB := Lib.hid hb
    clear hb
    go_wp2
    go_ret
    exact ⟨by rw [HV.out]; rfl, HB.out⟩
end Go.Proofs.YtcegpcggdcgjbaaGreatDoor
