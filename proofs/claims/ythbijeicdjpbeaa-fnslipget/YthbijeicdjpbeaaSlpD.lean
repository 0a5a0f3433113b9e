/- SlipGet, in the program and in the model. -/
import Derived.Test.YthbijeicdjpbeaaSlpC
import Derived.Laws.EntriesVeiled
namespace Go.Proofs.Ythbijeicdjpbeaa
open Go.ChangeShapes Go.WideShapes Go.ChangeAt Go.RowKit
theorem grown_new {w w' : World} {g : Nat} {o : Obj} (h : (w.alloc o).grownBy w' (some g)) (hg : w.heap.size ≤ g) : Below w.heap.size w w' :=
  ((Below.refl _ w).alloc (Nat.le_refl _) o).trans (grown_below h (by simp) hg)
set_option maxRecDepth 100000 in
set_option maxHeartbeats 4000000 in
theorem implSlipGet_any (s : ByteArray) (w : World) :
    Calls Try.prog 14 #[.string s] w fun e w' => e = .returned (.tuple #[.string ⟨(getS s.data.toList).toArray⟩, .bool (okS s.data.toList)]) ∧ Below w.heap.size w w' := by
  go_enter Try.func14, Try.ntmps14
  go_wp2_with fail
  refine (upToB_any w.heap.size s 600 _ (BK.new w _ _) (by omega)).mono ?_
  rintro e w2 ⟨⟨v, rfl, hown⟩, hcu, hgr⟩
  have HB := Lib.hid (grown_new hgr (Nat.le_refl _))
  have HO := Lib.hid (hown.mono (base' := w.heap.size) (by simp))
  obtain ⟨va, vc, rfl, hvc⟩ := hown.shape
  have c0 := hcu.cell (i := 0) rfl
  obtain ⟨r, hr⟩ : ∃ r : ByteArray, r = ⟨(curRun slRead 600 s.data.toList).2.toArray⟩ := ⟨_, rfl⟩
  rw [← hr] at c0
  have HRL := Lib.hid (show r.data.toList = (curRun slRead 600 s.data.toList).2 by rw [hr])
  have HSR := Lib.hid (size_list r)
  have hln := (curRun_len slRead 600 s.data.toList).1
  clear hown hcu hgr hr
  have HNO := Lib.hid (show r.data.toList ≠ [192] → okS s.data.toList = false ∧ getS s.data.toList = [] by
    intro h
    have h1 : okS s.data.toList = false := by unfold okS; rw [← HRL.out]; exact decide_eq_false h
    exact ⟨h1, by unfold getS; rw [h1]; rfl⟩)
  by_cases h1 : r.size = 1
  · have hb8 := UInt8.toNat_lt (r[0]'(by omega))
    by_cases h192 : (r[0]'(by omega)).toNat = 192
    · have HY := Lib.hid (show okS s.data.toList = true by
        unfold okS
        rw [← HRL.out]
        refine decide_eq_true ?_
        rw [list_one r (by omega), show r[0]'(by omega) = 192 from UInt8.toNat_inj.1 h192, List.drop_eq_nil_of_le (by rw [HSR.out]; omega)])
      have HV := Lib.hid (show getS s.data.toList = (curRun slRead 600 s.data.toList).1 by unfold getS; rw [if_pos HY.out])
      rw [← HV.out] at HO hln hvc ⊢
      go_wp2_with (refine wpList_string_of_OB _ rfl 22 9 5 _ rfl w.heap.size _ _ rfl Try.underlying22 Try.underlying5 Try.underlying9 HO.out ?_)
      go_ret2
      exact ⟨by rw [HY.out]; rfl, HB.out⟩
    · obtain ⟨e1, e2⟩ := HNO.out (by
        intro e
        apply h192
        rw [list_one r (by omega)] at e
        have := (List.cons.inj e).1
        rw [this]; rfl)
      have HE1 := Lib.hid e1
      have HE2 := Lib.hid e2
      have hn : (((r[0]'(by omega)).toNat : Int) != 192) = true := bne_iff_ne.2 (by omega)
      clear e1 e2 h192
      go_wp2
      go_ret2
      exact ⟨by rw [HE1.out, HE2.out]; rfl, HB.out⟩
  · obtain ⟨e1, e2⟩ := HNO.out (by intro e; rw [← HSR.out, e] at h1; exact h1 rfl)
    have HE1 := Lib.hid e1
    have HE2 := Lib.hid e2
    have hn : ((r.size : Int) != 1) = true := bne_iff_ne.2 (by omega)
    clear e1 e2 h1
    go_wp2
    go_ret2
    exact ⟨by rw [HE1.out, HE2.out]; rfl, HB.out⟩
set_option maxRecDepth 100000 in
set_option maxHeartbeats 8000000 in
theorem specSlipGet_any (s : ByteArray) (w : World) :
    Calls Try.prog 16 #[.string s] w fun e w' => e = .returned (.tuple #[.string ⟨(getS s.data.toList).toArray⟩, .bool (okS s.data.toList)]) ∧ Below w.heap.size w w' := by
  have HSL := Lib.hid (size_list s)
  by_cases hbig : 1201 < s.size
  · obtain ⟨e1, e2⟩ := model_no (t := s.data.toList) (.inl (by rw [HSL.out]; exact hbig))
    have HE1 := Lib.hid e1
    have HE2 := Lib.hid e2
    clear e1 e2
    go_enter Try.func16, Try.ntmps16
    go_wp2
    go_ret2
    exact ⟨by rw [HE1.out, HE2.out]; rfl, (Below.refl _ _).alloc (Nat.le_refl _) _⟩
  obtain ⟨i0, hi, hz0, hz1, hz2⟩ := info_parts info_u8
  have HI := Lib.hid hi
  have HZ0 := Lib.hid hz0
  have HZ1 := Lib.hid hz1
  have HZ2 := Lib.hid hz2
  clear hi hz0 hz1 hz2
  go_enter Try.func16, Try.ntmps16
  go_wp2
  go_loopw [4, 5] (fun v i wr => ∃ (k : Nat) (out : List UInt8), k ≤ s.size ∧ i = .int .i64 k ∧ LenAt s.data.toList k out ∧ OB 5 wr w.heap.size v out ∧ Below w.heap.size w wr) (fun _ i _ => s.size - (intOf i).toNat)
  case atStart => exact ⟨0, [], by omega, rfl, LenAt.start _, .inr ⟨w.heap.size, 0, #[], (0, 0), rfl, Nat.le_refl _, heap_alloc_new w _, .inl rfl, Nat.le_refl _, by simp [maxLen], rfl, rfl⟩, (Below.refl _ _).alloc (Nat.le_refl _) _⟩
  case round =>
    obtain ⟨k, out, hk, rfl, hat, hown, hb⟩ := hrel
    have HO := Lib.hid hown
    have HB := Lib.hid hb
    have HA := Lib.hid hat
    have hol : out.length ≤ k := hat.2
    clear hown hb hat
    by_cases hlt : k + 1 < s.size
    · have hb8 := UInt8.toNat_lt s[k]
      have hb9 := UInt8.toNat_lt s[k + 1]
      have HL1 := Lib.hid (show k + 1 < s.data.toList.length by rw [HSL.out]; exact hlt)
      have hkk : s.data.toList[k]'(by have := HL1.out; omega) = s[k] := rfl
      have hk1 : s.data.toList[k + 1]'HL1.out = s[k + 1] := rfl
      have HKK := Lib.hid hkk
      have HK1 := Lib.hid hk1
      clear hkk hk1
      by_cases h219 : s[k].toNat = 219
      · have HS9 := Lib.hid (show s[k] = 219 from UInt8.toNat_inj.1 h219)
        by_cases h220 : s[k + 1].toNat = 220
        · have HN := Lib.hid (HA.out.two HL1.out (by rw [HKK.out]; exact HS9.out) (b := 192) (.inl ⟨by rw [HK1.out]; exact UInt8.toNat_inj.1 h220, rfl⟩))
          go_wp2_with (at_builtin; refine wpList_append_OB _ rfl _ _ 22 rfl w.heap.size 5 i0 Try.underlying22 HI.out HZ0.out HZ1.out HZ2.out _ _ rfl (HO.out.alloc _) ⟨wr.heap.size, 0, none⟩ 1 1 [192] rfl rfl (one_new wr _ 192 _ rfl) (by simp; omega) (by have := HB.out.size; simp; omega) ?_; intro v2 w2 hown2 hg2)
          go_roundw
          case rel => exact ⟨k + 2, out ++ [192], by omega, by go_num, HN.out, hown2, (HB.out.alloc HB.out.size _).grown hg2 (by have := HB.out.size; simp; omega) (fun k hk => (HO.out.lt k hk).1)⟩
          case measure => simp [intOf]; omega
        have hn220 : ((s[k + 1].toNat : Int) == 220) = false := beq_eq_false_iff_ne.2 (by omega)
        by_cases h221 : s[k + 1].toNat = 221
        · have HN := Lib.hid (HA.out.two HL1.out (by rw [HKK.out]; exact HS9.out) (b := 219) (.inr ⟨by rw [HK1.out]; exact UInt8.toNat_inj.1 h221, rfl⟩))
          clear h220 hn220
          go_wp2_with (at_builtin; refine wpList_append_OB _ rfl _ _ 22 rfl w.heap.size 5 i0 Try.underlying22 HI.out HZ0.out HZ1.out HZ2.out _ _ rfl (HO.out.alloc _) ⟨wr.heap.size, 0, none⟩ 1 1 [219] rfl rfl (one_new wr _ 219 _ rfl) (by simp; omega) (by have := HB.out.size; simp; omega) ?_; intro v2 w2 hown2 hg2)
          go_roundw
          case rel => exact ⟨k + 2, out ++ [219], by omega, by go_num, HN.out, hown2, (HB.out.alloc HB.out.size _).grown hg2 (by have := HB.out.size; simp; omega) (fun k hk => (HO.out.lt k hk).1)⟩
          case measure => simp [intOf]; omega
        have hn221 : ((s[k + 1].toNat : Int) == 221) = false := beq_eq_false_iff_ne.2 (by omega)
        have HN := Lib.hid (HA.out.one HL1.out (by rw [HKK.out, HK1.out]; rintro ⟨_, h | h⟩; exact h220 (by rw [h]; rfl); exact h221 (by rw [h]; rfl)))
        clear h220 h221
        go_wp2_with (at_builtin; refine wpList_append_OB _ rfl _ _ 22 rfl w.heap.size 5 i0 Try.underlying22 HI.out HZ0.out HZ1.out HZ2.out _ _ rfl (HO.out.alloc _) ⟨wr.heap.size, 0, none⟩ 1 1 [219] rfl rfl (one_new wr _ 219 _ rfl) (by simp; omega) (by have := HB.out.size; simp; omega) ?_; intro v2 w2 hown2 hg2)
        go_roundw
        case rel =>
          refine ⟨k + 1, out ++ [219], by omega, by go_num, ?_, hown2, (HB.out.alloc HB.out.size _).grown hg2 (by have := HB.out.size; simp; omega) (fun k hk => (HO.out.lt k hk).1)⟩
          have := HN.out
          rw [HKK.out, HS9.out] at this
          exact this
        case measure => simp [intOf]; omega
      have hn219 : ((s[k].toNat : Int) == 219) = false := beq_eq_false_iff_ne.2 (by omega)
      have HN := Lib.hid (HA.out.one HL1.out (by rw [HKK.out]; rintro ⟨h, _⟩; exact h219 (by rw [h]; rfl)))
      clear h219
      go_wp2_with (at_builtin; refine wpList_append_OB _ rfl _ _ 22 rfl w.heap.size 5 i0 Try.underlying22 HI.out HZ0.out HZ1.out HZ2.out _ _ rfl (HO.out.alloc _) ⟨wr.heap.size, 0, none⟩ 1 1 [s[k]] rfl rfl (one_new wr _ _ _ rfl) (by simp; omega) (by have := HB.out.size; simp; omega) ?_; intro v2 w2 hown2 hg2)
      go_roundw
      case rel =>
        refine ⟨k + 1, out ++ [s[k]], by omega, by go_num, ?_, hown2, (HB.out.alloc HB.out.size _).grown hg2 (by have := HB.out.size; simp; omega) (fun k hk => (HO.out.lt k hk).1)⟩
        have := HN.out
        rw [HKK.out] at this
        exact this
      case measure => simp [intOf]; omega
    · have HD := Lib.hid (HA.out.done (by rw [HSL.out]; omega))
      obtain ⟨va, vc, rfl, hvc⟩ := HO.out.shape
      by_cases h600 : 600 < out.length
      · obtain ⟨e1, e2⟩ := model_no (t := s.data.toList) (.inr (.inl (by rw [← HD.out]; exact h600)))
        have HE1 := Lib.hid e1
        have HE2 := Lib.hid e2
        clear e1 e2
        go_wp2
        go_ret2
        exact ⟨by rw [HE1.out, HE2.out]; rfl, HB.out⟩
      · by_cases heq : slipL out ++ [192] = s.data.toList
        · obtain ⟨e1, e2⟩ := model_ok (t := s.data.toList) (by rw [← HD.out]; omega) (by rw [← HD.out]; exact heq)
          have HE1 := Lib.hid e1
          have HE2 := Lib.hid (e2.trans HD.out.symm)
          have HEQ := Lib.hid heq
          clear e1 e2 heq
          have hcv := run_string_of_OB (P := Try.prog) wr 22 9 5 w.heap.size _ _ Try.underlying22 Try.underlying5 Try.underlying9 HO.out
          go_wp2_with fail
          refine (l10Slip_any _ _ (by rw [← size_list]; show out.length ≤ _; omega)).mono ?_
          rintro e w2 ⟨rfl, hb2⟩
          rw [HEQ.out, Lib.mk_data]
          have hcv2 := run_string_of_OB (P := Try.prog) w2 22 9 5 w.heap.size _ _ Try.underlying22 Try.underlying5 Try.underlying9 (HO.out.below hb2 (Nat.le_refl _))
          have HB2 := Lib.hid (HB.out.trans (hb2.mono HB.out.size))
          clear hcv hb2
          go_wp2
          go_ret2
          exact ⟨by rw [HE1.out, HE2.out]; rfl, HB2.out⟩
        · obtain ⟨e1, e2⟩ := model_no (t := s.data.toList) (.inr (.inr (by rw [← HD.out]; exact heq)))
          have HE1 := Lib.hid e1
          have HE2 := Lib.hid e2
          have HNE := Lib.hid heq
          clear e1 e2 heq
          have hcv := run_string_of_OB (P := Try.prog) wr 22 9 5 w.heap.size _ _ Try.underlying22 Try.underlying5 Try.underlying9 HO.out
          go_wp2_with fail
          refine (l10Slip_any _ _ (by rw [← size_list]; show out.length ≤ _; omega)).mono ?_
          rintro e w2 ⟨rfl, hb2⟩
          obtain ⟨X, hX⟩ : ∃ X : ByteArray, X = ⟨(slipL out ++ [192]).toArray⟩ := ⟨_, rfl⟩
          have hne : (X.toList != s.toList) = true := bne_iff_ne.2 (by rw [Lib.toList_data, Lib.toList_data, hX]; exact HNE.out)
          have hne2 : (X.toList == s.toList) = false := beq_eq_false_iff_ne.2 (by rw [Lib.toList_data, Lib.toList_data, hX]; exact HNE.out)
          simp only [← hX]
          have HB2 := Lib.hid (HB.out.trans (hb2.mono HB.out.size))
          clear hcv hb2 hX
          go_wp2
          go_ret2
          exact ⟨by rw [HE1.out, HE2.out]; rfl, HB2.out⟩
end Go.Proofs.Ythbijeicdjpbeaa
