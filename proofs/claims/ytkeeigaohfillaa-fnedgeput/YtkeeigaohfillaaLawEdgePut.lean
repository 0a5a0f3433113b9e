/- FnEdgePut: Bits are read back from their levels, and from all levels turned; they turn as often as there are noughts behind the first. For every code (the law draws a level and bits from it). No condition. -/
import Derived.Test.YtkeeigaohfillaaKitA
import Derived.Test.YtkeeigaohfillaaFar
import Derived.Test.YtkeeigaohfillaaDrawWav
namespace Go.Proofs.Ytkeeigaohfillaa.fnEdgePut
open Go.ChangeShapes Go.WideShapes Go.ChangeAt Go.RowKit
open Go.ChangeMaps (open_string shut_string)
set_option linter.unusedVariables false
theorem nought_take (s : ByteArray) (k : Nat) (h : k < s.size) (h1 : 1 ≤ k) : ((s.data.toList.take (k + 1)).drop 1).count 48 = ((s.data.toList.take k).drop 1).count 48 + (if s[k] = 48 then 1 else 0) := by
  rw [snoc_take s k h, List.drop_append_of_le_length (by rw [List.length_take, size_list]; omega), List.count_append]
  congr 1
  rw [List.count_singleton]
  by_cases e : s[k] = 48 <;> simp [e]
theorem nought_le (s : ByteArray) (k : Nat) : ((s.data.toList.take k).drop 1).count 48 ≤ k := by
  refine Nat.le_trans List.count_le_length ?_
  rw [List.length_drop, List.length_take]; omega
set_option maxRecDepth 100000 in
set_option maxHeartbeats 8000000 in
theorem walk (a0 : Option Addr) (len0 cap0 : Nat) (z0 : List Int) (w : World) (w0 : IsRow .u8 w a0 len0 cap0 z0) :
    Calls Try.prog 5 #[.slice a0 len0 cap0] w fun e w' => e = .returned (.bool true) ∧ Below w.heap.size w w' := by
  by_cases hbig : 1048576 < len0
  · go_enter Try.func5, Try.ntmps5
    go_wp2
    go_ret
    exact ⟨rfl, Below.refl _ _⟩
  have HH := Lib.hid w0
  clear w0
  go_enter Try.func5, Try.ntmps5
  go_wp2_with fail
  refine (drawEdgePut_any a0 len0 cap0 z0 HH.out).mono ?_
  rintro e w1 ⟨lv, s, rfl, hs, hb1⟩
  have HB1 := Lib.hid hb1
  clear hb1
  have hmax : s.size ≤ maxLen := by unfold maxLen; omega
  cases hk : okB s.data.toList with
  | false =>
    have HK := Lib.hid hk
    go_wp2_with fail
    refine (implEP_no lv s _ hmax HK.out).mono ?_
    rintro e w2 ⟨rfl, hb2⟩
    have HB2 := Lib.hid (HB1.out.trans (hb2.mono HB1.out.size))
    clear hb2
    go_wp2_with fail
    refine (specEP_no lv s _ hmax HK.out).mono ?_
    rintro e w3 ⟨rfl, hb3⟩
    have HB3 := Lib.hid (HB2.out.trans (hb3.mono HB2.out.size))
    clear hb3
    go_wp2_with (go_at_call 24; refine (implOk_any _ _ hmax).mono ?_; rintro e w' ⟨rfl, rfl⟩)
    go_ret
    exact ⟨rfl, HB3.out⟩
  | true =>
    have HK := Lib.hid hk
    have hsz := ok_size hk
    have hbits := (okB_iff.1 hk).1
    obtain ⟨T, hT⟩ : ∃ T : ByteArray, T = ⟨(mealy edP lv s.data.toList).2.toArray⟩ := ⟨_, rfl⟩
    obtain ⟨Y, hY⟩ : ∃ Y : ByteArray, Y = ⟨(mealy edP (!lv) s.data.toList).2.toArray⟩ := ⟨_, rfl⟩
    have hTL : T.data.toList = (mealy edP lv s.data.toList).2 := by rw [hT]
    have hYL : Y.data.toList = (mealy edP (!lv) s.data.toList).2 := by rw [hY]
    have hY2 : Y.data.toList = T.data.toList.map flipB := by rw [hYL, edP_other, hTL]
    have HT := Lib.hid hT
    have HY := Lib.hid hY
    have HTO := Lib.hid (show okB T.data.toList = true by rw [hTL]; exact mealy_ok edP lv hk)
    have HYO := Lib.hid (show okB Y.data.toList = true by rw [hYL]; exact mealy_ok edP (!lv) hk)
    have HGT := Lib.hid (show mealy edG lv T.data.toList = ((mealy edP lv s.data.toList).1, s.data.toList) by rw [hTL]; exact mealy_back edG_edP lv hbits)
    have HGY := Lib.hid (show mealy edG (!lv) Y.data.toList = ((mealy edP (!lv) s.data.toList).1, s.data.toList) by rw [hYL]; exact mealy_back edG_edP (!lv) hbits)
    have HE2 := Lib.hid (show (mealy edP (!lv) s.data.toList).1 = !(mealy edP lv s.data.toList).1 by rw [edP_other])
    have HF := Lib.hid (show farOkB T.data.toList Y.data.toList = true ∧ farN T.data.toList Y.data.toList = T.size by
      refine ⟨?_, ?_⟩
      · unfold farOkB; rw [HTO.out, HYO.out, hY2, List.length_map, decide_eq_true rfl]; rfl
      · rw [hY2, far_flip _ (okB_iff.1 HTO.out).1, size_list])
    have HW := Lib.hid (show waveN T.data.toList = (s.data.toList.drop 1).count 48 by
      rw [hTL]
      cases hl : s.data.toList with
      | nil => rfl
      | cons b l => rw [wave_edP l lv b (fun x hx => hbits x (by rw [hl]; simp [hx]))]; rfl)
    clear hk hT hY hTL hYL hY2 hbits
    go_wp2_with fail
    refine (implEP_yes lv s _ HK.out).mono ?_
    rintro e w2 ⟨rfl, hb2⟩
    have HB2 := Lib.hid (HB1.out.trans (hb2.mono HB1.out.size))
    clear hb2
    rw [← HT.out]
    go_wp2_with fail
    refine (specEP_yes lv s _ HK.out).mono ?_
    rintro e w3 ⟨rfl, hb3⟩
    have HB3 := Lib.hid (HB2.out.trans (hb3.mono HB2.out.size))
    clear hb3
    rw [← HT.out]
    generalize (mealy edP lv s.data.toList).1 = E at *
    go_wp2_with fail
    refine (implOk_any _ _ hmax).mono ?_
    rintro e w' ⟨rfl, rfl⟩
    rw [HK.out]
    go_wp2_with fail
    refine (implEG_yes lv T _ HTO.out).mono ?_
    rintro e w4 ⟨rfl, hb4⟩
    have HB4 := Lib.hid (HB3.out.trans (hb4.mono HB3.out.size))
    clear hb4
    rw [HGT.out]
    simp only [Lib.mk_data]
    go_wp2_with fail
    refine (implEP_yes (!lv) s _ HK.out).mono ?_
    rintro e w5 ⟨rfl, hb5⟩
    have HB5 := Lib.hid (HB4.out.trans (hb5.mono HB4.out.size))
    clear hb5
    rw [← HY.out, HE2.out]
    go_wp2_with fail
    refine (implEG_yes (!lv) Y _ HYO.out).mono ?_
    rintro e w6 ⟨rfl, hb6⟩
    have HB6 := Lib.hid (HB5.out.trans (hb6.mono HB5.out.size))
    clear hb6
    rw [HGY.out]
    simp only [Lib.mk_data]
    rw [HE2.out]
    go_wp2_with fail
    go_loop [15, 16] (fun n i => ∃ k : Nat, k ≤ s.size + 1 ∧ 1 ≤ k ∧ i = .int .i64 k ∧ n = .int .i64 (((s.data.toList.take k).drop 1).count 48 : Nat)) (fun _ i => s.size + 1 - (intOf i).toNat)
    case atStart => exact ⟨1, by omega, by omega, rfl, val_int (by cases hd : s.data.toList with | nil => rfl | cons a l => rfl)⟩
    case round =>
      obtain ⟨k, hk, hk1, rfl, rfl⟩ := hrel
      have hle := nought_le s k
      by_cases hlt : k < s.size
      · have HS := Lib.hid (nought_take s k hlt hk1)
        generalize ((s.data.toList.take k).drop 1).count 48 = W at *
        rcases ok_bit HK.out hlt with hb | hb
        · have hc : ((s[k].toNat : Int) == 48) = true := by rw [hb]; rfl
          have HS2 := Lib.hid (show ((s.data.toList.take (k + 1)).drop 1).count 48 = W + 1 by rw [HS.out, if_pos hb])
          clear hb HS
          go_wp2
          go_round
          case rel => exact ⟨k + 1, by omega, by omega, by go_num, by rw [HS2.out]; go_num⟩
          case measure => simp [intOf]; omega
        · have hc : ((s[k].toNat : Int) == 48) = false := by rw [hb]; rfl
          have HS2 := Lib.hid (show ((s.data.toList.take (k + 1)).drop 1).count 48 = W by rw [HS.out, if_neg (by rw [hb]; decide)]; rfl)
          clear hb HS
          go_wp2
          go_round
          case rel => exact ⟨k + 1, by omega, by omega, by go_num, by rw [HS2.out]⟩
          case measure => simp [intOf]; omega
      · have HA := Lib.hid (take_all s k (by omega))
        rw [HA.out]
        rw [← HW.out]
        go_wp2_with fail
        refine (implFar_yes T Y _ HF.out.1).mono ?_
        rintro e w7 ⟨rfl, hb7⟩
        have HB7 := Lib.hid (HB6.out.trans (hb7.mono HB6.out.size))
        clear hb7
        rw [HF.out.2]
        go_wp2_with fail
        refine (implWave_yes T _ HTO.out).mono ?_
        rintro e w8 ⟨rfl, hb8⟩
        have HB8 := Lib.hid (HB7.out.trans (hb8.mono HB7.out.size))
        clear hb8
        go_wp2
        go_ret
        exact ⟨by simp, HB8.out⟩
theorem own : ownKnob Try.prog.godebug = none := by kernel_rfl
theorem laidOut : laidOutB Try.prog = true := by kernel_rfl
set_option maxRecDepth 100000 in
theorem lifted (os : Os) (started : os.Started) (H : Type) (enc : TypeId × Value → H) :
    ReturnsInHanded {} Try.checked os 5 .any (Rows.fnEdgePutSpec.pre6 enc Try.prog Try.f5 Rows.fnEdgePutRow.domain false) (Rows.fnEdgePutSpec.post enc Try.prog Try.f5 false true false false) := by
  refine returnsInHanded_of_change (C := Try.checked) own started (by kernel_rfl) Try.func5
    (ChangeSpec.witness6 (enc := enc) (C := Try.checked) false ⟨#[], #[.slice none 0 0], []⟩ 8 (by kernel_rfl) (by kernel_rfl) (by kernel_rfl) (by kernel_rfl)) ?_
  intro W base args ds gs before hval0 hW hcnd _
  have hval : ∀ (j : Nat) t v, Try.f5.params[j]? = some t → args[j]? = some v → Value.okWide Try.prog W .any base t v := hval0
  have hW' := hW
  obtain ⟨p, q, hA0, hV, rfl, hfz, hnd⟩ := hW
  have hA : DataW.TrodAll enc Try.prog W 0 (fun _ => true) true Try.f5.params.toList args.toList ds p := hA0
  rw [Try.params5] at hA hval
  obtain ⟨v0, vs0, d0, ds0, p0, q0, hargs, rfl, rfl, h0, r0⟩ := trodAll_cons hA
  obtain ⟨rfl, rfl, rfl⟩ := trodAll_nil r0
  obtain rfl : args = #[v0] := by cases args; simp_all
  obtain ⟨rfl, rfl⟩ := trodVars_none hV
  obtain ⟨a0, len0, cap0, rfl⟩ := okWide_slice Try.underlying22 (hval 0 22 v0 rfl rfl)
  have k0 := h0
  have lt0 : ∀ x ∈ p0, x.block < W.heap.size := by obtain ⟨m, hm⟩ := k0; exact DataW.trod_lt m _ _ _ hm
  obtain ⟨z0, w0⟩ : ∃ zs, IsRow .u8 W a0 len0 cap0 zs := by
    obtain ⟨fuel, hf⟩ := h0
    rcases open_ints Try.underlying22 Try.underlying5 (by kernel_rfl) hf with ⟨hcs, _⟩ | ⟨x, l, c, zs, hcs, _, hl, hm, hz, _, hcell, hwz⟩
    · simp [Value.cells] at hcs
      obtain ⟨rfl, rfl, rfl⟩ := hcs
      exact ⟨[], .inl ⟨rfl, rfl, rfl, rfl⟩⟩
    · simp [Value.cells] at hcs
      obtain ⟨rfl, rfl, rfl⟩ := hcs
      exact ⟨zs, .inr ⟨_, rfl, hl, hm, by simpa using hz, hcell, hwz⟩⟩
  clear hA0 hval0
  refine (walk a0 len0 cap0 z0 W w0).mono fun e W' ⟨he, bel⟩ => ?_
  subst he
  exact ⟨_, rfl, _, _, _, [], _, [], hW', trodAll_mk1 (shut_bool Try.underlying4 _), (trodAll_cons_mk (Below.trod laidOut (by kernel_rfl) (of_decide_eq_true (by kernel_rfl)) k0 bel lt0) trodAll_mk0), rfl, bel.frame _, fun h => by cases h⟩
theorem over : Rows.fnEdgePutRow.holds Try.pinned (OpenSpec.ofChange Rows.fnEdgePutSpec) :=
  OpenClaim.holds_of_wide 5 Try.f5 rfl rfl rfl rfl rfl rfl rfl ⟨rfl, rfl, rfl, rfl, rfl⟩ rfl rfl rfl rfl rfl (by kernel_rfl) Try.func5 (by kernel_rfl)
    (of_decide_eq_true (by kernel_rfl)) (by unfold Func.isWrapper; first | (rw [if_pos (by decide +kernel)]; kernel_rfl) | (rw [if_neg (by decide +kernel)]; exact ⟨rfl, rfl⟩))
    (fun os started H enc _ => lifted os started H enc)
theorem proved : Rows.FnEdgePutSaid := over
end Go.Proofs.Ytkeeigaohfillaa.fnEdgePut
