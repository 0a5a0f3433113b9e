/- FnHdlcFlag: behind a flag the finder is as behind a flag alone, at whatever is drawn from whatever bytes. No condition. -/
import Derived.Test.YtekhakapmpdnaaaDrawFeed
import Derived.Test.YtekhakapmpdnaaaHdlcT
import Derived.Test.YtekhakapmpdnaaaHdlcR
namespace Go.Proofs.Ytekhakapmpdnaaa.fnHdlcFlag
open Go.ChangeShapes Go.WideShapes Go.ChangeAt Go.RowKit
set_option linter.unusedVariables false
theorem flag2 (kd : Int) (hk : kindB kd = true) (W : World) : Calls Try.prog 14 #[.int .i64 kd, .agg #[.bool true, .int .i64 0, .string ⟨#[]⟩], .string ⟨#[48, 49, 49, 49, 49, 49, 49, 48]⟩] W (FeedPost W (⟨true, 0, []⟩, [])) := by
  have h := implFeed_yes kd true 0 ⟨#[]⟩ ⟨#[48, 49, 49, 49, 49, 49, 49, 48]⟩ W hk rfl (by decide)
  rw [show (⟨#[]⟩ : ByteArray).data.toList = [] from rfl, show (⟨#[48, 49, 49, 49, 49, 49, 49, 48]⟩ : ByteArray).data.toList = flagL from rfl, flag_again kd] at h
  exact h
set_option maxRecDepth 100000 in
set_option maxHeartbeats 8000000 in
theorem walk (a0 : Option Addr) (len0 cap0 : Nat) (z0 : List Int) (w : World) (w0 : IsRow .u8 w a0 len0 cap0 z0) :
    Calls Try.prog 5 #[.slice a0 len0 cap0] w fun e w' => e = .returned (.bool true) ∧ Below w.heap.size w w' := by
  have hcap : len0 ≤ cap0 ∧ cap0 ≤ maxLen := by
    rcases w0 with ⟨_, h1, h2, _⟩ | ⟨x, _, h1, h2, _⟩
    · subst h1 h2; simp [maxLen]
    · exact ⟨h1, h2⟩
  unfold maxLen at hcap
  obtain ⟨hcap1, hcap2⟩ := hcap
  have HD := Lib.hid (drawFeed_any a0 len0 cap0 z0 w0)
  clear w0
  by_cases hbig : 1048576 < len0
  · go_enter Try.func5, Try.ntmps5
    go_wp2
    go_ret
    exact ⟨rfl, Below.refl _ _⟩
  go_enter Try.func5, Try.ntmps5
  go_wp2_with fail
  refine HD.out.mono ?_
  rintro e w1 ⟨kd, i, n, b, s, rfl, hb, hs, hb1⟩
  have hbm : b.size ≤ maxLen := by unfold maxLen; omega
  have hsm : s.size ≤ maxLen := by unfold maxLen; omega
  obtain ⟨hlen1, hlen2⟩ := feedA_len kd i n b.data.toList s.data.toList
  have hvalid : validB kd i n b.data.toList s.data.toList = true → hokB (feedA kd i n b.data.toList s.data.toList).1 = true := fun hv => by
    unfold feedA; rw [if_pos hv]; exact hfeed_ok kd _ _ (okH_hok (valid_parts hv).2.1).2.2
  have HSp := Lib.hid (fun W => specFeed_any kd i n b s W hbm hsm)
  have HIm := Lib.hid (fun W => implFeed_any kd i n b s W hbm hsm)
  generalize feedA kd i n b.data.toList s.data.toList = p at *
  obtain ⟨⟨inn, m, bs⟩, evs⟩ := p
  simp only at hlen2 hvalid
  have HVal := Lib.hid hvalid
  have HB1 := Lib.hid hb1
  clear hb1 hlen1 hvalid HD
  go_wp2_with fail
  refine (HIm.out _).mono ?_
  rintro e w2 ⟨⟨v2, rfl, hoe2⟩, hb2⟩
  have hB2 : B3 w2 w1.heap.size (.bool i) (.int .i64 n) (.string b) := (B3.new w1 _ _ _).below hb2
  have HBe2 := Lib.hid ((HB1.out.alloc HB1.out.size (.cells #[.bool i, .int .i64 n, .string b] 29)).trans (hb2.mono (by have := HB1.out.size; simp; omega)))
  have HO2 := Lib.hid hoe2
  obtain ⟨c0, c1, c2⟩ := (hB2.alloc (.cells #[.bool inn, .int .i64 m, .string ⟨bs.toArray⟩] 29)).cells
  have HB2 := Lib.hid hB2
  clear hB2 hb2 hoe2
  rw [hV]
  obtain ⟨T, hT⟩ : ∃ T : ByteArray, T = ⟨bs.toArray⟩ := ⟨_, rfl⟩
  simp only [← hT] at c0 c1 c2 ⊢
  have HTT := Lib.hid hT
  clear hT
  go_wp2_with fail
  refine (HSp.out _).mono ?_
  rintro e w3 ⟨⟨v3, rfl, hoe3⟩, hb3⟩
  have hB3 : B3 w3 w2.heap.size (.bool inn) (.int .i64 m) (.string T) := (B3.new w2 _ _ _).below hb3
  have hbe3 : Below w2.heap.size w2 w3 := ((Below.refl _ w2).alloc (Nat.le_refl _) _).trans (hb3.mono (by simp))
  have HBe3 := Lib.hid (HBe2.out.trans (hbe3.mono HBe2.out.size))
  have HO3 := Lib.hid (OE.below HO2.out hbe3)
  have HO4 := Lib.hid hoe3
  have hal : Below w3.heap.size w3 (w3.alloc (.cells #[.bool inn, .int .i64 m, .string T] 29)) := (Below.refl _ _).alloc (Nat.le_refl _) _
  obtain ⟨d0, d1, d2⟩ := (hB3.below hal).cells
  have HBe4 := Lib.hid (HBe3.out.trans (hal.mono HBe3.out.size))
  have HO5 := Lib.hid (OE.below HO3.out hal)
  have HO6 := Lib.hid (OE.below HO4.out hal)
  have HB3 := Lib.hid (hB3.below hal)
  have HBh := Lib.hid ((HB2.out.below hbe3).below hal)
  clear hB3 hb3 hbe3 hoe3 hal c0 c1 c2 HB2 HBe2 HO2 HBe3 HO3 HO4
  rw [hV]
  simp only [← HTT.out]
  have q1 := hd_neq inn m T
  have q2 := guard_hd
  have q3 := hd_eq 9998 inn m T
  have q4 := hd_eql inn m T
  obtain ⟨av, cv, hv2⟩ := HO5.out.reads.shape
  subst hv2
  go_wp2_with fail
  refine (ctEvents_same _ v3 evs _ _ _ _ _ HO5.out.reads HO6.out.reads (Nat.le_refl _) (Nat.le_refl _) (by omega)).mono ?_
  rintro e w5 ⟨rfl, hb5⟩
  have HBe5 := Lib.hid (HBe4.out.trans (hb5.mono HBe4.out.size))
  have HO7 := Lib.hid (OE.below HO5.out hb5)
  have HO8 := Lib.hid (OE.below HO6.out hb5)
  have HX := Lib.hid (HB3.out.below hb5)
  have HW := Lib.hid ((B3.new w3 (.bool inn) (.int .i64 m) (.string T)).below hb5)
  have hbh := HBh.out.below hb5
  obtain ⟨k0, k1, k2⟩ := hbh.cells
  clear hb5 hbh d0 d1 d2 HBe4 HO5 HO6 HB3 HBh
  have HOk := Lib.hid (implHok_any i n b w5 hbm)
  cases ho : okH i n b.data.toList with
  | false =>
    rw [ho] at HOk
    clear ho
    go_wp2_with fail
    refine HOk.out.mono ?_
    rintro e w6 ⟨rfl, hb6⟩
    have HC := Lib.hid (ctEvents_same _ v3 evs w6 _ _ _ _ (OE.below HO7.out hb6).reads (OE.below HO8.out hb6).reads (Nat.le_refl _) (Nat.le_refl _) (by omega))
    have HBe6 := Lib.hid (HBe5.out.trans (hb6.mono HBe5.out.size))
    obtain ⟨k0, k1, k2⟩ := (HX.out.below hb6).cells
    obtain ⟨l0, l1, l2⟩ := (HW.out.below hb6).cells
    clear hb6
    go_wp2_with fail
    refine HC.out.mono ?_
    rintro e w7 ⟨rfl, hb7⟩
    have HBe7 := Lib.hid (HBe6.out.trans (hb7.mono HBe6.out.size))
    clear hb7
    go_wp2
    go_ret
    exact ⟨rfl, HBe7.out⟩
  | true =>
    rw [ho] at HOk
    have HO := Lib.hid ho
    clear ho
    have HOs := Lib.hid (fun W => implOk_any s W hsm)
    go_wp2_with fail
    refine HOk.out.mono ?_
    rintro e w6 ⟨rfl, hb6⟩
    cases hs2 : okB s.data.toList with
    | false =>
      rw [hs2] at HOs
      clear hs2
      go_wp2_with fail
      refine (HOs.out _).mono ?_
      rintro e w' ⟨rfl, rfl⟩
      have HC := Lib.hid (ctEvents_same _ v3 evs w6 _ _ _ _ (OE.below HO7.out hb6).reads (OE.below HO8.out hb6).reads (Nat.le_refl _) (Nat.le_refl _) (by omega))
      have HBe6 := Lib.hid (HBe5.out.trans (hb6.mono HBe5.out.size))
      obtain ⟨k0, k1, k2⟩ := (HX.out.below hb6).cells
      obtain ⟨l0, l1, l2⟩ := (HW.out.below hb6).cells
      clear hb6
      go_wp2_with fail
      refine HC.out.mono ?_
      rintro e w7 ⟨rfl, hb7⟩
      have HBe7 := Lib.hid (HBe6.out.trans (hb7.mono HBe6.out.size))
      clear hb7
      go_wp2
      go_ret
      exact ⟨rfl, HBe7.out⟩
    | true =>
      rw [hs2] at HOs
      have HS2 := Lib.hid hs2
      clear hs2
      go_wp2_with fail
      refine (HOs.out _).mono ?_
      rintro e w' ⟨rfl, rfl⟩
      cases hk : kindB kd with
      | false =>
        go_wp2_with fail
        refine (implStart_no kd _ hk).mono ?_
        rintro e w' ⟨rfl, rfl⟩
        clear hk
        have HC := Lib.hid (ctEvents_same _ v3 evs w6 _ _ _ _ (OE.below HO7.out hb6).reads (OE.below HO8.out hb6).reads (Nat.le_refl _) (Nat.le_refl _) (by omega))
        have HBe6 := Lib.hid (HBe5.out.trans (hb6.mono HBe5.out.size))
        obtain ⟨k0, k1, k2⟩ := (HX.out.below hb6).cells
        obtain ⟨l0, l1, l2⟩ := (HW.out.below hb6).cells
        clear hb6
        go_wp2_with fail
        refine HC.out.mono ?_
        rintro e w7 ⟨rfl, hb7⟩
        have HBe7 := Lib.hid (HBe6.out.trans (hb7.mono HBe6.out.size))
        clear hb7
        go_wp2
        go_ret
        exact ⟨rfl, HBe7.out⟩
      | true =>
        have HK := Lib.hid hk
        have hall : 0 ≤ allOf kd := by unfold allOf; split <;> omega
        have HXok := Lib.hid (HVal.out (by unfold validB; rw [hk, HO.out, HS2.out]; rfl))
        clear hk
        obtain ⟨d0, d1, d2⟩ := (HX.out.below hb6).cells
        have HBe6 := Lib.hid (HBe5.out.trans (hb6.mono HBe5.out.size))
        go_wp2_with fail
        refine (implStart_yes kd _ HK.out).mono ?_
        rintro e w' ⟨rfl, rfl⟩
        clear k0 k1 k2 q1 q2 q3 q4 HO7 HO8 HW HX hb6 HBe5
        have hbs : bs.length ≤ 240 := ((hok_iff _).1 HXok.out).2.1
        have hF1 := flag_any kd ⟨inn, m, bs⟩
        have HF := Lib.hid (fun W => implFeed_yes kd inn m T ⟨#[48, 49, 49, 49, 49, 49, 49, 48]⟩ W HK.out (by rw [HTT.out]; exact HXok.out) (by decide))
        have HTL := Lib.hid (show T.data.toList = bs by rw [HTT.out])
        rw [HTL.out, show (⟨#[48, 49, 49, 49, 49, 49, 49, 48]⟩ : ByteArray).data.toList = flagL from rfl] at HF
        generalize hfeed kd ⟨inn, m, bs⟩ flagL = y at *
        obtain ⟨y1, ye⟩ := y
        obtain ⟨hy1, hy2⟩ := hF1
        simp only at hy1 hy2
        subst hy1
        go_wp2_with fail
        refine (HF.out _).mono ?_
        rintro e w7 ⟨⟨v7, rfl, hoe7⟩, hb7⟩
        have HBe7 := Lib.hid (HBe6.out.trans (hb7.mono HBe6.out.size))
        obtain ⟨a7, c7, hv7⟩ := hoe7.reads.shape
        subst hv7
        rw [hV]
        clear hb7 hoe7 d0 d1 d2 HBe6
        go_wp2_with fail
        refine (flag2 kd HK.out _).mono ?_
        rintro e w8 ⟨⟨v8, rfl, hoe8⟩, hb8⟩
        have hB7 := ((B3.new w7 (.bool true) (.int .i64 0) (.string ⟨#[]⟩)).below hb8).alloc (.cells #[.bool true, .int .i64 0, .string ⟨#[]⟩] 29)
        obtain ⟨d0, d1, d2⟩ := hB7.cells
        have hb78 : Below w7.heap.size w7 w8 := ((Below.refl _ w7).alloc (Nat.le_refl _) _).trans (hb8.mono (by simp))
        have HBe8 := Lib.hid ((HBe7.out.trans (hb78.mono HBe7.out.size)).alloc (Nat.le_trans HBe7.out.size hb78.size) (.cells #[.bool true, .int .i64 0, .string ⟨#[]⟩] 29))
        obtain ⟨a8, c8, hv8⟩ := hoe8.reads.shape
        subst hv8
        rw [hV]
        clear hb8 hoe8 hB7 hb78 HBe7
        have hz := zero_hdlc
        have q2 := guard_hd
        have q3 := hd_eq 9998 true 0 ⟨#[]⟩
        have q4 := hd_eql true 0 ⟨#[]⟩
        go_wp2
        go_ret
        exact ⟨rfl, HBe8.out⟩
theorem own : ownKnob Try.prog.godebug = none := by kernel_rfl
theorem laidOut : laidOutB Try.prog = true := by kernel_rfl
set_option maxRecDepth 100000 in
theorem lifted (os : Os) (started : os.Started) (H : Type) (enc : TypeId × Value → H) :
    ReturnsInHanded {} Try.checked os 5 .any (Rows.fnHdlcFlagSpec.pre6 enc Try.prog Try.f5 Rows.fnHdlcFlagRow.domain false) (Rows.fnHdlcFlagSpec.post enc Try.prog Try.f5 false true false false) := by
  refine returnsInHanded_of_change (C := Try.checked) own started (by kernel_rfl) Try.func5
    (ChangeSpec.witness6 (enc := enc) (C := Try.checked) false ⟨#[], #[.slice none 0 0], []⟩ 8 (by kernel_rfl) (by kernel_rfl) (by kernel_rfl) (by kernel_rfl)) ?_
  intro W base args ds gs before hval0 hW hcnd _
  have hval : ∀ (j : Nat) t v, Try.f5.params[j]? = some t → args[j]? = some v → Value.okWide Try.prog W .any base t v := hval0
  have hW' := hW
  obtain ⟨p, q, hA0, hV, rfl, hfz, hnd⟩ := hW
  have hA : DataW.TrodAll enc Try.prog W 0 (fun _ => true) true Try.f5.params.toList args.toList ds p := hA0
  rw [Try.params5] at hA hval
  obtain ⟨v0, vs0, d0, ds0, p0, q0, hargs, rfl, rfl, h0, r0⟩ := trodAll_cons hA
  obtain ⟨rfl, rfl, rfl⟩ := trodAll_nil r0
  obtain rfl : args = #[v0] := by cases args; simp_all
  obtain ⟨rfl, rfl⟩ := trodVars_none hV
  obtain ⟨a0, len0, cap0, rfl⟩ := okWide_slice Try.underlying22 (hval 0 22 v0 rfl rfl)
  have k0 := h0
  have lt0 : ∀ x ∈ p0, x.block < W.heap.size := by obtain ⟨m, hm⟩ := k0; exact DataW.trod_lt m _ _ _ hm
  obtain ⟨z0, w0⟩ : ∃ zs, IsRow .u8 W a0 len0 cap0 zs := by
    obtain ⟨fuel, hf⟩ := h0
    rcases open_ints Try.underlying22 Try.underlying5 (by kernel_rfl) hf with ⟨hcs, _⟩ | ⟨x, l, c, zs, hcs, _, hl, hm, hz, _, hcell, hwz⟩
    · simp [Value.cells] at hcs
      obtain ⟨rfl, rfl, rfl⟩ := hcs
      exact ⟨[], .inl ⟨rfl, rfl, rfl, rfl⟩⟩
    · simp [Value.cells] at hcs
      obtain ⟨rfl, rfl, rfl⟩ := hcs
      exact ⟨zs, .inr ⟨_, rfl, hl, hm, by simpa using hz, hcell, hwz⟩⟩
  clear hA0 hval0
  refine (walk a0 len0 cap0 z0 W w0).mono fun e W' ⟨he, bel⟩ => ?_
  subst he
  exact ⟨_, rfl, _, _, _, [], _, [], hW', trodAll_mk1 (shut_bool Try.underlying4 _), (trodAll_cons_mk (Below.trod laidOut (by kernel_rfl) (of_decide_eq_true (by kernel_rfl)) k0 bel lt0) trodAll_mk0), rfl, bel.frame _, fun h => by cases h⟩
theorem over : Rows.fnHdlcFlagRow.holds Try.pinned (OpenSpec.ofChange Rows.fnHdlcFlagSpec) :=
  OpenClaim.holds_of_wide 5 Try.f5 rfl rfl rfl rfl rfl rfl rfl ⟨rfl, rfl, rfl, rfl, rfl⟩ rfl rfl rfl rfl rfl (by kernel_rfl) Try.func5 (by kernel_rfl)
    (of_decide_eq_true (by kernel_rfl)) (by unfold Func.isWrapper; first | (rw [if_pos (by decide +kernel)]; kernel_rfl) | (rw [if_neg (by decide +kernel)]; exact ⟨rfl, rfl⟩))
    (fun os started H enc _ => lifted os started H enc)
theorem proved : Rows.FnHdlcFlagSaid := over
end Go.Proofs.Ytekhakapmpdnaaa.fnHdlcFlag
