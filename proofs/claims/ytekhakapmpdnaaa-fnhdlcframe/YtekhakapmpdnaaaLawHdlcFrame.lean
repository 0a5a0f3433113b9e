/- FnHdlcFrame: what comes as events out of HdlcFeed, at whatever is drawn from whatever bytes. No condition. -/
import Derived.Test.YtekhakapmpdnaaaDrawFeed
import Derived.Test.YtekhakapmpdnaaaHdlcT
import Derived.Test.YtekhakapmpdnaaaHdlcR
namespace Go.Proofs.Ytekhakapmpdnaaa.fnHdlcFrame
open Go.ChangeShapes Go.WideShapes Go.ChangeAt Go.RowKit
set_option linter.unusedVariables false
set_option maxRecDepth 100000 in
set_option maxHeartbeats 8000000 in
theorem walk (a0 : Option Addr) (len0 cap0 : Nat) (z0 : List Int) (w : World) (w0 : IsRow .u8 w a0 len0 cap0 z0) :
    Calls Try.prog 6 #[.slice a0 len0 cap0] w fun e w' => e = .returned (.bool true) ∧ Below w.heap.size w w' := by
  have hcap : len0 ≤ cap0 ∧ cap0 ≤ maxLen := by
    rcases w0 with ⟨_, h1, h2, _⟩ | ⟨x, _, h1, h2, _⟩
    · subst h1 h2; simp [maxLen]
    · exact ⟨h1, h2⟩
  unfold maxLen at hcap
  obtain ⟨hcap1, hcap2⟩ := hcap
  have HD := Lib.hid (drawFeed_any a0 len0 cap0 z0 w0)
  clear w0
  by_cases hbig : 1048576 < len0
  · go_enter Try.func6, Try.ntmps6
    go_wp2
    go_ret
    exact ⟨rfl, Below.refl _ _⟩
  go_enter Try.func6, Try.ntmps6
  go_wp2_with fail
  refine HD.out.mono ?_
  rintro e w1 ⟨kd, i, n, b, s, rfl, hb, hs, hb1⟩
  have hbm : b.size ≤ maxLen := by unfold maxLen; omega
  have hsm : s.size ≤ maxLen := by unfold maxLen; omega
  have hgood := feedA_good kd i n b.data.toList s.data.toList
  obtain ⟨hlen1, hlen2⟩ := feedA_len kd i n b.data.toList s.data.toList
  rw [size_list] at hlen1
  have HSp := Lib.hid (fun W => specFeed_any kd i n b s W hbm hsm)
  have HIm := Lib.hid (fun W => implFeed_any kd i n b s W hbm hsm)
  generalize feedA kd i n b.data.toList s.data.toList = p at *
  obtain ⟨⟨inn, m, bs⟩, evs⟩ := p
  simp only at hlen1 hlen2 hgood
  have HGood := Lib.hid hgood
  have HB1 := Lib.hid hb1
  clear hb1 hgood HD
  go_wp2_with fail
  refine (HIm.out _).mono ?_
  rintro e w2 ⟨⟨v2, rfl, hoe2⟩, hb2⟩
  have hB2 : B3 w2 w1.heap.size (.bool i) (.int .i64 n) (.string b) := (B3.new w1 _ _ _).below hb2
  have HBe2 := Lib.hid ((HB1.out.alloc HB1.out.size (.cells #[.bool i, .int .i64 n, .string b] 29)).trans (hb2.mono (by have := HB1.out.size; simp; omega)))
  have HO2 := Lib.hid hoe2
  obtain ⟨c0, c1, c2⟩ := (hB2.alloc (.cells #[.bool inn, .int .i64 m, .string ⟨bs.toArray⟩] 29)).cells
  have HB2 := Lib.hid hB2
  clear hB2 hb2 hoe2
  rw [hV]
  obtain ⟨T, hT⟩ : ∃ T : ByteArray, T = ⟨bs.toArray⟩ := ⟨_, rfl⟩
  simp only [← hT] at c0 c1 c2 ⊢
  have HTT := Lib.hid hT
  clear hT
  go_wp2_with fail
  refine (HSp.out _).mono ?_
  rintro e w3 ⟨⟨v3, rfl, hoe3⟩, hb3⟩
  have hB3 : B3 w3 w2.heap.size (.bool inn) (.int .i64 m) (.string T) := (B3.new w2 _ _ _).below hb3
  have hbe3 : Below w2.heap.size w2 w3 := ((Below.refl _ w2).alloc (Nat.le_refl _) _).trans (hb3.mono (by simp))
  have HBe3 := Lib.hid (HBe2.out.trans (hbe3.mono HBe2.out.size))
  have HO3 := Lib.hid (OE.below HO2.out hbe3)
  have HO4 := Lib.hid hoe3
  have hal : Below w3.heap.size w3 (w3.alloc (.cells #[.bool inn, .int .i64 m, .string T] 29)) := (Below.refl _ _).alloc (Nat.le_refl _) _
  obtain ⟨d0, d1, d2⟩ := (hB3.below hal).cells
  have HBe4 := Lib.hid (HBe3.out.trans (hal.mono HBe3.out.size))
  have HO5 := Lib.hid (OE.below HO3.out hal)
  have HO6 := Lib.hid (OE.below HO4.out hal)
  have HB3 := Lib.hid (hB3.below hal)
  clear hB3 hb3 hbe3 hoe3 hal c0 c1 c2 HB2 HBe2 HO2 HBe3 HO3 HO4
  rw [hV]
  simp only [← HTT.out]
  have q1 := hd_neq inn m T
  have q2 := guard_hd
  have q3 := hd_eq 9998 inn m T
  have q4 := hd_eql inn m T
  obtain ⟨av, cv, hv2⟩ := HO5.out.reads.shape
  subst hv2
  go_wp2_with fail
  refine (ctEvents_same _ v3 evs _ _ _ _ _ HO5.out.reads HO6.out.reads (Nat.le_refl _) (Nat.le_refl _) (by omega)).mono ?_
  rintro e w5 ⟨rfl, hb5⟩
  have HBe5 := Lib.hid (HBe4.out.trans (hb5.mono HBe4.out.size))
  have HO7 := Lib.hid (OE.below HO5.out hb5)
  have HO8 := Lib.hid (OE.below HO6.out hb5)
  obtain ⟨k0, k1, k2⟩ := (HB3.out.below hb5).cells
  obtain ⟨l0, l1, l2⟩ := ((B3.new w3 (.bool inn) (.int .i64 m) (.string T)).below hb5).cells
  clear hb5 d0 d1 d2 HBe4 HO5 HO6 HB3
  by_cases h0 : evs.length = 0
  · obtain rfl : evs = [] := List.eq_nil_of_length_eq_zero h0
    clear h0 hlen1 hlen2
    have HC := Lib.hid (ctEvents_same _ v3 [] _ _ _ _ _ HO7.out.reads HO8.out.reads (Nat.le_refl _) (Nat.le_refl _) (by simp))
    go_wp2_with fail
    refine HC.out.mono ?_
    rintro e w6 ⟨rfl, hb6⟩
    have HBe6 := Lib.hid (HBe5.out.trans (hb6.mono HBe5.out.size))
    clear hb6
    go_wp2
    go_ret
    exact ⟨rfl, HBe6.out⟩
  have hb0 : ((evs.length : Int) == 0) = false := beq_eq_false_iff_ne.2 (by omega)
  clear q1 q2 q3 q4 k0 k1 k2 l0 l1 l2
  go_wp2_with fail
  go_loopw [10, 11] (fun j _ wr => ∃ k : Nat, k ≤ evs.length ∧ j = .int .i64 k ∧ Below w5.heap.size w5 wr) (fun j _ _ => evs.length - (intOf j).toNat)
  case atStart => exact ⟨0, Nat.zero_le _, rfl, Below.refl _ _⟩
  case round =>
    obtain ⟨k, hk, rfl, hbr⟩ := hrel
    have HBr := Lib.hid hbr
    by_cases hlt : k < evs.length
    · obtain ⟨x, rfl, _, _, c0, c1⟩ := RE.at_ (HO7.out.reads.below hbr) hlt
      obtain ⟨hg1, hg2, hg3, hg4⟩ := HGood.out evs[k] (List.getElem_mem _)
      obtain ⟨tt, htt⟩ : ∃ tt : ByteArray, tt = ⟨evs[k].text.toArray⟩ := ⟨_, rfl⟩
      have hts : tt.size ≤ 24 := by rw [htt, mk_size]; exact hg4
      have hte : evs[k].kind ≠ 1 → tt = ⟨#[]⟩ := fun h => by rw [htt, hg3 h]
      rw [← htt] at c1
      clear htt hg3 hg4 hbr
      generalize evs[k].kind = kk at *
      by_cases h1 : kk = 1
      · subst h1
        clear hte
        go_wp2
        go_roundw
        case rel => exact ⟨k + 1, by omega, by go_num, HBr.out.alloc HBr.out.size _⟩
        case measure => simp [intOf]; omega
      · have hb1 : (kk != 1) = true := by rw [bne_iff_ne]; exact h1
        have hte' := hte h1
        subst hte'
        clear hte h1
        go_wp2
        go_roundw
        case rel => exact ⟨k + 1, by omega, by go_num, HBr.out.alloc HBr.out.size _⟩
        case measure => simp [intOf]; omega
    · go_wp2
      go_ret
      exact ⟨rfl, HBe5.out.trans (HBr.out.mono HBe5.out.size)⟩
theorem own : ownKnob Try.prog.godebug = none := by kernel_rfl
theorem laidOut : laidOutB Try.prog = true := by kernel_rfl
set_option maxRecDepth 100000 in
theorem lifted (os : Os) (started : os.Started) (H : Type) (enc : TypeId × Value → H) :
    ReturnsInHanded {} Try.checked os 6 .any (Rows.fnHdlcFrameSpec.pre6 enc Try.prog Try.f6 Rows.fnHdlcFrameRow.domain false) (Rows.fnHdlcFrameSpec.post enc Try.prog Try.f6 false true false false) := by
  refine returnsInHanded_of_change (C := Try.checked) own started (by kernel_rfl) Try.func6
    (ChangeSpec.witness6 (enc := enc) (C := Try.checked) false ⟨#[], #[.slice none 0 0], []⟩ 8 (by kernel_rfl) (by kernel_rfl) (by kernel_rfl) (by kernel_rfl)) ?_
  intro W base args ds gs before hval0 hW hcnd _
  have hval : ∀ (j : Nat) t v, Try.f6.params[j]? = some t → args[j]? = some v → Value.okWide Try.prog W .any base t v := hval0
  have hW' := hW
  obtain ⟨p, q, hA0, hV, rfl, hfz, hnd⟩ := hW
  have hA : DataW.TrodAll enc Try.prog W 0 (fun _ => true) true Try.f6.params.toList args.toList ds p := hA0
  rw [Try.params6] at hA hval
  obtain ⟨v0, vs0, d0, ds0, p0, q0, hargs, rfl, rfl, h0, r0⟩ := trodAll_cons hA
  obtain ⟨rfl, rfl, rfl⟩ := trodAll_nil r0
  obtain rfl : args = #[v0] := by cases args; simp_all
  obtain ⟨rfl, rfl⟩ := trodVars_none hV
  obtain ⟨a0, len0, cap0, rfl⟩ := okWide_slice Try.underlying22 (hval 0 22 v0 rfl rfl)
  have k0 := h0
  have lt0 : ∀ x ∈ p0, x.block < W.heap.size := by obtain ⟨m, hm⟩ := k0; exact DataW.trod_lt m _ _ _ hm
  obtain ⟨z0, w0⟩ : ∃ zs, IsRow .u8 W a0 len0 cap0 zs := by
    obtain ⟨fuel, hf⟩ := h0
    rcases open_ints Try.underlying22 Try.underlying5 (by kernel_rfl) hf with ⟨hcs, _⟩ | ⟨x, l, c, zs, hcs, _, hl, hm, hz, _, hcell, hwz⟩
    · simp [Value.cells] at hcs
      obtain ⟨rfl, rfl, rfl⟩ := hcs
      exact ⟨[], .inl ⟨rfl, rfl, rfl, rfl⟩⟩
    · simp [Value.cells] at hcs
      obtain ⟨rfl, rfl, rfl⟩ := hcs
      exact ⟨zs, .inr ⟨_, rfl, hl, hm, by simpa using hz, hcell, hwz⟩⟩
  clear hA0 hval0
  refine (walk a0 len0 cap0 z0 W w0).mono fun e W' ⟨he, bel⟩ => ?_
  subst he
  exact ⟨_, rfl, _, _, _, [], _, [], hW', trodAll_mk1 (shut_bool Try.underlying4 _), (trodAll_cons_mk (Below.trod laidOut (by kernel_rfl) (of_decide_eq_true (by kernel_rfl)) k0 bel lt0) trodAll_mk0), rfl, bel.frame _, fun h => by cases h⟩
theorem over : Rows.fnHdlcFrameRow.holds Try.pinned (OpenSpec.ofChange Rows.fnHdlcFrameSpec) :=
  OpenClaim.holds_of_wide 6 Try.f6 rfl rfl rfl rfl rfl rfl rfl ⟨rfl, rfl, rfl, rfl, rfl⟩ rfl rfl rfl rfl rfl (by kernel_rfl) Try.func6 (by kernel_rfl)
    (of_decide_eq_true (by kernel_rfl)) (by unfold Func.isWrapper; first | (rw [if_pos (by decide +kernel)]; kernel_rfl) | (rw [if_neg (by decide +kernel)]; exact ⟨rfl, rfl⟩))
    (fun os started H enc _ => lifted os started H enc)
theorem proved : Rows.FnHdlcFrameSaid := over
end Go.Proofs.Ytekhakapmpdnaaa.fnHdlcFrame
