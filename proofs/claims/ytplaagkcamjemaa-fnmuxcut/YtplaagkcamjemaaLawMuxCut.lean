/- FnMuxCut: What is cut is told again, however it is cut; no piece is longer than asked, and there are no more than needed. For every code (the law draws a channel, bytes and how many go at once from it). No condition. -/
import Derived.Test.YtplaagkcamjemaaKitA
import Derived.Test.YtplaagkcamjemaaMxZ
import Derived.Test.YtplaagkcamjemaaMxL
namespace Go.Proofs.Ytplaagkcamjemaa.fnMuxCut
open Go.ChangeShapes Go.WideShapes Go.ChangeAt Go.RowKit
open Go.ChangeMaps (open_string shut_string)
set_option linter.unusedVariables false
set_option maxRecDepth 100000 in
set_option maxHeartbeats 800000 in
theorem walk (a0 : Option Addr) (len0 cap0 : Nat) (z0 : List Int) (w : World) (w0 : IsRow .u8 w a0 len0 cap0 z0) :
    Calls Try.prog 3 #[.slice a0 len0 cap0] w fun e w' => e = .returned (.bool true) ∧ Below w.heap.size w w' := by
  by_cases hbig : 1048576 < len0
  · go_enter Try.func3, Try.ntmps3
    go_wp2
    go_ret
    exact ⟨rfl, Below.refl _ _⟩
  have HH := Lib.hid w0
  clear w0
  go_enter Try.func3, Try.ntmps3
  go_wp2_with fail
  refine (drawMuxCut_any a0 len0 cap0 z0 HH.out).mono ?_
  rintro e w1 ⟨c, s, z, rfl, hs, hz, hc, hb⟩
  have HB1 := Lib.hid hb
  have hmax : s.size ≤ maxLen := by unfold maxLen; omega
  clear hb
  cases hok : cutOkB c s.data.toList.length z with
  | false =>
    have HN := Lib.hid (show strs (cutM c s.data.toList z) = [] by unfold cutM; rw [if_neg (by rw [hok]; decide)]; rfl)
    clear hok
    go_wp2_with fail
    refine (implMuxCut_any c s z _).mono ?_
    rintro e w2 ⟨⟨v1, rfl, ho1⟩, hb⟩
    rw [HN.out] at ho1
    obtain ⟨a1, c1, rfl⟩ := ho1.reads.shape
    have HO1 := Lib.hid ho1
    have HB2 := Lib.hid (HB1.out.trans (hb.mono HB1.out.size))
    clear ho1 hb
    go_wp2_with fail
    refine (specMuxCut_any c s z _).mono ?_
    rintro e w3 ⟨⟨v2, rfl, ho2⟩, hb⟩
    rw [HN.out] at ho2
    obtain ⟨a2, c2, rfl⟩ := ho2.reads.shape
    have HO2 := Lib.hid ho2
    have HO1 := Lib.hid (HO1.out.below hb)
    have HB3 := Lib.hid (HB2.out.trans (hb.mono HB2.out.size))
    clear ho2 hb
    go_wp2_with fail
    refine (ctTexts_same _ _ [] _ _ _ HO1.out.reads HO2.out.reads (Nat.le_refl _) (Nat.le_refl _) (by simp)).mono ?_
    rintro e w4 ⟨rfl, hb⟩
    have HO1 := Lib.hid (HO1.out.below hb)
    have HB4 := Lib.hid (HB3.out.trans (hb.mono HB3.out.size))
    clear hb
    go_wp2_with fail
    refine (specMuxCut_any c s z _).mono ?_
    rintro e w5 ⟨⟨v5, rfl, ho5⟩, hb⟩
    rw [HN.out] at ho5
    obtain ⟨a5, c5, rfl⟩ := ho5.reads.shape
    have HO5 := Lib.hid ho5
    have HO1 := Lib.hid (HO1.out.below hb)
    have HB5 := Lib.hid (HB4.out.trans (hb.mono HB4.out.size))
    clear ho5 hb
    go_wp2_with fail
    refine (ctTexts_same _ _ [] _ _ _ HO1.out.reads HO5.out.reads (Nat.le_refl _) (Nat.le_refl _) (by simp)).mono ?_
    rintro e w6 ⟨rfl, hb⟩
    have HB6 := Lib.hid (HB5.out.trans (hb.mono HB5.out.size))
    clear hb
    go_wp2
    go_ret
    exact ⟨rfl, HB6.out⟩
  | true =>
    have hp := of_decide_eq_true hok
    rw [size_list] at hp
    obtain ⟨ch, rfl⟩ := Int.eq_ofNat_of_zero_le hp.1
    obtain ⟨size, rfl⟩ := Int.eq_ofNat_of_zero_le (show 0 ≤ z by omega)
    have hch : ch < 3 := by omega
    have hsz : 1 ≤ size ∧ size ≤ 40 := by omega
    have hs40 : s.size ≤ 40 := by omega
    have hcm : cutM (ch : Int) s.data.toList (size : Int) = cutL ch size s.data.toList := by unfold cutM; rw [if_pos hok]; rfl
    have HIM := Lib.hid (fun W => implMuxCut_any (ch : Int) s (size : Int) W)
    have HSP := Lib.hid (fun W => specMuxCut_any (ch : Int) s (size : Int) W)
    obtain ⟨ls, hls⟩ : ∃ ls, ls = cutL ch size s.data.toList := ⟨_, rfl⟩
    have HTOLD := Lib.hid (show allTold mux0 ls = [⟨(ch : Nat), s.data.toList⟩] by
      rw [hls, told_cut ch size hch _ mux0 rfl (by rw [size_list]; match ch, hch with | 0, _ => simp [mux0]; omega | 1, _ => simp [mux0]; omega | 2, _ => simp [mux0]; omega)]
      match ch, hch with | 0, _ => rfl | 1, _ => rfl | 2, _ => rfl)
    have hlen := cut_len ch size s.data.toList (by omega)
    have hshort := cut_short ch size s.data.toList (by omega)
    rw [← hls] at hlen hshort
    rw [hcm, ← hls] at HIM HSP
    rw [size_list] at hlen
    obtain ⟨SS, hSS⟩ : ∃ SS, SS = strs ls := ⟨_, rfl⟩
    have hSl : SS.length = ls.length := by rw [hSS, strs_len]
    have HTX := Lib.hid (show txts SS = ls by rw [hSS, txts_strs])
    have HSHORT := Lib.hid (show ∀ q ∈ SS, q.size ≤ size + 1 by
      intro q hq
      rw [hSS] at hq
      unfold strs at hq
      obtain ⟨l, hl, rfl⟩ := List.mem_map.1 hq
      exact hshort l hl)
    unfold StrsPost at HIM HSP
    rw [← hSS] at HIM HSP
    have hn1 : 1 ≤ SS.length ∧ SS.length ≤ 41 := by
      rw [hSl, hlen]
      split
      · omega
      · have h1 : 0 < (s.size + size - 1) / size := Nat.div_pos (by omega) (by omega)
        have h2 : (s.size + size - 1) / size ≤ s.size + size - 1 := Nat.div_le_self _ _
        have h3 : (s.size + size - 1) / size ≤ 40 := by
          have : (s.size + size - 1) / size < 41 := (Nat.div_lt_iff_lt_mul (by omega)).2 (by
            have : s.size + size - 1 ≤ 40 + size - 1 := by omega
            have h41 : 41 * size = 40 * size + size := by omega
            have : 40 ≤ 40 * size := by omega
            omega)
          omega
        omega
    obtain ⟨q, hq⟩ : ∃ q, q = (s.size + size - 1) / size := ⟨_, rfl⟩
    have hqi : ((s.size : Int) + (size : Int) - 1) / (size : Int) = (q : Int) := by
      rw [hq, Int.natCast_ediv]
      congr 1
      omega
    have hqt : ((s.size : Int) + (size : Int) - 1).tdiv (size : Int) = (q : Int) := by rw [Int.tdiv_eq_ediv_of_nonneg (by omega)]; exact hqi
    have hqle : q ≤ 79 := by rw [hq]; exact Nat.le_trans (Nat.div_le_self _ _) (by omega)
    rw [← hq] at hlen
    have HLEN := Lib.hid (show SS.length = if s.size = 0 then 1 else q by rw [hSl]; exact hlen)
    have hz0 : ((size : Int) == 0) = false := beq_eq_false_iff_ne.2 (by omega)
    have hzm : ((size : Int) == -1) = false := beq_eq_false_iff_ne.2 (by omega)
    have hz1 : (size : Int) ≠ 0 := by omega
    clear hok hp hcm hls hlen hshort hSS hSl hq hc hz
    go_wp2_with fail
    refine (HIM.out _).mono ?_
    rintro e w2 ⟨⟨v1, rfl, ho1⟩, hb⟩
    obtain ⟨g1, c1, rfl, _, _⟩ := ho1.pos (by omega)
    have HO1 := Lib.hid ho1
    have HB2 := Lib.hid (HB1.out.trans (hb.mono HB1.out.size))
    clear ho1 hb
    go_wp2_with fail
    refine (HSP.out _).mono ?_
    rintro e w3 ⟨⟨v2, rfl, ho2⟩, hb⟩
    obtain ⟨a2, c2, rfl⟩ := ho2.reads.shape
    have HO2 := Lib.hid ho2
    have HO1 := Lib.hid (HO1.out.below hb)
    have HB3 := Lib.hid (HB2.out.trans (hb.mono HB2.out.size))
    clear ho2 hb
    go_wp2_with fail
    refine (ctTexts_same _ _ SS _ _ _ HO1.out.reads HO2.out.reads (Nat.le_refl _) (Nat.le_refl _) (by omega)).mono ?_
    rintro e w4 ⟨rfl, hb⟩
    have HO1 := Lib.hid (HO1.out.below hb)
    have HB4 := Lib.hid (HB3.out.trans (hb.mono HB3.out.size))
    clear hb
    have hnz : ((SS.length : Int) == 0) = false := beq_eq_false_iff_ne.2 (by omega)
    go_upto_region 8 with fail
    go_loop [7] (fun i => ∃ k : Nat, k ≤ SS.length ∧ i = .int .i64 k) (fun i => SS.length - (intOf i).toNat)
    case atStart => exact ⟨0, by omega, rfl⟩
    case round =>
      obtain ⟨k, hk, rfl⟩ := hrel
      by_cases hlt : k < SS.length
      · have c0 := HO1.out.cellAt hlt
        have hsh := HSHORT.out SS[k] (List.getElem_mem hlt)
        have hki : (k : Int) < (SS.length : Int) := by omega
        generalize SS[k] = sk at *
        have hcmp : ¬ ((size : Int) + 1 < (sk.size : Int)) := by omega
        have hcmp2 : decide ((size : Int) + 1 < (sk.size : Int)) = false := decide_eq_false hcmp
        go_wp2
        go_round
        case rel => exact ⟨k + 1, by omega, by go_num⟩
        case measure => simp [intOf]; omega
      · have HI4 := Lib.hid (implMxAll_any _ SS w4 _ HO1.out.reads (Nat.le_refl _) (by omega) (fun q hq => by have := HSHORT.out q hq; omega))
        rw [HTX.out, HTOLD.out] at HI4
        go_wp2_with fail
        refine HI4.out.mono ?_
        rintro e w5 ⟨⟨u, rfl, hu⟩, hb⟩
        obtain ⟨au, cu, rfl⟩ := hu.reads.shape
        have HU := Lib.hid (hu.below ((Below.refl _ w5).alloc (Nat.le_refl _) (.cells #[.int .i64 (ch : Int), .string s] 32)))
        have HN := Lib.hid (oe_new w5 0 (Nat.zero_le _) (ch : Int) s)
        have HB5 := Lib.hid ((HB4.out.trans (hb.mono HB4.out.size)).alloc (Nat.le_trans HB4.out.size hb.size) (.cells #[.int .i64 (ch : Int), .string s] 32))
        clear hu hb
        go_wp2_with fail
        refine (ctEvents_same _ _ [⟨(ch : Nat), s.data.toList⟩] _ _ _ _ _ HU.out.reads HN.out.reads (Nat.le_refl _) (Nat.le_refl _) (by simp)).mono ?_
        rintro e w6 ⟨rfl, hb⟩
        have HB6 := Lib.hid (HB5.out.trans (hb.mono HB5.out.size))
        clear hb
        by_cases h0 : s.size = 0
        · have hl1 : SS.length = 1 := by rw [HLEN.out, if_pos h0]
          have he : s.toList.isEmpty = true := by rw [bze]; exact decide_eq_true h0
          have hl1i : ((SS.length : Int) == 1) = true := by rw [beq_iff_eq]; omega
          have HL1 := Lib.hid hl1
          have H0 := Lib.hid h0
          clear hl1 h0
          generalize SS.length = n at *
          cases hnq : ((n : Int) == (q : Int)) <;>
          · go_wp2
            go_ret
            exact ⟨rfl, HB6.out⟩
        · have hlq : ((SS.length : Int) == (q : Int)) = true := by rw [beq_iff_eq]; have := HLEN.out; rw [if_neg h0] at this; omega
          go_wp2
          go_ret
          exact ⟨rfl, HB6.out⟩
theorem own : ownKnob Try.prog.godebug = none := by kernel_rfl
theorem laidOut : laidOutB Try.prog = true := by kernel_rfl
set_option maxRecDepth 100000 in
theorem lifted (os : Os) (started : os.Started) (H : Type) (enc : TypeId × Value → H) :
    ReturnsInHanded {} Try.checked os 3 .any (Rows.fnMuxCutSpec.pre6 enc Try.prog Try.f3 Rows.fnMuxCutRow.domain false) (Rows.fnMuxCutSpec.post enc Try.prog Try.f3 false true false false) := by
  refine returnsInHanded_of_change (C := Try.checked) own started (by kernel_rfl) Try.func3
    (ChangeSpec.witness6 (enc := enc) (C := Try.checked) false ⟨#[], #[.slice none 0 0], []⟩ 8 (by kernel_rfl) (by kernel_rfl) (by kernel_rfl) (by kernel_rfl)) ?_
  intro W base args ds gs before hval0 hW hcnd _
  have hval : ∀ (j : Nat) t v, Try.f3.params[j]? = some t → args[j]? = some v → Value.okWide Try.prog W .any base t v := hval0
  have hW' := hW
  obtain ⟨p, q, hA0, hV, rfl, hfz, hnd⟩ := hW
  have hA : DataW.TrodAll enc Try.prog W 0 (fun _ => true) true Try.f3.params.toList args.toList ds p := hA0
  rw [Try.params3] at hA hval
  obtain ⟨v0, vs0, d0, ds0, p0, q0, hargs, rfl, rfl, h0, r0⟩ := trodAll_cons hA
  obtain ⟨rfl, rfl, rfl⟩ := trodAll_nil r0
  obtain rfl : args = #[v0] := by cases args; simp_all
  obtain ⟨rfl, rfl⟩ := trodVars_none hV
  obtain ⟨a0, len0, cap0, rfl⟩ := okWide_slice Try.underlying22 (hval 0 22 v0 rfl rfl)
  have k0 := h0
  have lt0 : ∀ x ∈ p0, x.block < W.heap.size := by obtain ⟨m, hm⟩ := k0; exact DataW.trod_lt m _ _ _ hm
  obtain ⟨z0, w0⟩ : ∃ zs, IsRow .u8 W a0 len0 cap0 zs := by
    obtain ⟨fuel, hf⟩ := h0
    rcases open_ints Try.underlying22 Try.underlying5 (by kernel_rfl) hf with ⟨hcs, _⟩ | ⟨x, l, c, zs, hcs, _, hl, hm, hz, _, hcell, hwz⟩
    · simp [Value.cells] at hcs
      obtain ⟨rfl, rfl, rfl⟩ := hcs
      exact ⟨[], .inl ⟨rfl, rfl, rfl, rfl⟩⟩
    · simp [Value.cells] at hcs
      obtain ⟨rfl, rfl, rfl⟩ := hcs
      exact ⟨zs, .inr ⟨_, rfl, hl, hm, by simpa using hz, hcell, hwz⟩⟩
  clear hA0 hval0
  refine (walk a0 len0 cap0 z0 W w0).mono fun e W' ⟨he, bel⟩ => ?_
  subst he
  exact ⟨_, rfl, _, _, _, [], _, [], hW', trodAll_mk1 (shut_bool Try.underlying4 _), (trodAll_cons_mk (Below.trod laidOut (by kernel_rfl) (of_decide_eq_true (by kernel_rfl)) k0 bel lt0) trodAll_mk0), rfl, bel.frame _, fun h => by cases h⟩
theorem over : Rows.fnMuxCutRow.holds Try.pinned (OpenSpec.ofChange Rows.fnMuxCutSpec) :=
  OpenClaim.holds_of_wide 3 Try.f3 rfl rfl rfl rfl rfl rfl rfl ⟨rfl, rfl, rfl, rfl, rfl⟩ rfl rfl rfl rfl rfl (by kernel_rfl) Try.func3 (by kernel_rfl)
    (of_decide_eq_true (by kernel_rfl)) (by unfold Func.isWrapper; first | (rw [if_pos (by decide +kernel)]; kernel_rfl) | (rw [if_neg (by decide +kernel)]; exact ⟨rfl, rfl⟩))
    (fun os started H enc _ => lifted os started H enc)
theorem proved : Rows.FnMuxCutSaid := over
end Go.Proofs.Ytplaagkcamjemaa.fnMuxCut
