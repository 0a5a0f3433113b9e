/- FnScramPut: Bits are read back from how they are scrambled; scrambled in two pieces they are the same. For every code (the law draws a state and bits from it) and every second argument. No condition. -/
import Derived.Test.YtcljldnaecldnaaKitA
import Derived.Test.YtcljldnaecldnaaScrG
namespace Go.Proofs.Ytcljldnaecldnaa.fnScramPut
open Go.ChangeShapes Go.WideShapes Go.ChangeAt Go.RowKit
open Go.ChangeMaps (open_string shut_string)
set_option linter.unusedVariables false
set_option maxRecDepth 100000 in
set_option maxHeartbeats 800000 in
theorem walk (a0 : Option Addr) (len0 cap0 : Nat) (z0 : List Int) (a1 : Option Addr) (len1 cap1 : Nat) (z1 : List Int) (w : World) (w0 : IsRow .u8 w a0 len0 cap0 z0) (w1 : IsRow .u8 w a1 len1 cap1 z1) :
    Calls Try.prog 3 #[.slice a0 len0 cap0, .slice a1 len1 cap1] w fun e w' => e = .returned (.bool true) ∧ Below w.heap.size w w' := by
  by_cases hbig : 1048576 < len0
  · go_enter Try.func3, Try.ntmps3
    go_wp2
    go_ret
    exact ⟨rfl, Below.refl _ _⟩
  by_cases hbig1 : 1048576 < len1
  · go_enter Try.func3, Try.ntmps3
    go_wp2
    go_ret
    exact ⟨rfl, Below.refl _ _⟩
  have HH := Lib.hid w0
  clear w0 w1
  go_enter Try.func3, Try.ntmps3
  go_wp2_with fail
  refine (drawScPut_any a0 len0 cap0 z0 HH.out).mono ?_
  rintro e w1 ⟨x, s, rfl, hx, hs, hb1⟩
  have HB1 := Lib.hid hb1
  clear hb1
  have hmax : s.size ≤ maxLen := by unfold maxLen; omega
  cases hok : scOkB x s with
  | false =>
    have HE := Lib.hid (endS_no scP hok)
    have HO := Lib.hid (outS_no scP hok)
    clear hok
    go_wp2_with fail
    refine (implScPut_any x s _ hmax).mono ?_
    rintro e w2 ⟨rfl, hb2⟩
    have HB2 := Lib.hid (HB1.out.trans (hb2.mono HB1.out.size))
    clear hb2
    rw [HE.out, HO.out]
    go_wp2_with fail
    refine (specScPut_any x s _ hmax).mono ?_
    rintro e w3 ⟨rfl, hb3⟩
    have HB3 := Lib.hid (HB2.out.trans (hb3.mono HB2.out.size))
    clear hb3
    rw [HE.out, HO.out]
    go_wp2
    go_ret
    exact ⟨rfl, HB3.out⟩
  | true =>
    obtain ⟨⟨h1, h2⟩, h3⟩ := scOk_parts hok
    clear hok
    obtain ⟨n, rfl⟩ := Int.eq_ofNat_of_zero_le h1
    have hn : n < 128 := by omega
    have HK := Lib.hid h3
    have hbits := (okB_iff.1 h3).1
    have hs12 : s.size ≤ 1200 := by have := (okB_iff.1 h3).2; rw [size_list] at this; exact this
    obtain ⟨T, hT⟩ := text_of (mealy scP n s.data.toList).2
    obtain ⟨E, hE⟩ : ∃ E, (mealy scP n s.data.toList).1 = E := ⟨_, rfl⟩
    have hElt : E < 128 := by rw [← hE]; exact mealy_lt scP scP_lt n _ hn
    have hTs : T.size = s.size := by rw [← size_list, hT, mealy_len, size_list]
    have HM := Lib.hid (show mealy scP n s.data.toList = (E, T.data.toList) by rw [hT, ← hE])
    have HTO := Lib.hid (show okB T.data.toList = true by rw [hT]; exact mealy_ok scP n h3)
    have HG := Lib.hid (show mealy scG n T.data.toList = (E, s.data.toList) by rw [hT, mealy_back scG_scP n hbits, hE])
    have HTS := Lib.hid hTs
    clear h1 h2 h3 hx
    go_wp2_with fail
    refine (scPutY n s T E _ hn HK.out HM.out).mono ?_
    rintro e w2 ⟨rfl, hb2⟩
    have HB2 := Lib.hid (HB1.out.trans (hb2.mono HB1.out.size))
    clear hb2
    go_wp2_with fail
    refine (scPutM n s T E _ hn HK.out HM.out).mono ?_
    rintro e w3 ⟨rfl, hb3⟩
    have HB3 := Lib.hid (HB2.out.trans (hb3.mono HB2.out.size))
    clear hb3 hT hE hTs hbits
    go_wp2_with fail
    refine (scGetY n T s E _ hn HTO.out HG.out).mono ?_
    rintro e w4 ⟨rfl, hb4⟩
    have HB4 := Lib.hid (HB3.out.trans (hb4.mono HB3.out.size))
    clear hb4
    have hk0 : 0 ≤ (len1 : Int) % ((s.size : Int) + 1) := Int.emod_nonneg _ (by omega)
    have hk1 : (len1 : Int) % ((s.size : Int) + 1) ≤ (s.size : Int) := by have := Int.emod_lt_of_pos (len1 : Int) (show (0 : Int) < (s.size : Int) + 1 by omega); omega
    obtain ⟨k, hkk⟩ := Int.eq_ofNat_of_zero_le hk0
    have hkn : (k : Int) ≤ (s.size : Int) := hkk ▸ hk1
    have HEE := Lib.hid hkk
    clear hkk hk0 hk1
    obtain ⟨A, hA⟩ := text_of (mealy scP n (s.data.toList.take k)).2
    obtain ⟨M, hM⟩ : ∃ M, (mealy scP n (s.data.toList.take k)).1 = M := ⟨_, rfl⟩
    obtain ⟨B, hB⟩ := text_of (mealy scP M (s.data.toList.drop k)).2
    have hMlt : M < 128 := by rw [← hM]; exact mealy_lt scP scP_lt n _ hn
    have HMA := Lib.hid (show mealy scP n (s.extract 0 k).data.toList = (M, A.data.toList) by rw [ext_take, hA, ← hM])
    have hall : mealy scP n (s.data.toList.take k ++ s.data.toList.drop k) = (E, T.data.toList) := by rw [List.take_append_drop]; exact HM.out
    rw [mealy_append, hM, ← hA, ← hB] at hall
    have HMB := Lib.hid (show mealy scP M (s.extract k s.size).data.toList = (E, B.data.toList) by rw [ext_drop, hB]; rw [← (Prod.mk.inj hall).1])
    have HAB := Lib.hid (show A.data.toList ++ B.data.toList = T.data.toList from (Prod.mk.inj hall).2)
    have HO1 := Lib.hid (show okB (s.extract 0 k).data.toList = true by rw [ext_take]; exact ok_take HK.out k)
    have HO2 := Lib.hid (show okB (s.extract k s.size).data.toList = true by rw [ext_drop]; exact ok_drop HK.out k)
    clear hA hM hB hall
    have hsl1 : ∀ u : World, (Instr.slice 9 (.string s) none (some (.int .i64 (k : Int))) none).run Try.prog u = .ok (.string (s.extract 0 k)) u := fun u => by
      rw [run_slice_string_to_if u 9 s .i64 (k : Int) Try.underlying9]
      simp [hkn]
    have hsl2 : ∀ u : World, (Instr.slice 9 (.string s) (some (.int .i64 (k : Int))) none none).run Try.prog u = .ok (.string (s.extract k s.size)) u := fun u => by
      rw [run_slice_string_from_if u 9 s .i64 (k : Int) Try.underlying9]
      simp [hkn]
    go_upto_region 10 with fail
    rw [HEE.out]
    go_wp2_with fail
    refine (scPutY n (s.extract 0 k) A M _ hn HO1.out HMA.out).mono ?_
    rintro e w5 ⟨rfl, hb5⟩
    have HB5 := Lib.hid (HB4.out.trans (hb5.mono HB4.out.size))
    clear hb5
    go_wp2_with fail
    refine (scPutY M (s.extract k s.size) B E _ hMlt HO2.out HMB.out).mono ?_
    rintro e w6 ⟨rfl, hb6⟩
    have HB6 := Lib.hid (HB5.out.trans (hb6.mono HB5.out.size))
    clear hb6
    have hABs : A.size + B.size ≤ 1200 := by
      have h := congrArg List.length HAB.out
      rw [List.length_append, size_list, size_list, size_list, HTS.out] at h
      omega
    have hadd : A ++ B = T := by
      rw [← Lib.mk_data T, ← HAB.out]
      apply ByteArray.ext
      simp
    have hrun : ∀ u : World, (Op.stringOp .add A B).run Try.prog u = .ok (.string T) u := fun u => by
      rw [run_string_add_sum u _ _ (by omega), hadd]
    clear hadd
    have hTi : ((T.size : Int) == (s.size : Int)) = true := by rw [beq_iff_eq, HTS.out]
    go_wp2
    go_ret
    exact ⟨rfl, HB6.out⟩
theorem own : ownKnob Try.prog.godebug = none := by kernel_rfl
theorem laidOut : laidOutB Try.prog = true := by kernel_rfl
set_option maxRecDepth 100000 in
theorem lifted (os : Os) (started : os.Started) (H : Type) (enc : TypeId × Value → H) :
    ReturnsInHanded {} Try.checked os 3 .any (Rows.fnScramPutSpec.pre6 enc Try.prog Try.f3 Rows.fnScramPutRow.domain false) (Rows.fnScramPutSpec.post enc Try.prog Try.f3 false true false false) := by
  refine returnsInHanded_of_change (C := Try.checked) own started (by kernel_rfl) Try.func3
    (ChangeSpec.witness6 (enc := enc) (C := Try.checked) false ⟨#[], #[.slice none 0 0, .slice none 0 0], []⟩ 8 (by kernel_rfl) (by kernel_rfl) (by kernel_rfl) (by kernel_rfl)) ?_
  intro W base args ds gs before hval0 hW hcnd _
  have hval : ∀ (j : Nat) t v, Try.f3.params[j]? = some t → args[j]? = some v → Value.okWide Try.prog W .any base t v := hval0
  have hW' := hW
  obtain ⟨p, q, hA0, hV, rfl, hfz, hnd⟩ := hW
  have hA : DataW.TrodAll enc Try.prog W 0 (fun _ => true) true Try.f3.params.toList args.toList ds p := hA0
  rw [Try.params3] at hA hval
  obtain ⟨v0, vs0, d0, ds0, p0, q0, hargs, rfl, rfl, h0, r0⟩ := trodAll_cons hA
  obtain ⟨v1, vs1, d1, ds1, p1, q1, rfl, rfl, rfl, h1, r1⟩ := trodAll_cons r0
  obtain ⟨rfl, rfl, rfl⟩ := trodAll_nil r1
  obtain rfl : args = #[v0, v1] := by cases args; simp_all
  obtain ⟨rfl, rfl⟩ := trodVars_none hV
  obtain ⟨a0, len0, cap0, rfl⟩ := okWide_slice Try.underlying22 (hval 0 22 v0 rfl rfl)
  have k0 := h0
  have lt0 : ∀ x ∈ p0, x.block < W.heap.size := by obtain ⟨m, hm⟩ := k0; exact DataW.trod_lt m _ _ _ hm
  obtain ⟨z0, w0⟩ : ∃ zs, IsRow .u8 W a0 len0 cap0 zs := by
    obtain ⟨fuel, hf⟩ := h0
    rcases open_ints Try.underlying22 Try.underlying5 (by kernel_rfl) hf with ⟨hcs, _⟩ | ⟨x, l, c, zs, hcs, _, hl, hm, hz, _, hcell, hwz⟩
    · simp [Value.cells] at hcs
      obtain ⟨rfl, rfl, rfl⟩ := hcs
      exact ⟨[], .inl ⟨rfl, rfl, rfl, rfl⟩⟩
    · simp [Value.cells] at hcs
      obtain ⟨rfl, rfl, rfl⟩ := hcs
      exact ⟨zs, .inr ⟨_, rfl, hl, hm, by simpa using hz, hcell, hwz⟩⟩
  obtain ⟨a1, len1, cap1, rfl⟩ := okWide_slice Try.underlying22 (hval 1 22 v1 rfl rfl)
  have k1 := h1
  have lt1 : ∀ x ∈ p1, x.block < W.heap.size := by obtain ⟨m, hm⟩ := k1; exact DataW.trod_lt m _ _ _ hm
  obtain ⟨z1, w1⟩ : ∃ zs, IsRow .u8 W a1 len1 cap1 zs := by
    obtain ⟨fuel, hf⟩ := h1
    rcases open_ints Try.underlying22 Try.underlying5 (by kernel_rfl) hf with ⟨hcs, _⟩ | ⟨x, l, c, zs, hcs, _, hl, hm, hz, _, hcell, hwz⟩
    · simp [Value.cells] at hcs
      obtain ⟨rfl, rfl, rfl⟩ := hcs
      exact ⟨[], .inl ⟨rfl, rfl, rfl, rfl⟩⟩
    · simp [Value.cells] at hcs
      obtain ⟨rfl, rfl, rfl⟩ := hcs
      exact ⟨zs, .inr ⟨_, rfl, hl, hm, by simpa using hz, hcell, hwz⟩⟩
  clear hA0 hval0
  refine (walk a0 len0 cap0 z0 a1 len1 cap1 z1 W w0 w1).mono fun e W' ⟨he, bel⟩ => ?_
  subst he
  exact ⟨_, rfl, _, _, _, [], _, [], hW', trodAll_mk1 (shut_bool Try.underlying4 _), (trodAll_cons_mk (Below.trod laidOut (by kernel_rfl) (of_decide_eq_true (by kernel_rfl)) k0 bel lt0) (trodAll_cons_mk (Below.trod laidOut (by kernel_rfl) (of_decide_eq_true (by kernel_rfl)) k1 bel lt1) trodAll_mk0)), rfl, bel.frame _, fun h => by cases h⟩
theorem over : Rows.fnScramPutRow.holds Try.pinned (OpenSpec.ofChange Rows.fnScramPutSpec) :=
  OpenClaim.holds_of_wide 3 Try.f3 rfl rfl rfl rfl rfl rfl rfl ⟨rfl, rfl, rfl, rfl, rfl⟩ rfl rfl rfl rfl rfl (by kernel_rfl) Try.func3 (by kernel_rfl)
    (of_decide_eq_true (by kernel_rfl)) (by unfold Func.isWrapper; first | (rw [if_pos (by decide +kernel)]; kernel_rfl) | (rw [if_neg (by decide +kernel)]; exact ⟨rfl, rfl⟩))
    (fun os started H enc _ => lifted os started H enc)
theorem proved : Rows.FnScramPutSaid := over
end Go.Proofs.Ytcljldnaecldnaa.fnScramPut
