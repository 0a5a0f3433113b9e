/- FnWeaveGet: what is read back is woven the same; it is woven in as many rows as there were columns. For every code (the law draws a text and how many rows from it). No condition. -/
import Derived.Test.YtibilifhbnjckaaKitA
import Derived.Test.YtibilifhbnjckaaDrawWea
namespace Go.Proofs.Ytibilifhbnjckaa.fnWeaveGet
open Go.ChangeShapes Go.WideShapes Go.ChangeAt Go.RowKit
open Go.ChangeMaps (open_string shut_string)
set_option linter.unusedVariables false
set_option maxRecDepth 100000 in
set_option maxHeartbeats 4000000 in
theorem walk (a0 : Option Addr) (len0 cap0 : Nat) (z0 : List Int) (w : World) (w0 : IsRow .u8 w a0 len0 cap0 z0) :
    Calls Try.prog 4 #[.slice a0 len0 cap0] w fun e w' => e = .returned (.bool true) ∧ Below w.heap.size w w' := by
  by_cases hbig : 1048576 < len0
  · go_enter Try.func4, Try.ntmps4
    go_wp2
    go_ret
    exact ⟨rfl, Below.refl _ _⟩
  have HH := Lib.hid w0
  clear w0
  go_enter Try.func4, Try.ntmps4
  go_wp2_with fail
  refine (drawWG_any a0 len0 cap0 z0 HH.out).mono ?_
  rintro e w1 ⟨s, k, rfl, hs, hk, hb1⟩
  have HB1 := Lib.hid hb1
  clear hb1
  have hmax : s.size ≤ maxLen := by unfold maxLen; omega
  cases hok : wOkB s.size k with
  | false =>
    have HK := Lib.hid hok
    clear hok
    go_wp2_with fail
    refine (implWeaveGet_no s k _ hmax HK.out).mono ?_
    rintro e w' ⟨rfl, rfl⟩
    go_wp2_with fail
    refine (specWeaveGet_no s k _ hmax HK.out).mono ?_
    rintro e w' ⟨rfl, rfl⟩
    go_wp2
    go_ret
    exact ⟨rfl, HB1.out⟩
  | true =>
    have HK := Lib.hid hok
    obtain ⟨h6, k', cols, hk', hk1, hk2, hn, _⟩ := wOk_parts hok
    obtain rfl : k = k' := by omega
    clear hk'
    obtain ⟨T, hT⟩ : ∃ T : ByteArray, T = ⟨(crossL 48 cols k s.data.toList).toArray⟩ := ⟨_, rfl⟩
    have hTL : T.data.toList = crossL 48 cols k s.data.toList := by rw [hT]
    have hTs : T.size = s.size := by rw [← size_list, hTL, crossL_len, hn, Nat.mul_comm]
    have HT := Lib.hid hT
    have HN := Lib.hid hn
    have HKT := Lib.hid (show wOkB T.size k = true by rw [hTs]; exact hok)
    have HX := Lib.hid (show (⟨(crossL 48 k cols T.data.toList).toArray⟩ : ByteArray) = s by
      by_cases hc : 0 < cols
      · rw [hTL, cross_back 48 cols k _ hc (by rw [size_list, hn, Nat.mul_comm]), Lib.mk_data]
      · obtain rfl : cols = 0 := by omega
        have h0 : s.data.toList = [] := List.eq_nil_of_length_eq_zero (by rw [size_list, hn, Nat.mul_zero])
        rw [show s = ⟨s.data.toList.toArray⟩ by rw [Lib.mk_data], h0]
        simp [crossL])
    have HTS := Lib.hid hTs
    have hdiv := div_of hn hk1
    have hz : (k : Int) ≠ 0 := by omega
    have hz3 : ((k : Int) == 0) = false := beq_eq_false_iff_ne.2 (by omega)
    have hm1 : ((k : Int) == -1) = false := beq_eq_false_iff_ne.2 (by omega)
    have hcl := cols_le hn hk1 h6
    have hT6 : T.size ≤ 600 := by omega
    clear hT hTL hn hok hTs
    go_wp2_with fail
    refine (implWeaveGet_yes s k cols _ HK.out HN.out hk1 hk2 h6).mono ?_
    rintro e w2 ⟨rfl, hb2⟩
    have HB2 := Lib.hid (HB1.out.trans (hb2.mono HB1.out.size))
    clear hb2
    rw [← HT.out]
    go_wp2_with fail
    refine (specWeaveGet_yes s k cols _ HK.out HN.out hk1 hk2 h6).mono ?_
    rintro e w3 ⟨rfl, hb3⟩
    have HB3 := Lib.hid (HB2.out.trans (hb3.mono HB2.out.size))
    clear hb3
    rw [← HT.out]
    go_wp2_with fail
    refine (implWeavePut_yes T k cols _ HKT.out (by rw [HTS.out]; exact HN.out) hk1 hk2 hT6).mono ?_
    rintro e w4 ⟨rfl, hb4⟩
    have HB4 := Lib.hid (HB3.out.trans (hb4.mono HB3.out.size))
    clear hb4
    rw [HX.out]
    cases hall : wOkB s.size cols with
    | false =>
      have HL := Lib.hid hall
      clear hall
      go_wp2_with fail
      refine (implWeavePut_no s cols _ hmax HL.out).mono ?_
      rintro e w' ⟨rfl, rfl⟩
      go_wp2
      go_ret
      exact ⟨by simp, HB4.out⟩
    | true =>
      have HL := Lib.hid hall
      obtain ⟨_, c', k', hc', hc1, hc2, hn', _⟩ := wOk_parts hall
      obtain rfl : cols = c' := by omega
      have HKK := Lib.hid (show s.size = cols * k by rw [HN.out, Nat.mul_comm])
      clear hall hc' hn'
      go_wp2_with fail
      refine (implWeavePut_yes s cols k _ HL.out HKK.out hc1 hc2 h6).mono ?_
      rintro e w6 ⟨rfl, hb6⟩
      have HB6 := Lib.hid (HB4.out.trans (hb6.mono HB4.out.size))
      clear hb6
      rw [← HT.out]
      go_wp2
      go_ret
      exact ⟨by simp, HB6.out⟩
theorem own : ownKnob Try.prog.godebug = none := by kernel_rfl
theorem laidOut : laidOutB Try.prog = true := by kernel_rfl
set_option maxRecDepth 100000 in
theorem lifted (os : Os) (started : os.Started) (H : Type) (enc : TypeId × Value → H) :
    ReturnsInHanded {} Try.checked os 4 .any (Rows.fnWeaveGetSpec.pre6 enc Try.prog Try.f4 Rows.fnWeaveGetRow.domain false) (Rows.fnWeaveGetSpec.post enc Try.prog Try.f4 false true false false) := by
  refine returnsInHanded_of_change (C := Try.checked) own started (by kernel_rfl) Try.func4
    (ChangeSpec.witness6 (enc := enc) (C := Try.checked) false ⟨#[], #[.slice none 0 0], []⟩ 8 (by kernel_rfl) (by kernel_rfl) (by kernel_rfl) (by kernel_rfl)) ?_
  intro W base args ds gs before hval0 hW hcnd _
  have hval : ∀ (j : Nat) t v, Try.f4.params[j]? = some t → args[j]? = some v → Value.okWide Try.prog W .any base t v := hval0
  have hW' := hW
  obtain ⟨p, q, hA0, hV, rfl, hfz, hnd⟩ := hW
  have hA : DataW.TrodAll enc Try.prog W 0 (fun _ => true) true Try.f4.params.toList args.toList ds p := hA0
  rw [Try.params4] at hA hval
  obtain ⟨v0, vs0, d0, ds0, p0, q0, hargs, rfl, rfl, h0, r0⟩ := trodAll_cons hA
  obtain ⟨rfl, rfl, rfl⟩ := trodAll_nil r0
  obtain rfl : args = #[v0] := by cases args; simp_all
  obtain ⟨rfl, rfl⟩ := trodVars_none hV
  obtain ⟨a0, len0, cap0, rfl⟩ := okWide_slice Try.underlying22 (hval 0 22 v0 rfl rfl)
  have k0 := h0
  have lt0 : ∀ x ∈ p0, x.block < W.heap.size := by obtain ⟨m, hm⟩ := k0; exact DataW.trod_lt m _ _ _ hm
  obtain ⟨z0, w0⟩ : ∃ zs, IsRow .u8 W a0 len0 cap0 zs := by
    obtain ⟨fuel, hf⟩ := h0
    rcases open_ints Try.underlying22 Try.underlying5 (by kernel_rfl) hf with ⟨hcs, _⟩ | ⟨x, l, c, zs, hcs, _, hl, hm, hz, _, hcell, hwz⟩
    · simp [Value.cells] at hcs
      obtain ⟨rfl, rfl, rfl⟩ := hcs
      exact ⟨[], .inl ⟨rfl, rfl, rfl, rfl⟩⟩
    · simp [Value.cells] at hcs
      obtain ⟨rfl, rfl, rfl⟩ := hcs
      exact ⟨zs, .inr ⟨_, rfl, hl, hm, by simpa using hz, hcell, hwz⟩⟩
  clear hA0 hval0
  refine (walk a0 len0 cap0 z0 W w0).mono fun e W' ⟨he, bel⟩ => ?_
  subst he
  exact ⟨_, rfl, _, _, _, [], _, [], hW', trodAll_mk1 (shut_bool Try.underlying4 _), (trodAll_cons_mk (Below.trod laidOut (by kernel_rfl) (of_decide_eq_true (by kernel_rfl)) k0 bel lt0) trodAll_mk0), rfl, bel.frame _, fun h => by cases h⟩
theorem over : Rows.fnWeaveGetRow.holds Try.pinned (OpenSpec.ofChange Rows.fnWeaveGetSpec) :=
  OpenClaim.holds_of_wide 4 Try.f4 rfl rfl rfl rfl rfl rfl rfl ⟨rfl, rfl, rfl, rfl, rfl⟩ rfl rfl rfl rfl rfl (by kernel_rfl) Try.func4 (by kernel_rfl)
    (of_decide_eq_true (by kernel_rfl)) (by unfold Func.isWrapper; first | (rw [if_pos (by decide +kernel)]; kernel_rfl) | (rw [if_neg (by decide +kernel)]; exact ⟨rfl, rfl⟩))
    (fun os started H enc _ => lifted os started H enc)
theorem proved : Rows.FnWeaveGetSaid := over
end Go.Proofs.Ytibilifhbnjckaa.fnWeaveGet
