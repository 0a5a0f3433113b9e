/- FnSumLine: SumRun is linear: of two registers and bytes, as promise 3 says. For every two codes (the law draws its data from them). No condition. -/
import Derived.Test.YthggbcpphoknfaaBase
import Derived.Test.YthggbcpphoknfaaSumH
import Derived.Test.YthggbcpphoknfaaDrawSum
namespace Go.Proofs.Ythggbcpphoknfaa.fnSumLine
open Go.ChangeShapes Go.WideShapes Go.ChangeAt Go.RowKit
open Go.ChangeMaps (open_string shut_string)
set_option linter.unusedVariables false
set_option maxRecDepth 100000 in
theorem walk (a0 : Option Addr) (len0 cap0 : Nat) (z0 : List Int) (a1 : Option Addr) (len1 cap1 : Nat) (z1 : List Int) (w : World) (w0 : IsRow .u8 w a0 len0 cap0 z0) (w1 : IsRow .u8 w a1 len1 cap1 z1) :
    Calls Try.prog 5 #[.slice a0 len0 cap0, .slice a1 len1 cap1] w fun e w' => e = .returned (.bool true) ∧ Below w.heap.size w w' := by
  by_cases hbig : 1048576 < len0
  · go_enter Try.func5, Try.ntmps5
    go_wp2
    go_ret
    exact ⟨rfl, Below.refl _ _⟩
  by_cases hbig1 : 1048576 < len1
  · go_enter Try.func5, Try.ntmps5
    go_wp2
    go_ret
    exact ⟨rfl, Below.refl _ _⟩
  have HH := Lib.hid w0
  have HH1 := Lib.hid w1
  clear w0 w1
  go_enter Try.func5, Try.ntmps5
  go_wp2_with fail
  refine (drawSumRun_any a0 len0 cap0 z0 HH.out).mono ?_
  rintro e w1 ⟨kd, sa, s, rfl, hsa, hs, hb1⟩
  have HB1 := Lib.hid hb1
  clear hb1
  go_wp2_with fail
  refine (drawSumRun_any a1 len1 cap1 z1 (HH1.out.keep HB1.out)).mono ?_
  rintro e w2 ⟨kd2, sb, s2, rfl, hsb, hs2, hb2⟩
  have HB2 := Lib.hid (HB1.out.trans (hb2.mono HB1.out.size))
  clear hb2
  have hmax : s.size ≤ maxLen := by unfold maxLen; omega
  cases hk : runOkB kd sa with
  | false =>
    have HK := Lib.hid hk
    clear hk
    go_wp2_with fail
    refine (implRun_no _ _ _ _ HK.out).mono ?_
    rintro e w3 ⟨rfl, rfl⟩
    cases hkd : kindB kd with
    | false =>
      have HKD := Lib.hid hkd
      clear hkd
      go_wp2_with (first | (go_at_call 18; refine (implStart_no _ _ HKD.out).mono ?_; rintro e w' ⟨rfl, rfl⟩) | (go_at_call 21; refine (specRun_no _ _ _ _ HK.out).mono ?_; rintro e w' ⟨rfl, rfl⟩))
      go_ret
      exact ⟨rfl, HB2.out⟩
    | true =>
      have HKD := Lib.hid hkd
      clear hkd
      go_wp2_with (first | (go_at_call 18; refine (implStart_yes _ _ HKD.out).mono ?_; rintro e w' ⟨rfl, rfl⟩) | (go_at_call 21; refine (specRun_no _ _ _ _ HK.out).mono ?_; rintro e w' ⟨rfl, rfl⟩))
      go_ret
      exact ⟨rfl, HB2.out⟩
  | true =>
    obtain ⟨hkd, ha0, ha1⟩ := runOk_iff hk
    have HK := Lib.hid hk
    have HKD := Lib.hid hkd
    clear hk hkd
    have hn0 : decide (((crc (polyN kd) sa.toNat s.data.toList : Nat) : Int) < 0) = false := by simp
    go_wp2_with fail
    refine (implRun_ok _ _ _ _ HK.out hmax).mono ?_
    rintro e w3 ⟨rfl, hb3⟩
    have HB3 := Lib.hid (HB2.out.trans (hb3.mono HB2.out.size))
    clear hb3
    go_wp2_with fail
    refine (implStart_yes _ _ HKD.out).mono ?_
    rintro e w3' ⟨rfl, rfl⟩
    go_wp2_with fail
    refine (specRun_ok _ _ _ _ HK.out hmax).mono ?_
    rintro e w3' ⟨rfl, rfl⟩
    by_cases hsb0 : sb < 0
    · go_wp2_with (go_at_call 21; refine (specRun_ok _ _ _ _ HK.out hmax).mono ?_; rintro e w' ⟨rfl, rfl⟩)
      go_ret
      exact ⟨rfl, HB3.out⟩
    by_cases hsb1 : allOf kd < sb
    · go_wp2_with (go_at_call 21; refine (specRun_ok _ _ _ _ HK.out hmax).mono ?_; rintro e w' ⟨rfl, rfl⟩)
      go_ret
      exact ⟨rfl, HB3.out⟩
    obtain ⟨i0, hi, hz0, hz1, hz2⟩ := info_parts info_u8
    have hmk : ∀ u : World, (Instr.makeSlice 22 (.int .i64 (s.size : Int)) (.int .i64 (s.size : Int))).run Try.prog u = .ok (.slice (some ⟨u.heap.size, 0, none⟩) s.size s.size) (u.alloc (.cells (madeCells #[.int .u8 0] s.size) 5)) := fun u => by
      have h := run_make (P := Try.prog) u 22 5 i0 (.int .u8 0) Try.underlying22 hi hz0 .i64 .i64 (s.size : Int) (s.size : Int) (by omega) (Int.le_refl _) (by rw [hz2]; omega) (by omega)
      simpa [hz1, Value.cells] using h
    clear hi hz0 hz1 hz2
    obtain ⟨na, rfl⟩ := Int.eq_ofNat_of_zero_le ha0
    obtain ⟨nb, rfl⟩ := Int.eq_ofNat_of_zero_le (show 0 ≤ sb by omega)
    have hall : ∃ all : Nat, allOf kd = all ∧ all < 2 ^ 32 := by obtain ⟨all, h1, h2, _⟩ := allOf_nat kd; exact ⟨all, h1, h2⟩
    have hxab : bits .xor .i64 (na : Int) (nb : Int) = ((na ^^^ nb : Nat) : Int) := by
      obtain ⟨all, h1, h2⟩ := hall
      exact bits_xor_i64_nat _ _ (by omega) (by omega)
    have hok : runOkB kd ((na ^^^ nb : Nat) : Int) = true := by
      have : ((na ^^^ nb : Nat) : Int) ≤ allOf kd := by
        rcases kind_or HKD.out with rfl | rfl
        · have := Nat.xor_lt_two_pow (n := 16) (show na < 2 ^ 16 by simp [allOf] at ha1; omega) (show nb < 2 ^ 16 by simp [allOf] at hsb1; omega)
          simp [allOf]; omega
        · have := Nat.xor_lt_two_pow (n := 32) (show na < 2 ^ 32 by simp [allOf] at ha1; omega) (show nb < 2 ^ 32 by simp [allOf] at hsb1; omega)
          simp [allOf]; omega
      simp [runOkB, HKD.out, this]
    have hokb : runOkB kd (nb : Int) = true := by simp [runOkB, HKD.out]; omega
    have hok0 : runOkB kd 0 = true := by
      obtain ⟨all, h1, h2⟩ := hall
      simp [runOkB, HKD.out]; omega
    have hcl : crc (polyN kd) na s.data.toList < 2 ^ 32 ∧ crc (polyN kd) nb (List.replicate s.size 0) < 2 ^ 32 := by
      obtain ⟨all, h1, h2⟩ := hall
      exact ⟨crc_lt (polyN_lt kd) (by omega) _ (by omega), crc_lt (polyN_lt kd) (by omega) _ (by omega)⟩
    have hlin : bits .xor .i64 ((crc (polyN kd) na s.data.toList : Nat) : Int) ((crc (polyN kd) nb (List.replicate s.size 0) : Nat) : Int) = ((crc (polyN kd) (na ^^^ nb) s.data.toList : Nat) : Int) := by
      rw [bits_xor_i64_nat _ _ (by omega) (by omega), crc_linear, show s.data.toList.length = s.size by simp]
    have hzl : ((⟨(List.replicate s.size (0 : UInt8)).toArray⟩ : ByteArray)).size ≤ maxLen := by
      show (List.replicate s.size (0 : UInt8)).toArray.size ≤ maxLen
      simp; unfold maxLen; omega
    have HXAB := Lib.hid hxab
    have HLIN := Lib.hid hlin
    have HOK := Lib.hid hok
    have HOKB := Lib.hid hokb
    have HOK0 := Lib.hid hok0
    clear hxab hlin hok hokb hok0 hcl hall
    go_wp2_with (refine wpList_string_of_OB _ rfl 22 9 5 _ rfl w3.heap.size _ _ rfl Try.underlying22 Try.underlying5 Try.underlying9 (OB_made 5 w3 s.size hmax w3.heap.size (Nat.le_refl _)) ?_)
    have HB4 := Lib.hid (HB3.out.alloc HB3.out.size (.cells (madeCells #[.int .u8 0] s.size) 5))
    generalize w3.alloc (.cells (madeCells #[.int .u8 0] s.size) 5) = w4 at *
    rw [HXAB.out]
    refine (implRun_ok _ _ _ _ HOK.out hmax).mono ?_
    rintro e w5 ⟨rfl, hb5⟩
    have HB5 := Lib.hid (HB4.out.trans (hb5.mono HB4.out.size))
    clear hb5 hmk
    go_wp2_with fail
    refine (implRun_ok _ _ _ _ HOKB.out hzl).mono ?_
    rintro e w6 ⟨rfl, hb6⟩
    have HB6 := Lib.hid (HB5.out.trans (hb6.mono HB5.out.size))
    clear hb6
    have hl := HLIN.out
    go_wp2_with fail
    refine (implRun_ok _ _ _ _ HOK0.out hzl).mono ?_
    rintro e w7 ⟨rfl, hb7⟩
    have HB7 := Lib.hid (HB6.out.trans (hb7.mono HB6.out.size))
    clear hb7
    have hc0 : crc (polyN kd) 0 (List.replicate s.size 0) = 0 := crc_zero _ _
    go_wp2
    go_ret
    exact ⟨rfl, HB7.out⟩
theorem own : ownKnob Try.prog.godebug = none := by kernel_rfl
theorem laidOut : laidOutB Try.prog = true := by kernel_rfl
set_option maxRecDepth 100000 in
theorem lifted (os : Os) (started : os.Started) (H : Type) (enc : TypeId × Value → H) :
    ReturnsInHanded {} Try.checked os 5 .any (Rows.fnSumLineSpec.pre6 enc Try.prog Try.f5 Rows.fnSumLineRow.domain false) (Rows.fnSumLineSpec.post enc Try.prog Try.f5 false true false false) := by
  refine returnsInHanded_of_change (C := Try.checked) own started (by kernel_rfl) Try.func5
    (ChangeSpec.witness6 (enc := enc) (C := Try.checked) false ⟨#[], #[.slice none 0 0, .slice none 0 0], []⟩ 8 (by kernel_rfl) (by kernel_rfl) (by kernel_rfl) (by kernel_rfl)) ?_
  intro W base args ds gs before hval0 hW hcnd _
  have hval : ∀ (j : Nat) t v, Try.f5.params[j]? = some t → args[j]? = some v → Value.okWide Try.prog W .any base t v := hval0
  have hW' := hW
  obtain ⟨p, q, hA0, hV, rfl, hfz, hnd⟩ := hW
  have hA : DataW.TrodAll enc Try.prog W 0 (fun _ => true) true Try.f5.params.toList args.toList ds p := hA0
  rw [Try.params5] at hA hval
  obtain ⟨v0, vs0, d0, ds0, p0, q0, hargs, rfl, rfl, h0, r0⟩ := trodAll_cons hA
  obtain ⟨v1, vs1, d1, ds1, p1, q1, rfl, rfl, rfl, h1, r1⟩ := trodAll_cons r0
  obtain ⟨rfl, rfl, rfl⟩ := trodAll_nil r1
  obtain rfl : args = #[v0, v1] := by cases args; simp_all
  obtain ⟨rfl, rfl⟩ := trodVars_none hV
  obtain ⟨a0, len0, cap0, rfl⟩ := okWide_slice Try.underlying22 (hval 0 22 v0 rfl rfl)
  have k0 := h0
  have lt0 : ∀ x ∈ p0, x.block < W.heap.size := by obtain ⟨m, hm⟩ := k0; exact DataW.trod_lt m _ _ _ hm
  obtain ⟨z0, w0⟩ : ∃ zs, IsRow .u8 W a0 len0 cap0 zs := by
    obtain ⟨fuel, hf⟩ := h0
    rcases open_ints Try.underlying22 Try.underlying5 (by kernel_rfl) hf with ⟨hcs, _⟩ | ⟨x, l, c, zs, hcs, _, hl, hm, hz, _, hcell, hwz⟩
    · simp [Value.cells] at hcs
      obtain ⟨rfl, rfl, rfl⟩ := hcs
      exact ⟨[], .inl ⟨rfl, rfl, rfl, rfl⟩⟩
    · simp [Value.cells] at hcs
      obtain ⟨rfl, rfl, rfl⟩ := hcs
      exact ⟨zs, .inr ⟨_, rfl, hl, hm, by simpa using hz, hcell, hwz⟩⟩
  obtain ⟨a1, len1, cap1, rfl⟩ := okWide_slice Try.underlying22 (hval 1 22 v1 rfl rfl)
  have k1 := h1
  have lt1 : ∀ x ∈ p1, x.block < W.heap.size := by obtain ⟨m, hm⟩ := k1; exact DataW.trod_lt m _ _ _ hm
  obtain ⟨z1, w1⟩ : ∃ zs, IsRow .u8 W a1 len1 cap1 zs := by
    obtain ⟨fuel, hf⟩ := h1
    rcases open_ints Try.underlying22 Try.underlying5 (by kernel_rfl) hf with ⟨hcs, _⟩ | ⟨x, l, c, zs, hcs, _, hl, hm, hz, _, hcell, hwz⟩
    · simp [Value.cells] at hcs
      obtain ⟨rfl, rfl, rfl⟩ := hcs
      exact ⟨[], .inl ⟨rfl, rfl, rfl, rfl⟩⟩
    · simp [Value.cells] at hcs
      obtain ⟨rfl, rfl, rfl⟩ := hcs
      exact ⟨zs, .inr ⟨_, rfl, hl, hm, by simpa using hz, hcell, hwz⟩⟩
  clear hA0 hval0
  refine (walk a0 len0 cap0 z0 a1 len1 cap1 z1 W w0 w1).mono fun e W' ⟨he, bel⟩ => ?_
  subst he
  exact ⟨_, rfl, _, _, _, [], _, [], hW', trodAll_mk1 (shut_bool Try.underlying4 _), (trodAll_cons_mk (Below.trod laidOut (by kernel_rfl) (of_decide_eq_true (by kernel_rfl)) k0 bel lt0) (trodAll_cons_mk (Below.trod laidOut (by kernel_rfl) (of_decide_eq_true (by kernel_rfl)) k1 bel lt1) trodAll_mk0)), rfl, bel.frame _, fun h => by cases h⟩
theorem over : Rows.fnSumLineRow.holds Try.pinned (OpenSpec.ofChange Rows.fnSumLineSpec) :=
  OpenClaim.holds_of_wide 5 Try.f5 rfl rfl rfl rfl rfl rfl rfl ⟨rfl, rfl, rfl, rfl, rfl⟩ rfl rfl rfl rfl rfl (by kernel_rfl) Try.func5 (by kernel_rfl)
    (of_decide_eq_true (by kernel_rfl)) (by unfold Func.isWrapper; first | (rw [if_pos (by decide +kernel)]; kernel_rfl) | (rw [if_neg (by decide +kernel)]; exact ⟨rfl, rfl⟩))
    (fun os started H enc _ => lifted os started H enc)
theorem proved : Rows.FnSumLineSaid := over
end Go.Proofs.Ythggbcpphoknfaa.fnSumLine
