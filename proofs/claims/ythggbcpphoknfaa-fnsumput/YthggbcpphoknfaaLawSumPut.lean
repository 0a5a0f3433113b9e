/- FnSumPut: Bytes are read back from ahead of their sum, and not with one bit turned; with their sum they run to the residue. For every two codes (the law draws its data from the first, the bit from the second). No condition. -/
import Derived.Test.YthggbcpphoknfaaBase
import Derived.Test.YthggbcpphoknfaaSumN
import Derived.Test.YthggbcpphoknfaaDrawSum
import Derived.RegionTactic
namespace Go.Proofs.Ythggbcpphoknfaa.fnSumPut
open Go.ChangeShapes Go.WideShapes Go.ChangeAt Go.RowKit
open Go.ChangeMaps (open_string shut_string)
set_option linter.unusedVariables false
set_option maxRecDepth 100000 in
set_option maxHeartbeats 4000000 in
theorem walk (a0 : Option Addr) (len0 cap0 : Nat) (z0 : List Int) (a1 : Option Addr) (len1 cap1 : Nat) (z1 : List Int) (w : World) (w0 : IsRow .u8 w a0 len0 cap0 z0) (w1 : IsRow .u8 w a1 len1 cap1 z1) :
    Calls Try.prog 6 #[.slice a0 len0 cap0, .slice a1 len1 cap1] w fun e w' => e = .returned (.bool true) ∧ Below w.heap.size w w' := by
  by_cases hbig : 1048576 < len0
  · go_enter Try.func6, Try.ntmps6
    go_wp2
    go_ret
    exact ⟨rfl, Below.refl _ _⟩
  by_cases hbig1 : 1048576 < len1
  · go_enter Try.func6, Try.ntmps6
    go_wp2
    go_ret
    exact ⟨rfl, Below.refl _ _⟩
  have HH := Lib.hid w0
  clear w0 w1
  go_enter Try.func6, Try.ntmps6
  go_wp2_with fail
  refine (drawSumPut_any a0 len0 cap0 z0 HH.out).mono ?_
  rintro e w1 ⟨kd, s, rfl, hs, hb1⟩
  have HB1 := Lib.hid hb1
  clear hb1
  have hs2 : s.size ≤ 140737488355000 := by omega
  cases hk : kindB kd with
  | false =>
    have HK := Lib.hid hk
    clear hk
    go_wp2_with (first | (go_at_call 23; refine (implPut_no _ _ _ HK.out).mono ?_; rintro e w' ⟨rfl, rfl⟩) | (go_at_call 24; refine (specPut_no _ _ _ HK.out).mono ?_; rintro e w' ⟨rfl, rfl⟩))
    go_ret
    exact ⟨rfl, HB1.out⟩
  | true =>
    have HK := Lib.hid hk
    clear hk
    go_wp2_with fail
    refine (implPut_yes _ _ _ HK.out hs2).mono ?_
    rintro e w2 ⟨rfl, hb2⟩
    have HB2 := Lib.hid (HB1.out.trans (hb2.mono HB1.out.size))
    clear hb2
    go_wp2_with fail
    refine (specPut_yes _ _ _ HK.out hs2).mono ?_
    rintro e w3 ⟨rfl, hb3⟩
    have HB3 := Lib.hid (HB2.out.trans (hb3.mono HB2.out.size))
    clear hb3
    obtain ⟨T, hT⟩ : ∃ T : ByteArray, T = ⟨(s.data.toList ++ leB (sumN kd s.data.toList) kd.toNat).toArray⟩ := ⟨_, rfl⟩
    have HT := Lib.hid (show T.data.toList = putL kd s.data.toList by rw [hT]; rfl)
    rw [← hT]
    clear hT
    have hkk : 2 ≤ kd ∧ kd ≤ 4 := by rcases kind_or HK.out with rfl | rfl <;> omega
    have hTl : T.data.toList.length = T.size := by simp
    have hTs : (T.size : Int) = (s.size : Int) + kd := by
      rw [← hTl, HT.out, putL, List.length_append, leB_length, show s.data.toList.length = s.size by simp]; omega
    have HTS := Lib.hid hTs
    have HTL := Lib.hid hTl
    have hT1 : T.size ≤ 34 := by omega
    have hT0 : 0 < T.size := by omega
    clear hTs hTl
    have hTe : T.toList.isEmpty = false := by
      rw [Lib.toList_data]
      cases h : T.data.toList with
      | nil => have := HTL.out; rw [h] at this; simp at this; omega
      | cons _ _ => rfl
    have HG := Lib.hid (show getB kd T.data.toList = true by rw [HT.out]; exact getB_put HK.out _)
    have HC := Lib.hid (show (⟨(cutL kd T.data.toList).toArray⟩ : ByteArray) = s by rw [HT.out, cut_put, Lib.mk_data])
    have hmaxT : T.size ≤ maxLen := by unfold maxLen; omega
    go_wp2_with fail
    refine (implGet_hit _ _ _ (by omega) HG.out).mono ?_
    rintro e w4 ⟨rfl, hb4⟩
    rw [HC.out]
    have HB4 := Lib.hid (HB3.out.trans (hb4.mono HB3.out.size))
    clear hb4
    have hk0 : 0 ≤ (len1 : Int) % (T.size : Int) := Int.emod_nonneg _ (by omega)
    have hk1 : (len1 : Int) % (T.size : Int) < (T.size : Int) := Int.emod_lt_of_pos _ (by omega)
    obtain ⟨k, hkk2⟩ := Int.eq_ofNat_of_zero_le hk0
    rw [hkk2] at hk0 hk1
    have HKK := Lib.hid hkk2
    clear hkk2
    go_wp2_with (refine wpList_bytes_of_string _ rfl 9 22 5 _ rfl T rfl Try.underlying9 Try.underlying22 Try.underlying5 hmaxT ?_; intro v5 w5 hown5 hb5; obtain ⟨g, cap, rfl, hcap, hcapm, hbg, hgl⟩ := hown5.pos (by rw [HTL.out]; omega); rw [HTL.out])
    rw [HKK.out]
    have HO5 := Lib.hid hown5
    have HB5 := Lib.hid (HB4.out.trans (hb5.mono HB4.out.size))
    clear hown5 hb5
    have hkl : k < T.data.toList.length := by rw [HTL.out]; omega
    have hc := HO5.out.cellAt hkl
    have hf := HO5.out.frozenAt hkl
    unfold byteV at hc
    have hbl := UInt8.toNat_lt (T.data.toList[k])
    generalize hB : T.data.toList[k] = B at *
    have HBB := Lib.hid hB
    clear hB
    have hj0 : 0 ≤ (len1 : Int) % 8 := Int.emod_nonneg _ (by omega)
    have hj1 : (len1 : Int) % 8 < 8 := Int.emod_lt_of_pos _ (by omega)
    have hne := (bend_pow (len1 % 8) (Nat.mod_lt _ (by omega))).2.2
    have HBD := Lib.hid (bend_byte B len1)
    have HNE := Lib.hid hne
    clear hne
    go_region
    rw [HBD.out]
    have HO6 := Lib.hid ((HO5.out.stored k (B ^^^ UInt8.ofNat (2 ^ (len1 % 8)))).drew)
    have HB6 := Lib.hid (((HB5.out.setCell (p := ⟨g, k, none⟩) (by have := HB4.out.size; simp; omega) (byteV (B ^^^ UInt8.ofNat (2 ^ (len1 % 8)))))).drew)
    have HGM := Lib.hid (show getB kd (T.data.toList.set k (B ^^^ UInt8.ofNat (2 ^ (len1 % 8)))) = false by
      have := getB_bent HK.out T.data.toList (by rw [HT.out]; exact residue HK.out _) k hkl _ HNE.out
      rw [HBB.out] at this; exact this)
    have hsz6 : (⟨(T.data.toList.set k (B ^^^ UInt8.ofNat (2 ^ (len1 % 8)))).toArray⟩ : ByteArray).size ≤ 140737488355000 := by
      show (T.data.toList.set k (B ^^^ UInt8.ofNat (2 ^ (len1 % 8)))).toArray.size ≤ _
      rw [List.size_toArray, List.length_set, HTL.out]; omega
    unfold byteV at HO6 HB6
    generalize (B ^^^ UInt8.ofNat (2 ^ (len1 % 8))) = B' at *
    generalize ((w5.setCell ⟨g, k, none⟩ (.int .u8 (B'.toNat : Int))).drew) = w6 at *
    generalize hL : T.data.toList.set k B' = L at *
    clear hL hc hf HBD
    go_wp2_with (refine wpList_string_of_OB _ rfl 22 9 5 _ rfl w4.heap.size _ _ rfl Try.underlying22 Try.underlying5 Try.underlying9 HO6.out ?_)
    refine (implGet_miss _ _ _ hsz6 HGM.out).mono ?_
    rintro e w7 ⟨rfl, hb7⟩
    have HB7 := Lib.hid (HB6.out.trans (hb7.mono HB6.out.size))
    clear hb7
    have hlen : ((T.size : Int) == (s.size : Int) + kd) = true := by rw [beq_iff_eq]; exact HTS.out
    have HRES := Lib.hid (show crc (polyN kd) (allOf kd).toNat T.data.toList = goodN kd by rw [HT.out]; exact residue HK.out _)
    go_wp2_with (go_at_call 18; refine (implStart_yes _ _ HK.out).mono ?_; rintro e w' ⟨rfl, rfl⟩)
    refine (implRun_ok _ _ _ _ (runOk_all HK.out) hmaxT).mono ?_
    rintro e w8 ⟨rfl, hb8⟩
    rw [HRES.out]
    have HB8 := Lib.hid (HB7.out.trans (hb8.mono HB7.out.size))
    clear hb8
    go_wp2_with fail
    refine (implGood_yes _ _ HK.out).mono ?_
    rintro e w9 ⟨rfl, hb9⟩
    have HB9 := Lib.hid (HB8.out.trans (hb9.mono HB8.out.size))
    clear hb9
    go_wp2
    go_ret
    exact ⟨rfl, HB9.out⟩
theorem own : ownKnob Try.prog.godebug = none := by kernel_rfl
theorem laidOut : laidOutB Try.prog = true := by kernel_rfl
set_option maxRecDepth 100000 in
theorem lifted (os : Os) (started : os.Started) (H : Type) (enc : TypeId × Value → H) :
    ReturnsInHanded {} Try.checked os 6 .any (Rows.fnSumPutSpec.pre6 enc Try.prog Try.f6 Rows.fnSumPutRow.domain false) (Rows.fnSumPutSpec.post enc Try.prog Try.f6 false true false false) := by
  refine returnsInHanded_of_change (C := Try.checked) own started (by kernel_rfl) Try.func6
    (ChangeSpec.witness6 (enc := enc) (C := Try.checked) false ⟨#[], #[.slice none 0 0, .slice none 0 0], []⟩ 8 (by kernel_rfl) (by kernel_rfl) (by kernel_rfl) (by kernel_rfl)) ?_
  intro W base args ds gs before hval0 hW hcnd _
  have hval : ∀ (j : Nat) t v, Try.f6.params[j]? = some t → args[j]? = some v → Value.okWide Try.prog W .any base t v := hval0
  have hW' := hW
  obtain ⟨p, q, hA0, hV, rfl, hfz, hnd⟩ := hW
  have hA : DataW.TrodAll enc Try.prog W 0 (fun _ => true) true Try.f6.params.toList args.toList ds p := hA0
  rw [Try.params6] at hA hval
  obtain ⟨v0, vs0, d0, ds0, p0, q0, hargs, rfl, rfl, h0, r0⟩ := trodAll_cons hA
  obtain ⟨v1, vs1, d1, ds1, p1, q1, rfl, rfl, rfl, h1, r1⟩ := trodAll_cons r0
  obtain ⟨rfl, rfl, rfl⟩ := trodAll_nil r1
  obtain rfl : args = #[v0, v1] := by cases args; simp_all
  obtain ⟨rfl, rfl⟩ := trodVars_none hV
  obtain ⟨a0, len0, cap0, rfl⟩ := okWide_slice Try.underlying22 (hval 0 22 v0 rfl rfl)
  have k0 := h0
  have lt0 : ∀ x ∈ p0, x.block < W.heap.size := by obtain ⟨m, hm⟩ := k0; exact DataW.trod_lt m _ _ _ hm
  obtain ⟨z0, w0⟩ : ∃ zs, IsRow .u8 W a0 len0 cap0 zs := by
    obtain ⟨fuel, hf⟩ := h0
    rcases open_ints Try.underlying22 Try.underlying5 (by kernel_rfl) hf with ⟨hcs, _⟩ | ⟨x, l, c, zs, hcs, _, hl, hm, hz, _, hcell, hwz⟩
    · simp [Value.cells] at hcs
      obtain ⟨rfl, rfl, rfl⟩ := hcs
      exact ⟨[], .inl ⟨rfl, rfl, rfl, rfl⟩⟩
    · simp [Value.cells] at hcs
      obtain ⟨rfl, rfl, rfl⟩ := hcs
      exact ⟨zs, .inr ⟨_, rfl, hl, hm, by simpa using hz, hcell, hwz⟩⟩
  obtain ⟨a1, len1, cap1, rfl⟩ := okWide_slice Try.underlying22 (hval 1 22 v1 rfl rfl)
  have k1 := h1
  have lt1 : ∀ x ∈ p1, x.block < W.heap.size := by obtain ⟨m, hm⟩ := k1; exact DataW.trod_lt m _ _ _ hm
  obtain ⟨z1, w1⟩ : ∃ zs, IsRow .u8 W a1 len1 cap1 zs := by
    obtain ⟨fuel, hf⟩ := h1
    rcases open_ints Try.underlying22 Try.underlying5 (by kernel_rfl) hf with ⟨hcs, _⟩ | ⟨x, l, c, zs, hcs, _, hl, hm, hz, _, hcell, hwz⟩
    · simp [Value.cells] at hcs
      obtain ⟨rfl, rfl, rfl⟩ := hcs
      exact ⟨[], .inl ⟨rfl, rfl, rfl, rfl⟩⟩
    · simp [Value.cells] at hcs
      obtain ⟨rfl, rfl, rfl⟩ := hcs
      exact ⟨zs, .inr ⟨_, rfl, hl, hm, by simpa using hz, hcell, hwz⟩⟩
  clear hA0 hval0
  refine (walk a0 len0 cap0 z0 a1 len1 cap1 z1 W w0 w1).mono fun e W' ⟨he, bel⟩ => ?_
  subst he
  exact ⟨_, rfl, _, _, _, [], _, [], hW', trodAll_mk1 (shut_bool Try.underlying4 _), (trodAll_cons_mk (Below.trod laidOut (by kernel_rfl) (of_decide_eq_true (by kernel_rfl)) k0 bel lt0) (trodAll_cons_mk (Below.trod laidOut (by kernel_rfl) (of_decide_eq_true (by kernel_rfl)) k1 bel lt1) trodAll_mk0)), rfl, bel.frame _, fun h => by cases h⟩
theorem over : Rows.fnSumPutRow.holds Try.pinned (OpenSpec.ofChange Rows.fnSumPutSpec) :=
  OpenClaim.holds_of_wide 6 Try.f6 rfl rfl rfl rfl rfl rfl rfl ⟨rfl, rfl, rfl, rfl, rfl⟩ rfl rfl rfl rfl rfl (by kernel_rfl) Try.func6 (by kernel_rfl)
    (of_decide_eq_true (by kernel_rfl)) (by unfold Func.isWrapper; first | (rw [if_pos (by decide +kernel)]; kernel_rfl) | (rw [if_neg (by decide +kernel)]; exact ⟨rfl, rfl⟩))
    (fun os started H enc _ => lifted os started H enc)
theorem proved : Rows.FnSumPutSaid := over
end Go.Proofs.Ythggbcpphoknfaa.fnSumPut
