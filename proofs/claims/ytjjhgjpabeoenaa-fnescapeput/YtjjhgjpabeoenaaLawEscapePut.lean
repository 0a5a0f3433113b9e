/- FnEscapePut: Bytes are read back from how they are escaped, neither a flag nor a byte of the map is in that, and of two pieces it is both. For every two codes (the law draws map and bytes from the first, where it cuts from the second). No condition. -/
import Derived.Test.YtjjhgjpabeoenaaKitA
import Derived.Test.YtjjhgjpabeoenaaEscG
import Derived.Test.YtjjhgjpabeoenaaDrawEsc
import Derived.Deep.RegionHeld3
namespace Go.Proofs.Ytjjhgjpabeoenaa.fnEscapePut
open Go.ChangeShapes Go.WideShapes Go.ChangeAt Go.RowKit
open Go.ChangeMaps (open_string shut_string)
set_option linter.unusedVariables false
theorem ext_take (s : ByteArray) (k : Nat) : (s.extract 0 k).data.toList = s.data.toList.take k := by simp
theorem ext_drop (s : ByteArray) (k : Nat) : (s.extract k s.size).data.toList = s.data.toList.drop k := by
  simp [List.take_of_length_le]
theorem mem_at (s : ByteArray) (k : Nat) (h : k < s.size) : s[k] ∈ s.data.toList := by
  have e : s[k] = s.data.toList[k]'(by simpa using h) := rfl
  rw [e]; exact List.getElem_mem _
set_option maxRecDepth 100000 in
set_option maxHeartbeats 8000000 in
theorem walk (a0 : Option Addr) (len0 cap0 : Nat) (z0 : List Int) (a1 : Option Addr) (len1 cap1 : Nat) (z1 : List Int) (w : World) (w0 : IsRow .u8 w a0 len0 cap0 z0) (w1 : IsRow .u8 w a1 len1 cap1 z1) :
    Calls Try.prog 3 #[.slice a0 len0 cap0, .slice a1 len1 cap1] w fun e w' => e = .returned (.bool true) ∧ Below w.heap.size w w' := by
  by_cases hbig : 1048576 < len0
  · go_enter Try.func3, Try.ntmps3
    go_wp2
    go_ret
    exact ⟨rfl, Below.refl _ _⟩
  by_cases hbig1 : 1048576 < len1
  · go_enter Try.func3, Try.ntmps3
    go_wp2
    go_ret
    exact ⟨rfl, Below.refl _ _⟩
  have HH := Lib.hid w0
  clear w0 w1
  go_enter Try.func3, Try.ntmps3
  go_wp2_with fail
  refine (drawEscPut_any a0 len0 cap0 z0 HH.out).mono ?_
  rintro e w1 ⟨m, s, rfl, hs, hb1⟩
  have HB1 := Lib.hid hb1
  clear hb1
  go_wp2_with fail
  refine (implEscPut_any m s _).mono ?_
  rintro e w2 ⟨rfl, hb2⟩
  have HB2 := Lib.hid (HB1.out.trans (hb2.mono HB1.out.size))
  clear hb2
  obtain ⟨X, hX⟩ : ∃ X : ByteArray, X = ⟨(escA m s.data.toList).toArray⟩ := ⟨_, rfl⟩
  have HXL := Lib.hid (show X.data.toList = escA m s.data.toList by rw [hX])
  have HX := Lib.hid hX
  rw [← hX]
  clear hX
  go_wp2_with fail
  refine (specEscPut_any m s _).mono ?_
  rintro e w3 ⟨rfl, hb3⟩
  have HB3 := Lib.hid (HB2.out.trans (hb3.mono HB2.out.size))
  clear hb3
  rw [← HX.out]
  have HSL := Lib.hid (size_list s)
  cases hk : putOkB m s.size with
  | false =>
    have hno : 600 < s.size ∨ m < 0 ∨ 4294967295 < m := by simp [putOkB, mapOkB] at hk; omega
    have fin : ∀ W, Below w.heap.size w W → Calls Try.prog 11 #[.int .i64 m, .string s] W fun e w' => e = .returned (.string X) ∧ Below w.heap.size w w' := fun W hW => (specEscPut_any m s W).mono fun e w' ⟨h1, h2⟩ => ⟨by rw [h1, HX.out], hW.trans (h2.mono hW.size)⟩
    have FIN := Lib.hid fin
    clear fin hk
    by_cases h1 : 600 < s.size
    · clear hno
      go_wp2_with fail
      refine (FIN.out _ HB3.out).mono ?_
      rintro e w4 ⟨rfl, hb4⟩
      have HB4 := Lib.hid hb4
      clear hb4
      go_wp2
      go_ret
      exact ⟨by simp, HB4.out⟩
    by_cases h2 : m < 0
    · clear hno
      go_wp2_with fail
      refine (FIN.out _ HB3.out).mono ?_
      rintro e w4 ⟨rfl, hb4⟩
      have HB4 := Lib.hid hb4
      clear hb4
      go_wp2
      go_ret
      exact ⟨by simp, HB4.out⟩
    have h3 : 4294967295 < m := by omega
    clear hno
    go_wp2_with fail
    refine (FIN.out _ HB3.out).mono ?_
    rintro e w4 ⟨rfl, hb4⟩
    have HB4 := Lib.hid hb4
    clear hb4
    go_wp2
    go_ret
    exact ⟨by simp, HB4.out⟩
  | true =>
    obtain ⟨hm, hs6⟩ : mapOkB m = true ∧ s.size ≤ 600 := by simpa [putOkB] using hk
    obtain ⟨hm0, hm1⟩ := mapOkB_yes hm
    clear hm
    obtain ⟨n, rfl⟩ : ∃ n : Nat, m = n := ⟨m.toNat, by omega⟩
    have hn : n ≤ 4294967295 := by omega
    have HP := Lib.hid (show X.data.toList = escR n s.data.toList by rw [HXL.out, escA, HSL.out, hk]; rfl)
    have hXs : s.size ≤ X.size ∧ X.size ≤ 2 * s.size := by have := escR_len n s.data.toList; rw [← size_list X, HP.out, ← HSL.out]; exact this
    have HMem := Lib.hid (show ∀ x ∈ X.data.toList, x ≠ 126 ∧ mapB n x = false by rw [HP.out]; exact fun x hx => escR_mem hx)
    have HLast := Lib.hid (show X.data.toList.getLast? ≠ some 125 by rw [HP.out]; exact escR_last _ _)
    have HTo := Lib.hid (show (⟨(unR n X.data.toList).toArray⟩ : ByteArray) = s by rw [HP.out, unR_escR, Lib.mk_data])
    have hk0 : 0 ≤ (len1 : Int) % ((s.size : Int) + 1) := Int.emod_nonneg _ (by omega)
    have hk1 : (len1 : Int) % ((s.size : Int) + 1) ≤ (s.size : Int) := by have := Int.emod_lt_of_pos (len1 : Int) (show (0 : Int) < (s.size : Int) + 1 by omega); omega
    obtain ⟨k, hkk⟩ := Int.eq_ofNat_of_zero_le hk0
    have hkk1 := hkk ▸ hk1
    have HE := Lib.hid hkk
    have HC := Lib.hid (show (⟨(escA n (s.extract 0 k).data.toList).toArray⟩ : ByteArray) ++ ⟨(escA n (s.extract k s.size).data.toList).toArray⟩ = X by
      have hmo : mapOkB (n : Int) = true := by simp [mapOkB]; omega
      have e1 : escA n (s.data.toList.take k) = escR n (s.data.toList.take k) := by rw [escA, putOkB, hmo]; simp; omega
      have e2 : escA n (s.data.toList.drop k) = escR n (s.data.toList.drop k) := by rw [escA, putOkB, hmo]; simp; omega
      rw [ext_take, ext_drop, e1, e2]
      have e : X = ⟨(escR n s.data.toList).toArray⟩ := by rw [← HP.out, Lib.mk_data]
      rw [e, ← List.take_append_drop k s.data.toList, escR_append, List.take_append_drop]
      rw [← Lib.mk_data (_ ++ _)]
      congr 2)
    have HMany := Lib.hid (show manyA n s.data.toList = (X.size : Int) - s.size by rw [manyA, HSL.out, hk, ← size_list X, HP.out]; rfl)
    clear hk
    go_wp2
    go_loopw [8] (fun i wr => ∃ j : Nat, j ≤ X.size ∧ i = .int .i64 j ∧ Below w.heap.size w wr) (fun i _ => X.size - (intOf i).toNat)
    case atStart => exact ⟨0, Nat.zero_le _, rfl, HB3.out⟩
    case round =>
      obtain ⟨j, hj, rfl, hbr⟩ := hrel
      have HBr := Lib.hid hbr
      clear hbr
      by_cases hlt : j < X.size
      · obtain ⟨q6, qm⟩ := HMem.out _ (mem_at X j hlt)
        have hb6 : ((X[j].toNat : Int) == 126) = false := beq_eq_false_iff_ne.2 (fun h => q6 (by apply UInt8.toNat_inj.1; show X[j].toNat = 126; omega))
        by_cases h32 : X[j].toNat < 32
        · obtain ⟨q, hq⟩ : ∃ q, q = n / 2 ^ X[j].toNat := ⟨_, rfl⟩
          have hqi : (n : Int) / 2 ^ X[j].toNat = (q : Int) := by rw [hq]; simp
          have hq2 : ¬ q % 2 = 1 := by simp [mapB, h32] at qm; omega
          have hr1 : (q : Int).tmod 2 = 0 := by rw [Int.tmod_eq_emod_of_nonneg (by omega)]; omega
          have hr2 : (q : Int) % 2 = 0 := by omega
          have hql : q ≤ 4294967295 := by rw [hq]; exact Nat.le_trans (Nat.div_le_self _ _) hn
          clear hq qm q6 hq2
          go_wp2
          go_roundw
          case rel => exact ⟨j + 1, by omega, by go_num, HBr.out⟩
          case measure => simp [intOf]; omega
        · clear q6 qm
          go_wp2
          go_roundw
          case rel => exact ⟨j + 1, by omega, by go_num, HBr.out⟩
          case measure => simp [intOf]; omega
      · go_wp2_with fail
        refine (implEscGet_yes n X _ hn (by omega) (fun h => (HMem.out _ h).1 rfl) HLast.out).mono ?_
        rintro e w4 ⟨rfl, hb4⟩
        have HB4 := Lib.hid (HBr.out.trans (hb4.mono HBr.out.size))
        clear hb4
        rw [HTo.out]
        obtain ⟨A1, hA1⟩ : ∃ A1 : ByteArray, A1 = ⟨(escA n (s.extract 0 k).data.toList).toArray⟩ := ⟨_, rfl⟩
        obtain ⟨A2, hA2⟩ : ∃ A2 : ByteArray, A2 = ⟨(escA n (s.extract k s.size).data.toList).toArray⟩ := ⟨_, rfl⟩
        have HA1 := Lib.hid hA1
        have HA2 := Lib.hid hA2
        have hcat : A1 ++ A2 = X := by rw [hA1, hA2]; exact HC.out
        have hkn : (k : Int) ≤ (s.size : Int) := by omega
        have hsub : IntKind.i64.wrap ((X.size : Int) - (s.size : Int)) = (X.size : Int) - (s.size : Int) := wrap_in _ (by omega) (by omega)
        have hXi : (X.size : Int) ≤ 1200 := by omega
        clear hA1 hA2 hkk hk0 hk1
        go_wp2_with fail
        rw [HE.out]
        have hsl1 : ∀ u : World, (Instr.slice 9 (.string s) none (some (.int .i64 (k : Int))) none).run Try.prog u = .ok (.string (s.extract 0 k)) u := fun u => by
          rw [run_slice_string_to_if u 9 s .i64 (k : Int) Try.underlying9]
          simp [hkn]
        have hsl2 : ∀ u : World, (Instr.slice 9 (.string s) (some (.int .i64 (k : Int))) none none).run Try.prog u = .ok (.string (s.extract k s.size)) u := fun u => by
          rw [run_slice_string_from_if u 9 s .i64 (k : Int) Try.underlying9]
          simp [hkn]
        have hcl : A1.size + A2.size ≤ 9223372036854775807 := by rw [← ByteArray.size_append, hcat]; omega
        have hadd : ∀ u : World, (Op.stringOp .add A1 A2).run Try.prog u = .ok (.string X) u := fun u => by rw [run_string_add_sum u A1 A2 hcl, hcat]
        have hb4d : Below w.heap.size w w4.drew := HB4.out.drew
        have hb4 : Below w.heap.size w w4 := HB4.out
        clear hXs hs hkk1
        go_region_held3 (fun wx => Below w.heap.size w wx) (first | assumption | exact hS3 | exact hS2 | exact hS1 | exact hb4d) (first | (go_at_call_of 10 (s.extract 0 k); refine (implEscPut_any n (s.extract 0 k) _).mono ?_; rintro e wx1 ⟨rfl, hbx1⟩; have hS1 : Below w.heap.size w wx1 := hb4d.trans (hbx1.mono hb4d.size); clear hbx1; rw [← HA1.out]) | (go_at_call_of 10 (s.extract k s.size); refine (implEscPut_any n (s.extract k s.size) _).mono ?_; rintro e wx2 ⟨rfl, hbx2⟩; have hS2 : Below w.heap.size w wx2 := hS1.trans (hbx2.mono hS1.size); clear hbx2; rw [← HA2.out]) | (go_at_call_of 13 s; refine (implEscMany_any n s _).mono ?_; rintro e wx3 ⟨rfl, hbx3⟩; have hS3 : Below w.heap.size w wx3 := hS2.trans (hbx3.mono hS2.size); clear hbx3; rw [HMany.out]))
        all_goals go_wp2
        all_goals go_ret
        all_goals
          refine ⟨?_, by assumption⟩
          simp
theorem own : ownKnob Try.prog.godebug = none := by kernel_rfl
theorem laidOut : laidOutB Try.prog = true := by kernel_rfl
set_option maxRecDepth 100000 in
theorem lifted (os : Os) (started : os.Started) (H : Type) (enc : TypeId × Value → H) :
    ReturnsInHanded {} Try.checked os 3 .any (Rows.fnEscapePutSpec.pre6 enc Try.prog Try.f3 Rows.fnEscapePutRow.domain false) (Rows.fnEscapePutSpec.post enc Try.prog Try.f3 false true false false) := by
  refine returnsInHanded_of_change (C := Try.checked) own started (by kernel_rfl) Try.func3
    (ChangeSpec.witness6 (enc := enc) (C := Try.checked) false ⟨#[], #[.slice none 0 0, .slice none 0 0], []⟩ 8 (by kernel_rfl) (by kernel_rfl) (by kernel_rfl) (by kernel_rfl)) ?_
  intro W base args ds gs before hval0 hW hcnd _
  have hval : ∀ (j : Nat) t v, Try.f3.params[j]? = some t → args[j]? = some v → Value.okWide Try.prog W .any base t v := hval0
  have hW' := hW
  obtain ⟨p, q, hA0, hV, rfl, hfz, hnd⟩ := hW
  have hA : DataW.TrodAll enc Try.prog W 0 (fun _ => true) true Try.f3.params.toList args.toList ds p := hA0
  rw [Try.params3] at hA hval
  obtain ⟨v0, vs0, d0, ds0, p0, q0, hargs, rfl, rfl, h0, r0⟩ := trodAll_cons hA
  obtain ⟨v1, vs1, d1, ds1, p1, q1, rfl, rfl, rfl, h1, r1⟩ := trodAll_cons r0
  obtain ⟨rfl, rfl, rfl⟩ := trodAll_nil r1
  obtain rfl : args = #[v0, v1] := by cases args; simp_all
  obtain ⟨rfl, rfl⟩ := trodVars_none hV
  obtain ⟨a0, len0, cap0, rfl⟩ := okWide_slice Try.underlying22 (hval 0 22 v0 rfl rfl)
  have k0 := h0
  have lt0 : ∀ x ∈ p0, x.block < W.heap.size := by obtain ⟨m, hm⟩ := k0; exact DataW.trod_lt m _ _ _ hm
  obtain ⟨z0, w0⟩ : ∃ zs, IsRow .u8 W a0 len0 cap0 zs := by
    obtain ⟨fuel, hf⟩ := h0
    rcases open_ints Try.underlying22 Try.underlying5 (by kernel_rfl) hf with ⟨hcs, _⟩ | ⟨x, l, c, zs, hcs, _, hl, hm, hz, _, hcell, hwz⟩
    · simp [Value.cells] at hcs
      obtain ⟨rfl, rfl, rfl⟩ := hcs
      exact ⟨[], .inl ⟨rfl, rfl, rfl, rfl⟩⟩
    · simp [Value.cells] at hcs
      obtain ⟨rfl, rfl, rfl⟩ := hcs
      exact ⟨zs, .inr ⟨_, rfl, hl, hm, by simpa using hz, hcell, hwz⟩⟩
  obtain ⟨a1, len1, cap1, rfl⟩ := okWide_slice Try.underlying22 (hval 1 22 v1 rfl rfl)
  have k1 := h1
  have lt1 : ∀ x ∈ p1, x.block < W.heap.size := by obtain ⟨m, hm⟩ := k1; exact DataW.trod_lt m _ _ _ hm
  obtain ⟨z1, w1⟩ : ∃ zs, IsRow .u8 W a1 len1 cap1 zs := by
    obtain ⟨fuel, hf⟩ := h1
    rcases open_ints Try.underlying22 Try.underlying5 (by kernel_rfl) hf with ⟨hcs, _⟩ | ⟨x, l, c, zs, hcs, _, hl, hm, hz, _, hcell, hwz⟩
    · simp [Value.cells] at hcs
      obtain ⟨rfl, rfl, rfl⟩ := hcs
      exact ⟨[], .inl ⟨rfl, rfl, rfl, rfl⟩⟩
    · simp [Value.cells] at hcs
      obtain ⟨rfl, rfl, rfl⟩ := hcs
      exact ⟨zs, .inr ⟨_, rfl, hl, hm, by simpa using hz, hcell, hwz⟩⟩
  clear hA0 hval0
  refine (walk a0 len0 cap0 z0 a1 len1 cap1 z1 W w0 w1).mono fun e W' ⟨he, bel⟩ => ?_
  subst he
  exact ⟨_, rfl, _, _, _, [], _, [], hW', trodAll_mk1 (shut_bool Try.underlying4 _), (trodAll_cons_mk (Below.trod laidOut (by kernel_rfl) (of_decide_eq_true (by kernel_rfl)) k0 bel lt0) (trodAll_cons_mk (Below.trod laidOut (by kernel_rfl) (of_decide_eq_true (by kernel_rfl)) k1 bel lt1) trodAll_mk0)), rfl, bel.frame _, fun h => by cases h⟩
theorem over : Rows.fnEscapePutRow.holds Try.pinned (OpenSpec.ofChange Rows.fnEscapePutSpec) :=
  OpenClaim.holds_of_wide 3 Try.f3 rfl rfl rfl rfl rfl rfl rfl ⟨rfl, rfl, rfl, rfl, rfl⟩ rfl rfl rfl rfl rfl (by kernel_rfl) Try.func3 (by kernel_rfl)
    (of_decide_eq_true (by kernel_rfl)) (by unfold Func.isWrapper; first | (rw [if_pos (by decide +kernel)]; kernel_rfl) | (rw [if_neg (by decide +kernel)]; exact ⟨rfl, rfl⟩))
    (fun os started H enc _ => lifted os started H enc)
theorem proved : Rows.FnEscapePutSaid := over
end Go.Proofs.Ytjjhgjpabeoenaa.fnEscapePut
