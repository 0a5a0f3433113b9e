/- FnMuxAll: What channels tell is told piece by piece: what the first pieces tell is told first. For every code (the law draws the pieces from it) and every second argument. No condition. -/
import Derived.Test.YtplaagkcamjemaaKitA
import Derived.Test.YtplaagkcamjemaaMxZ
namespace Go.Proofs.Ytplaagkcamjemaa.fnMuxAll
open Go.ChangeShapes Go.WideShapes Go.ChangeAt Go.RowKit
open Go.ChangeMaps (open_string shut_string)
set_option linter.unusedVariables false
set_option maxRecDepth 100000 in
set_option maxHeartbeats 800000 in
theorem walk (a0 : Option Addr) (len0 cap0 : Nat) (z0 : List Int) (a1 : Option Addr) (len1 cap1 : Nat) (z1 : List Int) (w : World) (w0 : IsRow .u8 w a0 len0 cap0 z0) (w1 : IsRow .u8 w a1 len1 cap1 z1) :
    Calls Try.prog 5 #[.slice a0 len0 cap0, .slice a1 len1 cap1] w fun e w' => e = .returned (.bool true) ∧ Below w.heap.size w w' := by
  by_cases hbig : 1048576 < len0
  · go_enter Try.func5, Try.ntmps5
    go_wp2
    go_ret
    exact ⟨rfl, Below.refl _ _⟩
  by_cases hbig1 : 1048576 < len1
  · go_enter Try.func5, Try.ntmps5
    go_wp2
    go_ret
    exact ⟨rfl, Below.refl _ _⟩
  have HH := Lib.hid w0
  clear w0 w1
  go_enter Try.func5, Try.ntmps5
  go_wp2_with fail
  refine (drawMuxAll_any a0 len0 cap0 z0 HH.out).mono ?_
  rintro e w1 ⟨v, ls, rfl, hp, hl, hpk, hb⟩
  obtain ⟨hrc, a, cap, rfl, hcap, hplain⟩ := hp
  have HSL := Lib.hid (strs_len ls)
  have HSZ := Lib.hid (show ∀ s ∈ strs ls, s.size ≤ 1048576 by
    intro s hs
    unfold strs at hs
    obtain ⟨l, hl, rfl⟩ := List.mem_map.1 hs
    have := (hpk l hl).2
    show l.length ≤ 1048576
    omega)
  have HTX := Lib.hid (txts_strs ls)
  have HR := Lib.hid hrc.reads
  have HB1 := Lib.hid hb
  have hn : (strs ls).length ≤ 200 := by rw [HSL.out]; exact hl
  obtain ⟨SS, hSS⟩ : ∃ SS, SS = strs ls := ⟨_, rfl⟩
  obtain ⟨L, hL⟩ : ∃ L, L = allTold mux0 ls := ⟨_, rfl⟩
  have hLl : L.length ≤ 200 := by rw [hL]; exact Nat.le_trans (allTold_len _ _) hl
  have hLn : L.length ≤ SS.length := by rw [hL, hSS, HSL.out]; exact allTold_len _ _
  rw [← hSS] at HSL HSZ HTX HR hn hcap ⊢
  have HL := Lib.hid hL
  clear hrc hb hpk hSS hL
  have HIM := Lib.hid (show ∀ (W : World), RS W w1.heap.size (.slice a SS.length cap) SS → w1.heap.size ≤ W.heap.size → Calls Try.prog 14 #[.slice a SS.length cap] W (fun e w' => (∃ v, e = .returned v ∧ OE w' W.heap.size v L) ∧ Below W.heap.size W w') from fun W h hb => by
    have := implMxAll_any (.slice a SS.length cap) SS W w1.heap.size h hb (by omega) HSZ.out
    rw [HTX.out, ← HL.out] at this; exact this)
  have HSP := Lib.hid (show ∀ (W : World), RS W w1.heap.size (.slice a SS.length cap) SS → w1.heap.size ≤ W.heap.size → Calls Try.prog 22 #[.slice a SS.length cap] W (fun e w' => (∃ v, e = .returned v ∧ OE w' W.heap.size v L) ∧ Below W.heap.size W w') from fun W h hb => by
    have := specAll_any (.slice a SS.length cap) SS W w1.heap.size h hb (by omega) HSZ.out
    rw [HTX.out, ← HL.out] at this; exact this)
  go_wp2_with fail
  refine (HIM.out _ HR.out (Nat.le_refl _)).mono ?_
  rintro e w2 ⟨⟨u1, rfl, ho1⟩, hb⟩
  obtain ⟨a1, c1, rfl⟩ := ho1.reads.shape
  have hc1 : L.length ≤ c1 := by
    rcases ho1.2 with ⟨e, h0⟩ | ⟨g, cp, cur, e, _, _, h1, _⟩
    · omega
    · injection e with _ _ e; omega
  have hp1 : ∀ x, a1 = some x → x.spot = none := by
    rcases ho1.2 with ⟨e, h0⟩ | ⟨g, cp, cur, e, _, _, h1, _⟩
    · injection e with e _ _; intro x hx; rw [e] at hx; cases hx
    · injection e with e _ _; intro x hx; rw [e] at hx; cases hx; rfl
  have HO1 := Lib.hid ho1
  have HR2 := Lib.hid (HR.out.below hb)
  have HB2 := Lib.hid (HB1.out.trans (hb.mono HB1.out.size))
  have hw2 : w1.heap.size ≤ w2.heap.size := hb.size
  clear ho1 hb
  go_wp2_with fail
  refine (HSP.out _ HR2.out hw2).mono ?_
  rintro e w3 ⟨⟨u2, rfl, ho2⟩, hb⟩
  obtain ⟨a2, c2, rfl⟩ := ho2.reads.shape
  have HO1 := Lib.hid (HO1.out.below hb)
  have HO2 := Lib.hid ho2
  have HR3 := Lib.hid (HR2.out.below (hb.mono hw2))
  have HB3 := Lib.hid (HB2.out.trans (hb.mono HB2.out.size))
  have hw3 : w1.heap.size ≤ w3.heap.size := Nat.le_trans hw2 hb.size
  clear ho2 hb
  go_wp2_with fail
  refine (ctEvents_same _ _ L _ _ _ _ _ HO1.out.reads HO2.out.reads (Nat.le_refl _) (Nat.le_refl _) (by omega)).mono ?_
  rintro e w4 ⟨rfl, hb⟩
  have HO1 := Lib.hid (HO1.out.below hb)
  have HR4 := Lib.hid (HR3.out.below (hb.mono hw3))
  have HB4 := Lib.hid (HB3.out.trans (hb.mono HB3.out.size))
  have hw4 : w1.heap.size ≤ w4.heap.size := Nat.le_trans hw3 hb.size
  clear hb
  go_wp2_with fail
  refine (implNew_any _).mono ?_
  rintro e w5 ⟨⟨v5, rfl, ho5⟩, hb⟩
  have HO5 := Lib.hid ho5
  have HO1 := Lib.hid (HO1.out.below hb)
  have HR5 := Lib.hid (HR4.out.below (hb.mono hw4))
  have HB5 := Lib.hid (HB4.out.trans (hb.mono HB4.out.size))
  have hw5 : w1.heap.size ≤ w5.heap.size := Nat.le_trans hw4 hb.size
  clear ho5 hb
  go_wp2_with fail
  refine (specNew_any _).mono ?_
  rintro e w6 ⟨⟨v6, rfl, ho6⟩, hb⟩
  have HO5 := Lib.hid (HO5.out.below hb)
  have HO6 := Lib.hid ho6
  have HO1 := Lib.hid (HO1.out.below hb)
  have HR6 := Lib.hid (HR5.out.below (hb.mono hw5))
  have HB6 := Lib.hid (HB5.out.trans (hb.mono HB5.out.size))
  have hw6 : w1.heap.size ≤ w6.heap.size := Nat.le_trans hw5 hb.size
  clear ho6 hb
  go_wp2_with fail
  refine (ctMux_same _ _ (strs mux0) _ _ _ HO5.out.reads HO6.out.reads (Nat.le_refl _) (Nat.le_refl _) (by simp [strs, mux0])).mono ?_
  rintro e w7 ⟨rfl, hb⟩
  have HO1 := Lib.hid (HO1.out.below hb)
  have HR7 := Lib.hid (HR6.out.below (hb.mono hw6))
  have HB7 := Lib.hid (HB6.out.trans (hb.mono HB6.out.size))
  have hw7 : w1.heap.size ≤ w7.heap.size := Nat.le_trans hw6 hb.size
  clear hb
  have hk0 : 0 ≤ (len1 : Int) % ((SS.length : Int) + 1) := Int.emod_nonneg _ (by omega)
  have hk1 : (len1 : Int) % ((SS.length : Int) + 1) ≤ (SS.length : Int) := by have := Int.emod_lt_of_pos (len1 : Int) (show (0 : Int) < (SS.length : Int) + 1 by omega); omega
  obtain ⟨k, hkk⟩ := Int.eq_ofNat_of_zero_le hk0
  have hkn : k ≤ SS.length := by omega
  have HE := Lib.hid hkk
  have hsl : ∀ u : World, (Instr.slice 25 (.slice a SS.length cap) none (some (.int .i64 ((len1 : Int) % ((SS.length : Int) + 1)))) none).run Try.prog u = .ok (.slice a k cap) u := fun u => by rw [hkk]; exact slice_to u a SS.length cap k hplain (by omega)
  have HT8 := Lib.hid (HR7.out.take k hkn)
  obtain ⟨M, hM⟩ : ∃ M, M = allTold mux0 (ls.take k) := ⟨_, rfl⟩
  have hML : M = L.take M.length := by
    have h1 : L = M ++ allTold (allOpen mux0 (ls.take k)) (ls.drop k) := by rw [HL.out, hM, ← allTold_append, List.take_append_drop]
    rw [h1, List.take_left]
  have hMl : M.length ≤ L.length := by
    have h1 := congrArg List.length hML
    rw [List.length_take] at h1
    omega
  have HM := Lib.hid hM
  have HML := Lib.hid hML
  clear hkk hk0 hk1 hM hML
  have HI8 := Lib.hid (show Calls Try.prog 14 #[.slice a k cap] w7 (fun e w' => (∃ v, e = .returned v ∧ OE w' w7.heap.size v M) ∧ Below w7.heap.size w7 w') by
    have hlk : (SS.take k).length = k := by rw [List.length_take]; omega
    have h1 := implMxAll_any (.slice a k cap) (SS.take k) w7 w1.heap.size HT8.out hw7 (by omega) (fun s hs => HSZ.out s (List.mem_of_mem_take hs))
    have h2 : txts (SS.take k) = ls.take k := by rw [← HTX.out]; unfold txts; rw [List.map_take]
    rw [h2, ← HM.out] at h1; exact h1)
  go_wp2_with fail
  refine HI8.out.mono ?_
  rintro e w8 ⟨⟨u8, rfl, ho8⟩, hb⟩
  obtain ⟨a8, c8, rfl⟩ := ho8.reads.shape
  have HO8 := Lib.hid ho8
  have HO1 := Lib.hid (HO1.out.below hb)
  have HB8 := Lib.hid (HB7.out.trans (hb.mono HB7.out.size))
  have hsl2 := fun u => slice_toE u a1 L.length c1 M.length hp1 (by omega)
  have HT9 := Lib.hid (show RE w8 w1.heap.size w8.heap.size (.slice a1 M.length c1) M by
    have h1 := HO1.out.reads.take M.length hMl
    rw [← HML.out] at h1; exact h1)
  clear ho8 hb hsl
  have hMli : (M.length : Int) ≤ (L.length : Int) := by omega
  have hLni : (L.length : Int) ≤ (SS.length : Int) := by omega
  go_wp2_with fail
  refine (ctEvents_same _ _ M _ _ _ _ _ HT9.out HO8.out.reads (Nat.le_refl _) (Nat.le_refl _) (by omega)).mono ?_
  rintro e w9 ⟨rfl, hb⟩
  have HB9 := Lib.hid (HB8.out.trans (hb.mono HB8.out.size))
  clear hb hsl2
  go_wp2
  go_ret
  exact ⟨rfl, HB9.out⟩
theorem own : ownKnob Try.prog.godebug = none := by kernel_rfl
theorem laidOut : laidOutB Try.prog = true := by kernel_rfl
set_option maxRecDepth 100000 in
theorem lifted (os : Os) (started : os.Started) (H : Type) (enc : TypeId × Value → H) :
    ReturnsInHanded {} Try.checked os 5 .any (Rows.fnMuxAllSpec.pre6 enc Try.prog Try.f5 Rows.fnMuxAllRow.domain false) (Rows.fnMuxAllSpec.post enc Try.prog Try.f5 false true false false) := by
  refine returnsInHanded_of_change (C := Try.checked) own started (by kernel_rfl) Try.func5
    (ChangeSpec.witness6 (enc := enc) (C := Try.checked) false ⟨#[], #[.slice none 0 0, .slice none 0 0], []⟩ 8 (by kernel_rfl) (by kernel_rfl) (by kernel_rfl) (by kernel_rfl)) ?_
  intro W base args ds gs before hval0 hW hcnd _
  have hval : ∀ (j : Nat) t v, Try.f5.params[j]? = some t → args[j]? = some v → Value.okWide Try.prog W .any base t v := hval0
  have hW' := hW
  obtain ⟨p, q, hA0, hV, rfl, hfz, hnd⟩ := hW
  have hA : DataW.TrodAll enc Try.prog W 0 (fun _ => true) true Try.f5.params.toList args.toList ds p := hA0
  rw [Try.params5] at hA hval
  obtain ⟨v0, vs0, d0, ds0, p0, q0, hargs, rfl, rfl, h0, r0⟩ := trodAll_cons hA
  obtain ⟨v1, vs1, d1, ds1, p1, q1, rfl, rfl, rfl, h1, r1⟩ := trodAll_cons r0
  obtain ⟨rfl, rfl, rfl⟩ := trodAll_nil r1
  obtain rfl : args = #[v0, v1] := by cases args; simp_all
  obtain ⟨rfl, rfl⟩ := trodVars_none hV
  obtain ⟨a0, len0, cap0, rfl⟩ := okWide_slice Try.underlying22 (hval 0 22 v0 rfl rfl)
  have k0 := h0
  have lt0 : ∀ x ∈ p0, x.block < W.heap.size := by obtain ⟨m, hm⟩ := k0; exact DataW.trod_lt m _ _ _ hm
  obtain ⟨z0, w0⟩ : ∃ zs, IsRow .u8 W a0 len0 cap0 zs := by
    obtain ⟨fuel, hf⟩ := h0
    rcases open_ints Try.underlying22 Try.underlying5 (by kernel_rfl) hf with ⟨hcs, _⟩ | ⟨x, l, c, zs, hcs, _, hl, hm, hz, _, hcell, hwz⟩
    · simp [Value.cells] at hcs
      obtain ⟨rfl, rfl, rfl⟩ := hcs
      exact ⟨[], .inl ⟨rfl, rfl, rfl, rfl⟩⟩
    · simp [Value.cells] at hcs
      obtain ⟨rfl, rfl, rfl⟩ := hcs
      exact ⟨zs, .inr ⟨_, rfl, hl, hm, by simpa using hz, hcell, hwz⟩⟩
  obtain ⟨a1, len1, cap1, rfl⟩ := okWide_slice Try.underlying22 (hval 1 22 v1 rfl rfl)
  have k1 := h1
  have lt1 : ∀ x ∈ p1, x.block < W.heap.size := by obtain ⟨m, hm⟩ := k1; exact DataW.trod_lt m _ _ _ hm
  obtain ⟨z1, w1⟩ : ∃ zs, IsRow .u8 W a1 len1 cap1 zs := by
    obtain ⟨fuel, hf⟩ := h1
    rcases open_ints Try.underlying22 Try.underlying5 (by kernel_rfl) hf with ⟨hcs, _⟩ | ⟨x, l, c, zs, hcs, _, hl, hm, hz, _, hcell, hwz⟩
    · simp [Value.cells] at hcs
      obtain ⟨rfl, rfl, rfl⟩ := hcs
      exact ⟨[], .inl ⟨rfl, rfl, rfl, rfl⟩⟩
    · simp [Value.cells] at hcs
      obtain ⟨rfl, rfl, rfl⟩ := hcs
      exact ⟨zs, .inr ⟨_, rfl, hl, hm, by simpa using hz, hcell, hwz⟩⟩
  clear hA0 hval0
  refine (walk a0 len0 cap0 z0 a1 len1 cap1 z1 W w0 w1).mono fun e W' ⟨he, bel⟩ => ?_
  subst he
  exact ⟨_, rfl, _, _, _, [], _, [], hW', trodAll_mk1 (shut_bool Try.underlying4 _), (trodAll_cons_mk (Below.trod laidOut (by kernel_rfl) (of_decide_eq_true (by kernel_rfl)) k0 bel lt0) (trodAll_cons_mk (Below.trod laidOut (by kernel_rfl) (of_decide_eq_true (by kernel_rfl)) k1 bel lt1) trodAll_mk0)), rfl, bel.frame _, fun h => by cases h⟩
theorem over : Rows.fnMuxAllRow.holds Try.pinned (OpenSpec.ofChange Rows.fnMuxAllSpec) :=
  OpenClaim.holds_of_wide 5 Try.f5 rfl rfl rfl rfl rfl rfl rfl ⟨rfl, rfl, rfl, rfl, rfl⟩ rfl rfl rfl rfl rfl (by kernel_rfl) Try.func5 (by kernel_rfl)
    (of_decide_eq_true (by kernel_rfl)) (by unfold Func.isWrapper; first | (rw [if_pos (by decide +kernel)]; kernel_rfl) | (rw [if_neg (by decide +kernel)]; exact ⟨rfl, rfl⟩))
    (fun os started H enc _ => lifted os started H enc)
theorem proved : Rows.FnMuxAllSaid := over
end Go.Proofs.Ytplaagkcamjemaa.fnMuxAll
