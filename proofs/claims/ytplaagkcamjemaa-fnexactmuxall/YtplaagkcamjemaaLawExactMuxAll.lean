/- FnExactMuxAll: MuxAll of the program answers as the model's, at every list; it writes into none, and its answer owns its memory. No condition. -/
import Derived.Test.YtplaagkcamjemaaKitA
import Derived.Test.YtplaagkcamjemaaMbG
import Derived.Test.YtplaagkcamjemaaMxX2
namespace Go.Proofs.Ytplaagkcamjemaa.fnExactMuxAll
open Go.ChangeShapes Go.WideShapes Go.ChangeAt Go.RowKit
open Go.ChangeMaps (open_string shut_string)
set_option linter.unusedVariables false
set_option maxRecDepth 100000 in
set_option maxHeartbeats 8000000 in
theorem walk (a0 : Option Addr) (len0 cap0 : Nat) (z0 : List ByteArray) (w : World) (w0 : IsStrs w a0 len0 cap0 z0) :
    Calls Try.prog 8 #[.slice a0 len0 cap0] w fun e w' => e = .returned (.bool true) ∧ Below w.heap.size w w' := by
  obtain ⟨hr, hlen, hz⟩ := RS.of_arg w0
  have hw0 : len0 ≤ maxLen := by
    rcases w0 with ⟨_, rfl, _⟩ | ⟨x, _, h1, h2, _⟩
    · exact Nat.zero_le _
    · omega
  generalize z0.take len0 = SA at hr hlen hz
  subst hlen
  have HAa := Lib.hid hr
  have HMZa := Lib.hid hz
  clear w0 hr hz
  have HB := Lib.hid (Below.refl w.heap.size w)
  go_enter Try.func8, Try.ntmps8
  go_wp2_with fail
  refine (szT_any _ SA 1048576 _ _ HAa.out (by omega) hw0 HMZa.out).mono ?_
  rintro e x1 ⟨x, rfl, hb, hx⟩
  have HAa := Lib.hid (HAa.out.below (hb.mono HB.out.size))
  have HB := Lib.hid (HB.out.trans (hb.mono HB.out.size))
  clear hb
  rcases hx with rfl | ⟨ya, rfl, hlSA, hzsSA⟩
  · go_wp2
    go_ret
    exact ⟨rfl, HB.out⟩
  have HZSSA := Lib.hid hzsSA
  clear hzsSA
  have hSA : SA.length ≤ 1048576 := by omega
  obtain ⟨LL, hLL⟩ : ∃ LL, LL = allTold mux0 (txts SA) := ⟨_, rfl⟩
  have HLL := Lib.hid (show LL.length ≤ 1048576 by rw [hLL]; exact Nat.le_trans (allTold_len _ _) (by unfold txts; rw [List.length_map]; exact hSA))
  have HSP := Lib.hid (show ∀ (W : World) (v1 : Value), RS W W.heap.size v1 SA → Calls Try.prog 22 #[v1] W (fun e w' => (∃ v, e = .returned v ∧ OE w' W.heap.size v LL) ∧ Below W.heap.size W w') from fun W v1 h1 => by rw [hLL]; exact specAll_any v1 SA W _ h1 (Nat.le_refl _) hSA HZSSA.out)
  have HIM := Lib.hid (show ∀ (W : World) (v1 : Value), RS W W.heap.size v1 SA → Calls Try.prog 14 #[v1] W (fun e w' => (∃ v, e = .returned v ∧ OE w' W.heap.size v LL) ∧ Below W.heap.size W w') from fun W v1 h1 => by rw [hLL]; exact implMxAll_any v1 SA W _ h1 (Nat.le_refl _) hSA HZSSA.out)
  clear hLL
  go_wp2_with fail
  refine (copy_any _ SA _ _ HAa.out HB.out.size hSA).mono ?_
  rintro e w1 ⟨⟨v1, rfl, ho0⟩, hb⟩
  have ho : OS w1 _ v1 SA := ho0
  clear ho0
  obtain ⟨va1, vc1, rfl⟩ := ho.reads.shape
  have szw := HB.out.size
  have hsz := hb.size
  have HO1 := Lib.hid (ho.mono (base' := w.heap.size) szw)
  clear szw
  clear ho hsz
  have HAa := Lib.hid (HAa.out.below (hb.mono HB.out.size))
  have HB := Lib.hid (HB.out.trans (hb.mono HB.out.size))
  clear hb
  go_wp2_with fail
  refine (HSP.out _ _ HO1.out.reads).mono ?_
  rintro e w2 ⟨⟨vS, rfl, ho0⟩, hb⟩
  have ho : OE w2 _ vS LL := ho0
  clear ho0
  obtain ⟨vaS, vcS, rfl⟩ := ho.reads.shape
  have szw := HB.out.size
  have old1 := HO1.out.low
  have hsz := hb.size
  have AP1S := Lib.hid (show ∀ k, (Value.slice va1 SA.length vc1).ownBlock = some k → ¬ (Value.slice vaS LL.length vcS).ownBlock = some k from fun k h1 h2 => by have e1 := (old1 k h1).2; have e2 := (ho.low k h2).1; omega)
  have HOS := Lib.hid (ho.mono (base' := w.heap.size) szw)
  clear szw old1
  clear ho hsz
  have HO1 := Lib.hid (HO1.out.below hb)
  have HAa := Lib.hid (HAa.out.below (hb.mono HB.out.size))
  have HB := Lib.hid (HB.out.trans (hb.mono HB.out.size))
  clear hb
  go_wp2_with fail
  refine (copy_any _ SA _ _ HAa.out HB.out.size hSA).mono ?_
  rintro e w3 ⟨⟨v4, rfl, ho0⟩, hb⟩
  have ho : OS w3 _ v4 SA := ho0
  clear ho0
  obtain ⟨va4, vc4, rfl⟩ := ho.reads.shape
  have szw := HB.out.size
  have oldS := HOS.out.low
  have hsz := hb.size
  have APS4 := Lib.hid (show ∀ k, (Value.slice vaS LL.length vcS).ownBlock = some k → ¬ (Value.slice va4 SA.length vc4).ownBlock = some k from fun k h1 h2 => by have e1 := (oldS k h1).2; have e2 := (ho.low k h2).1; omega)
  have HO4 := Lib.hid (ho.mono (base' := w.heap.size) szw)
  clear szw oldS
  clear ho hsz
  have HOS := Lib.hid (HOS.out.below hb)
  have HAa := Lib.hid (HAa.out.below (hb.mono HB.out.size))
  have HB := Lib.hid (HB.out.trans (hb.mono HB.out.size))
  clear hb
  go_wp2_with fail
  refine (HIM.out _ _ HO4.out.reads).mono ?_
  rintro e w4 ⟨⟨vG, rfl, ho0⟩, hb⟩
  have ho : OE w4 _ vG LL := ho0
  clear ho0
  obtain ⟨vaG, vcG, rfl⟩ := ho.reads.shape
  have szw := HB.out.size
  have oldS := HOS.out.low
  have old4 := HO4.out.low
  have hsz := hb.size
  have APSG := Lib.hid (show ∀ k, (Value.slice vaS LL.length vcS).ownBlock = some k → ¬ (Value.slice vaG LL.length vcG).ownBlock = some k from fun k h1 h2 => by have e1 := (oldS k h1).2; have e2 := (ho.low k h2).1; omega)
  have AP4G := Lib.hid (show ∀ k, (Value.slice va4 SA.length vc4).ownBlock = some k → ¬ (Value.slice vaG LL.length vcG).ownBlock = some k from fun k h1 h2 => by have e1 := (old4 k h1).2; have e2 := (ho.low k h2).1; omega)
  have HOG := Lib.hid (ho.mono (base' := w.heap.size) szw)
  clear szw oldS old4
  clear ho hsz
  have HOS := Lib.hid (HOS.out.below hb)
  have HO4 := Lib.hid (HO4.out.below hb)
  have HAa := Lib.hid (HAa.out.below (hb.mono HB.out.size))
  have HB := Lib.hid (HB.out.trans (hb.mono HB.out.size))
  clear hb
  go_wp2_with fail
  refine (eqEvents_same _ _ LL _ _ _ _ _ HOG.out.reads HOS.out.reads (Nat.le_refl _) (Nat.le_refl _) (by have := HLL.out; omega)).mono ?_
  rintro e w5 ⟨rfl, hb⟩
  have HOS := Lib.hid (HOS.out.below hb)
  have HO4 := Lib.hid (HO4.out.below hb)
  have HOG := Lib.hid (HOG.out.below hb)
  have HAa := Lib.hid (HAa.out.below (hb.mono HB.out.size))
  have HB := Lib.hid (HB.out.trans (hb.mono HB.out.size))
  clear hb
  go_wp2_with fail
  refine (copy_any _ SA _ _ HAa.out HB.out.size hSA).mono ?_
  rintro e w6 ⟨⟨v7, rfl, ho0⟩, hb⟩
  have ho : OS w6 _ v7 SA := ho0
  clear ho0
  obtain ⟨va7, vc7, rfl⟩ := ho.reads.shape
  have szw := HB.out.size
  have oldS := HOS.out.low
  have old4 := HO4.out.low
  have oldG := HOG.out.low
  have hsz := hb.size
  have APS7 := Lib.hid (show ∀ k, (Value.slice vaS LL.length vcS).ownBlock = some k → ¬ (Value.slice va7 SA.length vc7).ownBlock = some k from fun k h1 h2 => by have e1 := (oldS k h1).2; have e2 := (ho.low k h2).1; omega)
  have AP47 := Lib.hid (show ∀ k, (Value.slice va4 SA.length vc4).ownBlock = some k → ¬ (Value.slice va7 SA.length vc7).ownBlock = some k from fun k h1 h2 => by have e1 := (old4 k h1).2; have e2 := (ho.low k h2).1; omega)
  have APG7 := Lib.hid (show ∀ k, (Value.slice vaG LL.length vcG).ownBlock = some k → ¬ (Value.slice va7 SA.length vc7).ownBlock = some k from fun k h1 h2 => by have e1 := (oldG k h1).2; have e2 := (ho.low k h2).1; omega)
  have HO7 := Lib.hid (ho.mono (base' := w.heap.size) szw)
  clear szw oldS old4 oldG
  clear ho hsz
  have HOS := Lib.hid (HOS.out.below hb)
  have HO4 := Lib.hid (HO4.out.below hb)
  have HOG := Lib.hid (HOG.out.below hb)
  have HAa := Lib.hid (HAa.out.below (hb.mono HB.out.size))
  have HB := Lib.hid (HB.out.trans (hb.mono HB.out.size))
  clear hb
  go_wp2_with fail
  refine (eqStrs_same _ _ SA _ _ _ HO4.out.reads HO7.out.reads (Nat.le_refl _) (Nat.le_refl _) hSA).mono ?_
  rintro e w7 ⟨rfl, hb⟩
  have HOS := Lib.hid (HOS.out.below hb)
  have HO4 := Lib.hid (HO4.out.below hb)
  have HOG := Lib.hid (HOG.out.below hb)
  have HO7 := Lib.hid (HO7.out.below hb)
  have HAa := Lib.hid (HAa.out.below (hb.mono HB.out.size))
  have HB := Lib.hid (HB.out.trans (hb.mono HB.out.size))
  clear hb
  go_wp2_with fail
  refine (markS_any _ SA 1 _ _ HO4.out (by omega) (by omega)).mono ?_
  rintro e w8 ⟨rfl, hm, hg⟩
  have HOS := Lib.hid (HOS.out.kept hg (apart_of (fun k h1 h2 => APS4.out k h1 h2)))
  have HOG := Lib.hid (HOG.out.kept hg (apart_of (fun k h1 h2 => AP4G.out k h2 h1)))
  have HAa := Lib.hid (HAa.out.below (Below.grown (Below.refl _ _) hg HB.out.size (fun k hk => (HO4.out.low k hk).1)))
  have HB := Lib.hid (HB.out.grown hg HB.out.size (fun k hk => (HO4.out.low k hk).1))
  have HO4 := Lib.hid hm
  clear hm hg
  obtain ⟨k1, hk1⟩ : ∃ k1, k1 = 1 + SA.length := ⟨_, rfl⟩
  rw [← hk1]
  have hk1b : 1 ≤ k1 ∧ k1 ≤ 1048577 := by omega
  clear hk1
  go_wp2_with fail
  refine (eqEvents_same _ _ LL _ _ _ _ _ HOG.out.reads HOS.out.reads (Nat.le_refl _) (Nat.le_refl _) (by have := HLL.out; omega)).mono ?_
  rintro e w9 ⟨rfl, hb⟩
  have HOS := Lib.hid (HOS.out.below hb)
  have HOG := Lib.hid (HOG.out.below hb)
  have HAa := Lib.hid (HAa.out.below (hb.mono HB.out.size))
  have HB := Lib.hid (HB.out.trans (hb.mono HB.out.size))
  clear hb
  go_wp2_with fail
  refine (mark_any _ LL _ _ HOG.out (by have := HLL.out; omega)).mono ?_
  rintro e w10 ⟨rfl, hm, hg⟩
  have HOS := Lib.hid (HOS.out.kept hg (apart_of (fun k h1 h2 => APSG.out k h1 h2)))
  have HAa := Lib.hid (HAa.out.below (Below.grown (Below.refl _ _) hg HB.out.size (fun k hk => (HOG.out.low k hk).1)))
  have HB := Lib.hid (HB.out.grown hg HB.out.size (fun k hk => (HOG.out.low k hk).1))
  have HOG := Lib.hid hm
  clear hm hg
  go_wp2_with fail
  refine (held_any _ LL.length _ _ _ HOG.out.reads (Nat.le_refl _) (by have := HLL.out; omega)).mono ?_
  rintro e w11 ⟨rfl, hb⟩
  have HOS := Lib.hid (HOS.out.below hb)
  have HOG := Lib.hid (HOG.out.below hb)
  have HAa := Lib.hid (HAa.out.below (hb.mono HB.out.size))
  have HB := Lib.hid (HB.out.trans (hb.mono HB.out.size))
  clear hb
  go_wp2_with fail
  refine (copy_any _ SA _ _ HAa.out HB.out.size hSA).mono ?_
  rintro e w12 ⟨⟨vu, rfl, ho0⟩, hb⟩
  have ho : OS w12 _ vu SA := ho0
  clear ho0
  obtain ⟨vau, vcu, rfl⟩ := ho.reads.shape
  have szw := HB.out.size
  have oldS := HOS.out.low
  have oldG := HOG.out.low
  have hsz := hb.size
  have APSu := Lib.hid (show ∀ k, (Value.slice vaS LL.length vcS).ownBlock = some k → ¬ (Value.slice vau SA.length vcu).ownBlock = some k from fun k h1 h2 => by have e1 := (oldS k h1).2; have e2 := (ho.low k h2).1; omega)
  have APGu := Lib.hid (show ∀ k, (Value.slice vaG LL.length vcG).ownBlock = some k → ¬ (Value.slice vau SA.length vcu).ownBlock = some k from fun k h1 h2 => by have e1 := (oldG k h1).2; have e2 := (ho.low k h2).1; omega)
  have HOu := Lib.hid (ho.mono (base' := w.heap.size) szw)
  clear szw oldS oldG
  clear ho hsz
  have HOS := Lib.hid (HOS.out.below hb)
  have HOG := Lib.hid (HOG.out.below hb)
  have HAa := Lib.hid (HAa.out.below (hb.mono HB.out.size))
  have HB := Lib.hid (HB.out.trans (hb.mono HB.out.size))
  clear hb
  go_wp2_with fail
  refine (HIM.out _ _ HOu.out.reads).mono ?_
  rintro e w13 ⟨⟨vH, rfl, ho0⟩, hb⟩
  have ho : OE w13 _ vH LL := ho0
  clear ho0
  obtain ⟨vaH, vcH, rfl⟩ := ho.reads.shape
  have szw := HB.out.size
  have oldS := HOS.out.low
  have oldG := HOG.out.low
  have oldu := HOu.out.low
  have hsz := hb.size
  have APSH := Lib.hid (show ∀ k, (Value.slice vaS LL.length vcS).ownBlock = some k → ¬ (Value.slice vaH LL.length vcH).ownBlock = some k from fun k h1 h2 => by have e1 := (oldS k h1).2; have e2 := (ho.low k h2).1; omega)
  have APGH := Lib.hid (show ∀ k, (Value.slice vaG LL.length vcG).ownBlock = some k → ¬ (Value.slice vaH LL.length vcH).ownBlock = some k from fun k h1 h2 => by have e1 := (oldG k h1).2; have e2 := (ho.low k h2).1; omega)
  have APuH := Lib.hid (show ∀ k, (Value.slice vau SA.length vcu).ownBlock = some k → ¬ (Value.slice vaH LL.length vcH).ownBlock = some k from fun k h1 h2 => by have e1 := (oldu k h1).2; have e2 := (ho.low k h2).1; omega)
  have HOH := Lib.hid (ho.mono (base' := w.heap.size) szw)
  clear szw oldS oldG oldu
  clear ho hsz
  have HOS := Lib.hid (HOS.out.below hb)
  have HOG := Lib.hid (HOG.out.below hb)
  have HOu := Lib.hid (HOu.out.below hb)
  have HAa := Lib.hid (HAa.out.below (hb.mono HB.out.size))
  have HB := Lib.hid (HB.out.trans (hb.mono HB.out.size))
  clear hb
  go_wp2_with fail
  refine (eqEvents_same _ _ LL _ _ _ _ _ HOH.out.reads HOS.out.reads (Nat.le_refl _) (Nat.le_refl _) (by have := HLL.out; omega)).mono ?_
  rintro e w14 ⟨rfl, hb⟩
  have HOS := Lib.hid (HOS.out.below hb)
  have HOG := Lib.hid (HOG.out.below hb)
  have HOH := Lib.hid (HOH.out.below hb)
  have HAa := Lib.hid (HAa.out.below (hb.mono HB.out.size))
  have HB := Lib.hid (HB.out.trans (hb.mono HB.out.size))
  clear hb
  go_wp2_with fail
  refine (held_any _ LL.length _ _ _ HOG.out.reads (Nat.le_refl _) (by have := HLL.out; omega)).mono ?_
  rintro e w15 ⟨rfl, hb⟩
  have HOS := Lib.hid (HOS.out.below hb)
  have HOG := Lib.hid (HOG.out.below hb)
  have HOH := Lib.hid (HOH.out.below hb)
  have HAa := Lib.hid (HAa.out.below (hb.mono HB.out.size))
  have HB := Lib.hid (HB.out.trans (hb.mono HB.out.size))
  clear hb
  go_wp2
  go_ret
  exact ⟨rfl, HB.out⟩
theorem own : ownKnob Try.prog.godebug = none := by kernel_rfl
theorem laidOut : laidOutB Try.prog = true := by kernel_rfl
set_option maxRecDepth 100000 in
theorem lifted (os : Os) (started : os.Started) (H : Type) (enc : TypeId × Value → H) :
    ReturnsInHanded {} Try.checked os 8 .any (Rows.fnExactMuxAllSpec.pre6 enc Try.prog Try.f8 Rows.fnExactMuxAllRow.domain false) (Rows.fnExactMuxAllSpec.post enc Try.prog Try.f8 false true false false) := by
  refine returnsInHanded_of_change (C := Try.checked) own started (by kernel_rfl) Try.func8
    (ChangeSpec.witness6 (enc := enc) (C := Try.checked) false ⟨#[], #[.slice none 0 0], []⟩ 8 (by kernel_rfl) (by kernel_rfl) (by kernel_rfl) (by kernel_rfl)) ?_
  intro W base args ds gs before hval0 hW hcnd _
  have hval : ∀ (j : Nat) t v, Try.f8.params[j]? = some t → args[j]? = some v → Value.okWide Try.prog W .any base t v := hval0
  have hW' := hW
  obtain ⟨p, q, hA0, hV, rfl, hfz, hnd⟩ := hW
  have hA : DataW.TrodAll enc Try.prog W 0 (fun _ => true) true Try.f8.params.toList args.toList ds p := hA0
  rw [Try.params8] at hA hval
  obtain ⟨v0, vs0, d0, ds0, p0, q0, hargs, rfl, rfl, h0, r0⟩ := trodAll_cons hA
  obtain ⟨rfl, rfl, rfl⟩ := trodAll_nil r0
  obtain rfl : args = #[v0] := by cases args; simp_all
  obtain ⟨rfl, rfl⟩ := trodVars_none hV
  obtain ⟨a0, len0, cap0, rfl⟩ := okWide_slice Try.underlying25 (hval 0 25 v0 rfl rfl)
  have k0 := h0
  have lt0 : ∀ x ∈ p0, x.block < W.heap.size := by obtain ⟨m, hm⟩ := k0; exact DataW.trod_lt m _ _ _ hm
  obtain ⟨z0, w0⟩ : ∃ zs, IsStrs W a0 len0 cap0 zs := by
    obtain ⟨fuel, hf⟩ := h0
    rcases open_strings Try.underlying25 Try.underlying9 (by kernel_rfl) hf with ⟨hcs, _⟩ | ⟨x, l, c, zs, hcs, _, hl, hm, hz, _, hcell, hwz⟩
    · simp [Value.cells] at hcs
      obtain ⟨rfl, rfl, rfl⟩ := hcs
      exact ⟨[], .inl ⟨rfl, rfl, rfl, rfl⟩⟩
    · simp [Value.cells] at hcs
      obtain ⟨rfl, rfl, rfl⟩ := hcs
      exact ⟨zs, .inr ⟨_, rfl, hl, hm, by simpa using hz, hcell, hwz⟩⟩
  clear hA0 hval0
  refine (walk a0 len0 cap0 z0 W w0).mono fun e W' ⟨he, bel⟩ => ?_
  subst he
  exact ⟨_, rfl, _, _, _, [], _, [], hW', trodAll_mk1 (shut_bool Try.underlying4 _), (trodAll_cons_mk (Below.trod laidOut (by kernel_rfl) (of_decide_eq_true (by kernel_rfl)) k0 bel lt0) trodAll_mk0), rfl, bel.frame _, fun h => by cases h⟩
theorem over : Rows.fnExactMuxAllRow.holds Try.pinned (OpenSpec.ofChange Rows.fnExactMuxAllSpec) :=
  OpenClaim.holds_of_wide 8 Try.f8 rfl rfl rfl rfl rfl rfl rfl ⟨rfl, rfl, rfl, rfl, rfl⟩ rfl rfl rfl rfl rfl (by kernel_rfl) Try.func8 (by kernel_rfl)
    (of_decide_eq_true (by kernel_rfl)) (by unfold Func.isWrapper; first | (rw [if_pos (by decide +kernel)]; kernel_rfl) | (rw [if_neg (by decide +kernel)]; exact ⟨rfl, rfl⟩))
    (fun os started H enc _ => lifted os started H enc)
theorem proved : Rows.FnExactMuxAllSaid := over
end Go.Proofs.Ytplaagkcamjemaa.fnExactMuxAll
