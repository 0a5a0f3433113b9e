/- FnExactMuxOk: MuxOk of the program answers as the model's, at every Mux, and writes into none. No condition. -/
import Derived.Test.YtiffeddeobhndaaKitA
import Derived.Test.YtiffeddeobhndaaMxN
namespace Go.Proofs.Ytiffeddeobhndaa.fnExactMuxOk
open Go.ChangeShapes Go.WideShapes Go.ChangeAt Go.RowKit
open Go.ChangeMaps (open_string shut_string)
set_option linter.unusedVariables false
set_option maxRecDepth 100000 in
set_option maxHeartbeats 8000000 in
theorem walk (a0 : Option Addr) (len0 cap0 : Nat) (z0 : List ByteArray) (w : World) (w0 : IsStrs w a0 len0 cap0 z0) :
    Calls Try.prog 8 #[.agg #[.slice a0 len0 cap0]] w fun e w' => e = .returned (.bool true) ∧ Below w.heap.size w w' := by
  obtain ⟨hr, hlen, hz⟩ := RS.of_arg w0
  have hw0 : len0 ≤ maxLen := by
    rcases w0 with ⟨_, rfl, _⟩ | ⟨x, _, h1, h2, _⟩
    · exact Nat.zero_le _
    · omega
  generalize z0.take len0 = SS at hr hlen hz
  subst hlen
  have HAa := Lib.hid hr
  have HMZ := Lib.hid hz
  clear w0 hr hz
  have HB := Lib.hid (Below.refl w.heap.size w)
  have hzm := zero_mux
  go_enter Try.func8, Try.ntmps8
  have hbx := (Below.refl _ w).alloc (Nat.le_refl _) (.cells #[(.slice a0 SS.length cap0)] 52)
  have HKa := Lib.hid (BK.new w #[(.slice a0 SS.length cap0)] 52)
  have HAa := Lib.hid (HAa.out.below (hbx.mono HB.out.size))
  have HB := Lib.hid (HB.out.trans (hbx.mono HB.out.size))
  clear hbx
  have ca := HKa.out.cell (i := 0) rfl
  go_wp2_with fail
  clear ca
  refine (szMux_any _ SS _ _ HAa.out HB.out.size hw0 HMZ.out).mono ?_
  rintro e w1 ⟨x, rfl, hb, hx⟩
  have HAa := Lib.hid (HAa.out.below (hb.mono HB.out.size))
  have HKa := Lib.hid (HKa.out.from hb)
  have HB := Lib.hid (HB.out.trans (hb.mono HB.out.size))
  clear hb
  rcases hx with rfl | ⟨hx0, hl, hzs⟩
  · go_wp2
    go_ret
    exact ⟨rfl, HB.out⟩
  have HLEN := Lib.hid hl
  have HZS := Lib.hid hzs
  clear hl hzs
  have ca := HKa.out.cell (i := 0) rfl
  go_wp2_with fail
  clear ca
  refine (toMux_any _ SS _ _ HAa.out HB.out.size HLEN.out).mono ?_
  rintro e w2 ⟨⟨v1, rfl, ho⟩, hb⟩
  obtain ⟨va1, vc1, rfl⟩ := ho.reads.shape
  have szw := HB.out.size
  have hsz := hb.size
  have HO1 := Lib.hid (ho.mono (base' := w.heap.size) szw)
  clear szw
  clear ho hsz
  have HAa := Lib.hid (HAa.out.below (hb.mono HB.out.size))
  have HKa := Lib.hid (HKa.out.from hb)
  have HB := Lib.hid (HB.out.trans (hb.mono HB.out.size))
  clear hb
  have ca := HKa.out.cell (i := 0) rfl
  go_wp2_with fail
  clear ca
  refine (specMuxOk_any _ SS _ _ HO1.out.reads (Nat.le_refl _) HLEN.out).mono ?_
  rintro e w3 ⟨rfl, hb⟩
  have HO1 := Lib.hid (HO1.out.below hb)
  have HAa := Lib.hid (HAa.out.below (hb.mono HB.out.size))
  have HKa := Lib.hid (HKa.out.from hb)
  have HB := Lib.hid (HB.out.trans (hb.mono HB.out.size))
  clear hb
  have ca := HKa.out.cell (i := 0) rfl
  go_wp2_with fail
  clear ca
  refine (toMux_any _ SS _ _ HAa.out HB.out.size HLEN.out).mono ?_
  rintro e w4 ⟨⟨v2, rfl, ho⟩, hb⟩
  obtain ⟨va2, vc2, rfl⟩ := ho.reads.shape
  have szw := HB.out.size
  have old1 := HO1.out.low
  have hsz := hb.size
  have AP12 := Lib.hid (show ∀ k, (Value.slice va1 SS.length vc1).ownBlock = some k → ¬ (Value.slice va2 SS.length vc2).ownBlock = some k from fun k h1 h2 => by have e1 := (old1 k h1).2; have e2 := (ho.low k h2).1; omega)
  have HO2 := Lib.hid (ho.mono (base' := w.heap.size) szw)
  clear szw old1
  clear ho hsz
  have HO1 := Lib.hid (HO1.out.below hb)
  have HAa := Lib.hid (HAa.out.below (hb.mono HB.out.size))
  have HKa := Lib.hid (HKa.out.from hb)
  have HB := Lib.hid (HB.out.trans (hb.mono HB.out.size))
  clear hb
  have hbx := (Below.refl _ w4).alloc (Nat.le_refl _) (.cells #[(.slice va2 SS.length vc2)] 35)
  have HK2 := Lib.hid (BK.new w4 #[(.slice va2 SS.length vc2)] 35)
  have HO1 := Lib.hid (HO1.out.below hbx)
  have HO2 := Lib.hid (HO2.out.below hbx)
  have HAa := Lib.hid (HAa.out.below (hbx.mono HB.out.size))
  have HKa := Lib.hid (HKa.out.from hbx)
  have HB := Lib.hid (HB.out.trans (hbx.mono HB.out.size))
  clear hbx
  have ca := HKa.out.cell (i := 0) rfl
  have c2 := HK2.out.cell (i := 0) rfl
  go_wp2_with fail
  clear ca
  clear c2
  refine (implMuxOk_any _ SS _ _ HO2.out.reads (Nat.le_refl _) HLEN.out).mono ?_
  rintro e w5 ⟨rfl, hb⟩
  have HO1 := Lib.hid (HO1.out.below hb)
  have HO2 := Lib.hid (HO2.out.below hb)
  have HAa := Lib.hid (HAa.out.below (hb.mono HB.out.size))
  have HKa := Lib.hid (HKa.out.from hb)
  have HK2 := Lib.hid (HK2.out.from hb)
  have HB := Lib.hid (HB.out.trans (hb.mono HB.out.size))
  clear hb
  generalize muxSB SS = bb
  go_wp2
  have hS := And.intro (HK2.out.cell (i := 0) rfl) (HKa.out.cell (i := 0) rfl)
  have HO1 := Lib.hid HO1.out.drew
  have HO2 := Lib.hid HO2.out.drew
  have HAa := Lib.hid HAa.out.drew
  have HKa := Lib.hid HKa.out.drew
  have HK2 := Lib.hid HK2.out.drew
  have HB := Lib.hid HB.out.drew
  refine wp_region_held_drew (S := (fun wx => wx.cell? ⟨w4.heap.size, 0, none⟩ = some (Value.slice va2 SS.length vc2) ∧ wx.cell? ⟨w.heap.size, 0, none⟩ = some (Value.slice a0 SS.length cap0))) (by kernel_rfl) hS (fun hHeld => ?_)
  refine wpAnyH_take (i := 0) (v := ?_) rfl (by kernel_rfl) (by kernel_rfl) (by kernel_rfl) (fun _ _ _ h => h) (Or.inl ⟨by rfl, ?_⟩) (by assumption) ?_
  rotate_left
  · intro wq hSw
    (try dsimp only at hSw)
    (try simp only [List.getElem_toArray, List.getElem_cons_zero])
    go_simp
    (try with_reducible rfl)
  simp only [Act.put, List.getElem_toArray, List.getElem_cons_zero, List.setIfInBounds_toArray, List.set_cons_zero, List.set_cons_succ]
  refine wpAnyH_take (i := 1) (v := ?_) rfl (by kernel_rfl) (by kernel_rfl) (by kernel_rfl) (fun _ _ _ h => h) (Or.inl ⟨by rfl, ?_⟩) (by assumption) ?_
  rotate_left
  · intro wq hSw
    (try dsimp only at hSw)
    (try simp only [List.getElem_toArray, List.getElem_cons_succ, List.getElem_cons_zero])
    go_simp
    (try with_reducible rfl)
  simp only [Act.put, List.getElem_toArray, List.getElem_cons_succ, List.getElem_cons_zero, List.setIfInBounds_toArray, List.set_cons_zero, List.set_cons_succ]
  refine wpAnyH_ready (rs := [2]) (by kernel_rfl) (by simp) ?_
  refine AllReadyH.cons rfl (fun K hK => ?_) AllReadyH.nil
  (try simp only [List.getElem_toArray, List.getElem_cons_succ, List.getElem_cons_zero])
  go_simp
  go_at_call 38
  refine (toMux_any _ SS _ _ HAa.out HB.out.size HLEN.out).mono ?_
  rintro e y1 ⟨⟨v9, rfl, ho⟩, hb⟩
  obtain ⟨va9, vc9, rfl⟩ := ho.reads.shape
  have szw := HB.out.size
  have old1 := HO1.out.low
  have old2 := HO2.out.low
  have hsz := hb.size
  have AP19 := Lib.hid (show ∀ k, (Value.slice va1 SS.length vc1).ownBlock = some k → ¬ (Value.slice va9 SS.length vc9).ownBlock = some k from fun k h1 h2 => by have e1 := (old1 k h1).2; have e2 := (ho.low k h2).1; omega)
  have AP29 := Lib.hid (show ∀ k, (Value.slice va2 SS.length vc2).ownBlock = some k → ¬ (Value.slice va9 SS.length vc9).ownBlock = some k from fun k h1 h2 => by have e1 := (old2 k h1).2; have e2 := (ho.low k h2).1; omega)
  have HO9 := Lib.hid (ho.mono (base' := w.heap.size) szw)
  clear szw old1 old2
  clear ho hsz
  have HO1 := Lib.hid (HO1.out.below hb)
  have HO2 := Lib.hid (HO2.out.below hb)
  have HAa := Lib.hid (HAa.out.below (hb.mono HB.out.size))
  have HKa := Lib.hid (HKa.out.from hb)
  have HK2 := Lib.hid (HK2.out.from hb)
  have HB := Lib.hid (HB.out.trans (hb.mono HB.out.size))
  clear hb
  have hS := And.intro (HK2.out.cell (i := 0) rfl) (HKa.out.cell (i := 0) rfl)
  refine hK.out _ _ hS (fun hHeld => ?_)
  clear hK K
  refine wpAnyH_ready (rs := [3]) (by kernel_rfl) (by simp) ?_
  refine AllReadyH.cons rfl (fun K hK => ?_) AllReadyH.nil
  (try simp only [List.getElem_toArray, List.getElem_cons_succ, List.getElem_cons_zero])
  go_simp
  go_at_call 39
  refine (eqMux_same _ _ SS _ _ _ HO2.out.reads HO9.out.reads (Nat.le_refl _) (Nat.le_refl _) HLEN.out).mono ?_
  rintro e y2 ⟨rfl, hb⟩
  have HO1 := Lib.hid (HO1.out.below hb)
  have HO2 := Lib.hid (HO2.out.below hb)
  have HO9 := Lib.hid (HO9.out.below hb)
  have HAa := Lib.hid (HAa.out.below (hb.mono HB.out.size))
  have HKa := Lib.hid (HKa.out.from hb)
  have HK2 := Lib.hid (HK2.out.from hb)
  have HB := Lib.hid (HB.out.trans (hb.mono HB.out.size))
  clear hb
  have hS := And.intro (HK2.out.cell (i := 0) rfl) (HKa.out.cell (i := 0) rfl)
  refine hK.out _ _ hS (fun hHeld => ?_)
  clear hK K
  refine wpAnyH_take (i := 4) (v := ?_) rfl (by kernel_rfl) (by kernel_rfl) (by kernel_rfl) (fun _ _ _ h => h) (Or.inl ⟨by rfl, ?_⟩) (by assumption) ?_
  rotate_left
  · intro wq hSw
    (try dsimp only at hSw)
    (try simp only [List.getElem_toArray, List.getElem_cons_succ, List.getElem_cons_zero])
    go_simp
    (try with_reducible rfl)
  simp only [Act.put, List.getElem_toArray, List.getElem_cons_succ, List.getElem_cons_zero, List.setIfInBounds_toArray, List.set_cons_zero, List.set_cons_succ]
  refine wpAnyH_done (by kernel_rfl) ?_ _
  clear hHeld hS
  go_wp2
  go_ret
  exact ⟨by simp, HB.out⟩
theorem own : ownKnob Try.prog.godebug = none := by kernel_rfl
theorem laidOut : laidOutB Try.prog = true := by kernel_rfl
set_option maxRecDepth 100000 in
theorem lifted (os : Os) (started : os.Started) (H : Type) (enc : TypeId × Value → H) :
    ReturnsInHanded {} Try.checked os 8 .any (Rows.fnExactMuxOkSpec.pre6 enc Try.prog Try.f8 Rows.fnExactMuxOkRow.domain false) (Rows.fnExactMuxOkSpec.post enc Try.prog Try.f8 false true false false) := by
  refine returnsInHanded_of_change (C := Try.checked) own started (by kernel_rfl) Try.func8
    (ChangeSpec.witness6 (enc := enc) (C := Try.checked) false ⟨#[], #[.agg #[.slice none 0 0]], []⟩ 8 (by kernel_rfl) (by kernel_rfl) (by kernel_rfl) (by kernel_rfl)) ?_
  intro W base args ds gs before hval0 hW hcnd _
  have hval : ∀ (j : Nat) t v, Try.f8.params[j]? = some t → args[j]? = some v → Value.okWide Try.prog W .any base t v := hval0
  have hW' := hW
  obtain ⟨p, q, hA0, hV, rfl, hfz, hnd⟩ := hW
  have hA : DataW.TrodAll enc Try.prog W 0 (fun _ => true) true Try.f8.params.toList args.toList ds p := hA0
  rw [Try.params8] at hA hval
  obtain ⟨v0, vs0, d0, ds0, p0, q0, hargs, rfl, rfl, h0, r0⟩ := trodAll_cons hA
  obtain ⟨rfl, rfl, rfl⟩ := trodAll_nil r0
  obtain rfl : args = #[v0] := by cases args; simp_all
  obtain ⟨rfl, rfl⟩ := trodVars_none hV
  have k0 := h0
  have lt0 : ∀ x ∈ p0, x.block < W.heap.size := by obtain ⟨m, hm⟩ := k0; exact DataW.trod_lt m _ _ _ hm
  obtain ⟨a0, len0, cap0, z0, hmux0, w0⟩ := isMux_open (hval 0 52 v0 rfl rfl) h0
  subst hmux0
  clear hA0 hval0
  refine (walk a0 len0 cap0 z0 W w0).mono fun e W' ⟨he, bel⟩ => ?_
  subst he
  exact ⟨_, rfl, _, _, _, [], _, [], hW', trodAll_mk1 (shut_bool Try.underlying4 _), (trodAll_cons_mk (Below.trod laidOut (by kernel_rfl) (of_decide_eq_true (by kernel_rfl)) k0 bel lt0) trodAll_mk0), rfl, bel.frame _, fun h => by cases h⟩
theorem over : Rows.fnExactMuxOkRow.holds Try.pinned (OpenSpec.ofChange Rows.fnExactMuxOkSpec) :=
  OpenClaim.holds_of_wide 8 Try.f8 rfl rfl rfl rfl rfl rfl rfl ⟨rfl, rfl, rfl, rfl, rfl⟩ rfl rfl rfl rfl rfl (by kernel_rfl) Try.func8 (by kernel_rfl)
    (of_decide_eq_true (by kernel_rfl)) (by unfold Func.isWrapper; first | (rw [if_pos (by decide +kernel)]; kernel_rfl) | (rw [if_neg (by decide +kernel)]; exact ⟨rfl, rfl⟩))
    (fun os started H enc _ => lifted os started H enc)
theorem proved : Rows.FnExactMuxOkSaid := over
end Go.Proofs.Ytiffeddeobhndaa.fnExactMuxOk
