/- FnExactMuxNew: MuxNew of the program answers as the model's; its answer owns its memory. No condition. -/
import Derived.Test.YtiffeddeobhndaaKitA
import Derived.Test.YtiffeddeobhndaaMxN
namespace Go.Proofs.Ytiffeddeobhndaa.fnExactMuxNew
open Go.ChangeShapes Go.WideShapes Go.ChangeAt Go.RowKit
open Go.ChangeMaps (open_string shut_string)
set_option linter.unusedVariables false
set_option maxRecDepth 100000 in
set_option maxHeartbeats 8000000 in
theorem walk  (w : World)  :
    Calls Try.prog 9 #[] w fun e w' => e = .returned (.bool true) ∧ Below w.heap.size w w' := by
  obtain ⟨SS, hSS⟩ : ∃ SS, SS = strs mux0 := ⟨_, rfl⟩
  have HLEN := Lib.hid (show SS.length ≤ 1000 by rw [hSS]; decide)
  have HSP := Lib.hid (show ∀ W, Calls Try.prog 30 #[] W (fun e w' => (∃ v, e = .returned (.agg #[v]) ∧ OS w' W.heap.size v SS) ∧ Below W.heap.size W w') from fun W => by rw [hSS]; exact specNew_any W)
  have HIM := Lib.hid (show ∀ W, Calls Try.prog 29 #[] W (fun e w' => (∃ v, e = .returned (.agg #[v]) ∧ OS w' W.heap.size v SS) ∧ Below W.heap.size W w') from fun W => by rw [hSS]; exact implNew_any W)
  clear hSS
  have hzm := zero_mux
  have HB := Lib.hid (Below.refl w.heap.size w)
  go_enter Try.func9, Try.ntmps9
  go_wp2_with fail
  refine (HSP.out _).mono ?_
  rintro e w1 ⟨⟨v1, rfl, ho⟩, hb⟩
  obtain ⟨va1, vc1, rfl⟩ := ho.reads.shape
  have szw := HB.out.size
  have hsz := hb.size
  have HO1 := Lib.hid (ho.mono (base' := w.heap.size) szw)
  clear szw
  clear ho hsz
  have HB := Lib.hid (HB.out.trans (hb.mono HB.out.size))
  clear hb
  have hbx := (Below.refl _ w1).alloc (Nat.le_refl _) (.cells #[(.slice va1 SS.length vc1)] 35)
  have HK1 := Lib.hid (BK.new w1 #[(.slice va1 SS.length vc1)] 35)
  have HO1 := Lib.hid (HO1.out.below hbx)
  have HB := Lib.hid (HB.out.trans (hbx.mono HB.out.size))
  clear hbx
  have c1 := HK1.out.cell (i := 0) rfl
  go_wp2_with fail
  clear c1
  refine (HIM.out _).mono ?_
  rintro e w2 ⟨⟨v2, rfl, ho⟩, hb⟩
  obtain ⟨va2, vc2, rfl⟩ := ho.reads.shape
  have szw := HB.out.size
  have old1 := HO1.out.low
  have hsz := hb.size
  have AP12 := Lib.hid (show ∀ k, (Value.slice va1 SS.length vc1).ownBlock = some k → ¬ (Value.slice va2 SS.length vc2).ownBlock = some k from fun k h1 h2 => by have e1 := (old1 k h1).2; have e2 := (ho.low k h2).1; omega)
  have HO2 := Lib.hid (ho.mono (base' := w.heap.size) szw)
  clear szw old1
  clear ho hsz
  have HO1 := Lib.hid (HO1.out.below hb)
  have HK1 := Lib.hid (HK1.out.from hb)
  have HB := Lib.hid (HB.out.trans (hb.mono HB.out.size))
  clear hb
  have hbx := (Below.refl _ w2).alloc (Nat.le_refl _) (.cells #[(.slice va2 SS.length vc2)] 35)
  have HK2 := Lib.hid (BK.new w2 #[(.slice va2 SS.length vc2)] 35)
  have HO1 := Lib.hid (HO1.out.below hbx)
  have HO2 := Lib.hid (HO2.out.below hbx)
  have HK1 := Lib.hid (HK1.out.from hbx)
  have HB := Lib.hid (HB.out.trans (hbx.mono HB.out.size))
  clear hbx
  have c1 := HK1.out.cell (i := 0) rfl
  have c2 := HK2.out.cell (i := 0) rfl
  go_wp2_with fail
  clear c1
  clear c2
  refine (eqMux_same _ _ SS _ _ _ HO2.out.reads HO1.out.reads (Nat.le_refl _) (Nat.le_refl _) (by have := HLEN.out; omega)).mono ?_
  rintro e w3 ⟨rfl, hb⟩
  have HO1 := Lib.hid (HO1.out.below hb)
  have HO2 := Lib.hid (HO2.out.below hb)
  have HK1 := Lib.hid (HK1.out.from hb)
  have HK2 := Lib.hid (HK2.out.from hb)
  have HB := Lib.hid (HB.out.trans (hb.mono HB.out.size))
  clear hb
  have c1 := HK1.out.cell (i := 0) rfl
  have c2 := HK2.out.cell (i := 0) rfl
  go_wp2_with fail
  clear c1
  clear c2
  refine (markMux_any _ SS 1 _ _ HO2.out (by omega) (by have := HLEN.out; omega)).mono ?_
  rintro e w4 ⟨rfl, hm, hg⟩
  have HO1 := Lib.hid (HO1.out.kept hg (apart_of (fun k h1 h2 => AP12.out k h1 h2)))
  have HK1 := Lib.hid (HK1.out.grown hg (fun e => HO2.out.not_box HK1.out (by decide) e))
  have HK2 := Lib.hid (HK2.out.grown hg (fun e => HO2.out.not_box HK2.out (by decide) e))
  have HB := Lib.hid (HB.out.grown hg HB.out.size (fun k hk => (HO2.out.low k hk).1))
  have HO2 := Lib.hid hm
  clear hm hg
  have c1 := HK1.out.cell (i := 0) rfl
  have c2 := HK2.out.cell (i := 0) rfl
  go_wp2_with fail
  clear c1
  clear c2
  refine (heldMux_any _ 1 SS.length _ _ HO2.out.reads (Nat.le_refl _) (by omega) (by have := HLEN.out; omega)).mono ?_
  rintro e w5 ⟨rfl, hb⟩
  have HO1 := Lib.hid (HO1.out.below hb)
  have HO2 := Lib.hid (HO2.out.below hb)
  have HK1 := Lib.hid (HK1.out.from hb)
  have HK2 := Lib.hid (HK2.out.from hb)
  have HB := Lib.hid (HB.out.trans (hb.mono HB.out.size))
  clear hb
  have hpos : ((1 + SS.length : Nat) : Int) = ((SS.length : Nat) : Int) + 1 := by omega
  rw [hpos]
  have c1 := HK1.out.cell (i := 0) rfl
  have c2 := HK2.out.cell (i := 0) rfl
  go_wp2_with fail
  clear c1
  clear c2
  refine (HIM.out _).mono ?_
  rintro e w6 ⟨⟨v6, rfl, ho⟩, hb⟩
  obtain ⟨va6, vc6, rfl⟩ := ho.reads.shape
  have szw := HB.out.size
  have old1 := HO1.out.low
  have old2 := HO2.out.low
  have hsz := hb.size
  have AP16 := Lib.hid (show ∀ k, (Value.slice va1 SS.length vc1).ownBlock = some k → ¬ (Value.slice va6 SS.length vc6).ownBlock = some k from fun k h1 h2 => by have e1 := (old1 k h1).2; have e2 := (ho.low k h2).1; omega)
  have AP26 := Lib.hid (show ∀ k, (Value.slice va2 SS.length vc2).ownBlock = some k → ¬ (Value.slice va6 SS.length vc6).ownBlock = some k from fun k h1 h2 => by have e1 := (old2 k h1).2; have e2 := (ho.low k h2).1; omega)
  have HO6 := Lib.hid (ho.mono (base' := w.heap.size) szw)
  clear szw old1 old2
  clear ho hsz
  have HO1 := Lib.hid (HO1.out.below hb)
  have HO2 := Lib.hid (HO2.out.below hb)
  have HK1 := Lib.hid (HK1.out.from hb)
  have HK2 := Lib.hid (HK2.out.from hb)
  have HB := Lib.hid (HB.out.trans (hb.mono HB.out.size))
  clear hb
  have hbx := (Below.refl _ w6).alloc (Nat.le_refl _) (.cells #[(.slice va6 SS.length vc6)] 35)
  have HK6 := Lib.hid (BK.new w6 #[(.slice va6 SS.length vc6)] 35)
  have HO1 := Lib.hid (HO1.out.below hbx)
  have HO2 := Lib.hid (HO2.out.below hbx)
  have HO6 := Lib.hid (HO6.out.below hbx)
  have HK1 := Lib.hid (HK1.out.from hbx)
  have HK2 := Lib.hid (HK2.out.from hbx)
  have HB := Lib.hid (HB.out.trans (hbx.mono HB.out.size))
  clear hbx
  have c1 := HK1.out.cell (i := 0) rfl
  have c2 := HK2.out.cell (i := 0) rfl
  have c6 := HK6.out.cell (i := 0) rfl
  go_wp2_with fail
  clear c1
  clear c2
  clear c6
  refine (eqMux_same _ _ SS _ _ _ HO6.out.reads HO1.out.reads (Nat.le_refl _) (Nat.le_refl _) (by have := HLEN.out; omega)).mono ?_
  rintro e w7 ⟨rfl, hb⟩
  have HO1 := Lib.hid (HO1.out.below hb)
  have HO2 := Lib.hid (HO2.out.below hb)
  have HO6 := Lib.hid (HO6.out.below hb)
  have HK1 := Lib.hid (HK1.out.from hb)
  have HK2 := Lib.hid (HK2.out.from hb)
  have HK6 := Lib.hid (HK6.out.from hb)
  have HB := Lib.hid (HB.out.trans (hb.mono HB.out.size))
  clear hb
  have c1 := HK1.out.cell (i := 0) rfl
  have c2 := HK2.out.cell (i := 0) rfl
  have c6 := HK6.out.cell (i := 0) rfl
  go_wp2_with fail
  clear c1
  clear c2
  clear c6
  refine (heldMux_any _ 1 SS.length _ _ HO2.out.reads (Nat.le_refl _) (by omega) (by have := HLEN.out; omega)).mono ?_
  rintro e w8 ⟨rfl, hb⟩
  have HO1 := Lib.hid (HO1.out.below hb)
  have HO2 := Lib.hid (HO2.out.below hb)
  have HO6 := Lib.hid (HO6.out.below hb)
  have HK1 := Lib.hid (HK1.out.from hb)
  have HK2 := Lib.hid (HK2.out.from hb)
  have HK6 := Lib.hid (HK6.out.from hb)
  have HB := Lib.hid (HB.out.trans (hb.mono HB.out.size))
  clear hb
  rw [hpos]
  go_wp2
  go_ret
  exact ⟨rfl, HB.out⟩
theorem own : ownKnob Try.prog.godebug = none := by kernel_rfl
theorem laidOut : laidOutB Try.prog = true := by kernel_rfl
set_option maxRecDepth 100000 in
theorem lifted (os : Os) (started : os.Started) (H : Type) (enc : TypeId × Value → H) :
    ReturnsInHanded {} Try.checked os 9 .any (Rows.fnExactMuxNewSpec.pre6 enc Try.prog Try.f9 Rows.fnExactMuxNewRow.domain false) (Rows.fnExactMuxNewSpec.post enc Try.prog Try.f9 false true false false) := by
  refine returnsInHanded_of_change (C := Try.checked) own started (by kernel_rfl) Try.func9
    (ChangeSpec.witness6 (enc := enc) (C := Try.checked) false ⟨#[], #[], []⟩ 8 (by kernel_rfl) (by kernel_rfl) (by kernel_rfl) (by kernel_rfl)) ?_
  intro W base args ds gs before hval0 hW hcnd _
  have hval : ∀ (j : Nat) t v, Try.f9.params[j]? = some t → args[j]? = some v → Value.okWide Try.prog W .any base t v := hval0
  have hW' := hW
  obtain ⟨p, q, hA0, hV, rfl, hfz, hnd⟩ := hW
  have hA : DataW.TrodAll enc Try.prog W 0 (fun _ => true) true Try.f9.params.toList args.toList ds p := hA0
  rw [Try.params9] at hA hval
  obtain ⟨hargs, rfl, rfl⟩ := trodAll_nil hA
  obtain rfl : args = #[] := by cases args; simp_all
  obtain ⟨rfl, rfl⟩ := trodVars_none hV
  clear hA0 hval0
  refine (walk  W ).mono fun e W' ⟨he, bel⟩ => ?_
  subst he
  exact ⟨_, rfl, _, _, _, [], _, [], hW', trodAll_mk1 (shut_bool Try.underlying4 _), trodAll_mk0, rfl, bel.frame _, fun h => by cases h⟩
theorem over : Rows.fnExactMuxNewRow.holds Try.pinned (OpenSpec.ofChange Rows.fnExactMuxNewSpec) :=
  OpenClaim.holds_of_wide 9 Try.f9 rfl rfl rfl rfl rfl rfl rfl ⟨rfl, rfl, rfl, rfl, rfl⟩ rfl rfl rfl rfl rfl (by kernel_rfl) Try.func9 (by kernel_rfl)
    (of_decide_eq_true (by kernel_rfl)) (by unfold Func.isWrapper; first | (rw [if_pos (by decide +kernel)]; kernel_rfl) | (rw [if_neg (by decide +kernel)]; exact ⟨rfl, rfl⟩))
    (fun os started H enc _ => lifted os started H enc)
theorem proved : Rows.FnExactMuxNewSaid := over
end Go.Proofs.Ytiffeddeobhndaa.fnExactMuxNew
