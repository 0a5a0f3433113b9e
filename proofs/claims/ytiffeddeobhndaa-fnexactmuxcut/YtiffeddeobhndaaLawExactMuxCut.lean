/- FnExactMuxCut: MuxCut of the program answers as the model's, at every channel, string and size; its answer owns its memory. No condition. -/
import Derived.Test.YtiffeddeobhndaaKitA
import Derived.Test.YtiffeddeobhndaaMxB
import Derived.Test.YtiffeddeobhndaaTMarkS
namespace Go.Proofs.Ytiffeddeobhndaa.fnExactMuxCut
open Go.ChangeShapes Go.WideShapes Go.ChangeAt Go.RowKit
open Go.ChangeMaps (open_string shut_string)
set_option linter.unusedVariables false
set_option maxRecDepth 100000 in
set_option maxHeartbeats 8000000 in
theorem walk (a0 : Int) (s1 : ByteArray) (a2 : Int) (w : World) (w0 : (Lit.int .i64 a0).wf = true) (w1 : s1.size ≤ maxLen) (w2 : (Lit.int .i64 a2).wf = true) :
    Calls Try.prog 10 #[.int .i64 a0, .string s1, .int .i64 a2] w fun e w' => e = .returned (.bool true) ∧ Below w.heap.size w w' := by
  by_cases hbig : 1048576 < s1.size
  · go_enter Try.func10, Try.ntmps10
    go_wp2
    go_ret
    exact ⟨rfl, Below.refl _ _⟩
  obtain ⟨SS, hSS⟩ : ∃ SS, SS = strs (cutM a0 s1.data.toList a2) := ⟨_, rfl⟩
  have HLEN := Lib.hid (show SS.length ≤ 1048576 by rw [hSS, strs_len]; exact Nat.le_trans (cutM_len _ _ _) (by decide))
  have HSP := Lib.hid (show ∀ W, Calls Try.prog 18 #[.int .i64 a0, .string s1, .int .i64 a2] W (fun e w' => (∃ v, e = .returned v ∧ OS w' W.heap.size v SS) ∧ Below W.heap.size W w') from fun W => by rw [hSS]; exact specMuxCut_any a0 s1 a2 W)
  have HIM := Lib.hid (show ∀ W, Calls Try.prog 16 #[.int .i64 a0, .string s1, .int .i64 a2] W (fun e w' => (∃ v, e = .returned v ∧ OS w' W.heap.size v SS) ∧ Below W.heap.size W w') from fun W => by rw [hSS]; exact implMuxCut_any a0 s1 a2 W)
  clear hSS
  go_enter Try.func10, Try.ntmps10
  go_wp2_with fail
  refine (HSP.out _).mono ?_
  rintro e w1 ⟨⟨v1, rfl, ho1⟩, hb1⟩
  have HR1 := Lib.hid ho1.reads
  have HB1 := Lib.hid hb1
  clear ho1 hb1
  go_wp2_with fail
  refine (HIM.out _).mono ?_
  rintro e w2 ⟨⟨v2, rfl, ho2⟩, hb2⟩
  have HR1 := Lib.hid (HR1.out.below hb2)
  have HO2 := Lib.hid ho2
  have HBB := Lib.hid hb2
  clear ho2 hb2
  go_wp2_with fail
  refine (eqStrs_same v2 v1 SS _ _ _ HO2.out.reads HR1.out (Nat.le_refl _) HBB.out.size HLEN.out).mono ?_
  rintro e w3 ⟨rfl, hb3⟩
  have HR1 := Lib.hid (HR1.out.below (hb3.mono HBB.out.size))
  have HO2 := Lib.hid (HO2.out.below hb3)
  have HBB := Lib.hid (HBB.out.trans (hb3.mono HBB.out.size))
  clear hb3
  go_wp2_with fail
  refine (markS_any v2 SS 1 _ _ HO2.out (by omega) (by have := HLEN.out; omega)).mono ?_
  rintro e w4 ⟨rfl, hm4, hg4⟩
  have hbb4 := HBB.out.grown hg4 HBB.out.size (fun k hk => (HO2.out.low k hk).1)
  have HR1 := Lib.hid (HR1.out.below (Below.grown (Below.refl _ w3) hg4 HBB.out.size (fun k hk => (HO2.out.low k hk).1)))
  have HO2 := Lib.hid hm4
  have HBB := Lib.hid hbb4
  clear hm4 hg4 hbb4
  go_wp2_with fail
  refine (heldS_any v2 1 SS.length _ _ HO2.out.reads (Nat.le_refl _) (by omega) (by have := HLEN.out; omega)).mono ?_
  rintro e w5 ⟨rfl, hb5⟩
  have HR1 := Lib.hid (HR1.out.below (hb5.mono HBB.out.size))
  have HO2 := Lib.hid (HO2.out.below hb5)
  have HBB := Lib.hid (HBB.out.trans (hb5.mono HBB.out.size))
  clear hb5
  have hpos : ((1 + SS.length : Nat) : Int) = ((SS.length : Nat) : Int) + 1 := by omega
  rw [hpos]
  go_wp2_with fail
  refine (HIM.out _).mono ?_
  rintro e w6 ⟨⟨v6, rfl, ho6⟩, hb6⟩
  have HR1 := Lib.hid (HR1.out.below (hb6.mono HBB.out.size))
  have HO2 := Lib.hid (HO2.out.below hb6)
  have HBB := Lib.hid (HBB.out.trans (hb6.mono HBB.out.size))
  have HO6 := Lib.hid ho6
  clear ho6 hb6
  go_wp2_with fail
  refine (eqStrs_same v6 v1 SS _ _ _ (HO6.out.reads) HR1.out (Nat.le_refl _) HBB.out.size HLEN.out).mono ?_
  rintro e w7 ⟨rfl, hb7⟩
  have HR1 := Lib.hid (HR1.out.below (hb7.mono HBB.out.size))
  have HO2 := Lib.hid (HO2.out.below hb7)
  have HBB := Lib.hid (HBB.out.trans (hb7.mono HBB.out.size))
  clear hb7
  go_wp2_with fail
  refine (heldS_any v2 1 SS.length _ _ HO2.out.reads (Nat.le_refl _) (by omega) (by have := HLEN.out; omega)).mono ?_
  rintro e w8 ⟨rfl, hb8⟩
  have HR1 := Lib.hid (HR1.out.below (hb8.mono HBB.out.size))
  have HO2 := Lib.hid (HO2.out.below hb8)
  have HBB := Lib.hid (HBB.out.trans (hb8.mono HBB.out.size))
  clear hb8
  rw [hpos]
  go_wp2
  go_ret
  exact ⟨rfl, HB1.out.trans (HBB.out.mono HB1.out.size)⟩
theorem own : ownKnob Try.prog.godebug = none := by kernel_rfl
theorem laidOut : laidOutB Try.prog = true := by kernel_rfl
set_option maxRecDepth 100000 in
theorem lifted (os : Os) (started : os.Started) (H : Type) (enc : TypeId × Value → H) :
    ReturnsInHanded {} Try.checked os 10 .any (Rows.fnExactMuxCutSpec.pre6 enc Try.prog Try.f10 Rows.fnExactMuxCutRow.domain false) (Rows.fnExactMuxCutSpec.post enc Try.prog Try.f10 false true false false) := by
  refine returnsInHanded_of_change (C := Try.checked) own started (by kernel_rfl) Try.func10
    (ChangeSpec.witness6 (enc := enc) (C := Try.checked) false ⟨#[], #[.int .i64 0, .string .empty, .int .i64 0], []⟩ 8 (by kernel_rfl) (by kernel_rfl) (by kernel_rfl) (by kernel_rfl)) ?_
  intro W base args ds gs before hval0 hW hcnd _
  have hval : ∀ (j : Nat) t v, Try.f10.params[j]? = some t → args[j]? = some v → Value.okWide Try.prog W .any base t v := hval0
  have hW' := hW
  obtain ⟨p, q, hA0, hV, rfl, hfz, hnd⟩ := hW
  have hA : DataW.TrodAll enc Try.prog W 0 (fun _ => true) true Try.f10.params.toList args.toList ds p := hA0
  rw [Try.params10] at hA hval
  obtain ⟨v0, vs0, d0, ds0, p0, q0, hargs, rfl, rfl, h0, r0⟩ := trodAll_cons hA
  obtain ⟨v1, vs1, d1, ds1, p1, q1, rfl, rfl, rfl, h1, r1⟩ := trodAll_cons r0
  obtain ⟨v2, vs2, d2, ds2, p2, q2, rfl, rfl, rfl, h2, r2⟩ := trodAll_cons r1
  obtain ⟨rfl, rfl, rfl⟩ := trodAll_nil r2
  obtain rfl : args = #[v0, v1, v2] := by cases args; simp_all
  obtain ⟨rfl, rfl⟩ := trodVars_none hV
  obtain ⟨a0, rfl, rfl, rfl, w0⟩ := open_int Try.underlying3 (hval 0 3 v0 rfl rfl) h0
  obtain ⟨s1, rfl, rfl, rfl, w1⟩ := open_string Try.underlying9 (hval 1 9 v1 rfl rfl) h1
  obtain ⟨a2, rfl, rfl, rfl, w2⟩ := open_int Try.underlying3 (hval 2 3 v2 rfl rfl) h2
  clear hA0 hval0
  refine (walk a0 s1 a2 W w0 w1 w2).mono fun e W' ⟨he, bel⟩ => ?_
  subst he
  exact ⟨_, rfl, _, _, _, [], _, [], hW', trodAll_mk1 (shut_bool Try.underlying4 _), (trodAll_cons_mk (shut_int Try.underlying3 w0) (trodAll_cons_mk (shut_string Try.underlying9 w1) (trodAll_cons_mk (shut_int Try.underlying3 w2) trodAll_mk0))), rfl, bel.frame _, fun h => by cases h⟩
theorem over : Rows.fnExactMuxCutRow.holds Try.pinned (OpenSpec.ofChange Rows.fnExactMuxCutSpec) :=
  OpenClaim.holds_of_wide 10 Try.f10 rfl rfl rfl rfl rfl rfl rfl ⟨rfl, rfl, rfl, rfl, rfl⟩ rfl rfl rfl rfl rfl (by kernel_rfl) Try.func10 (by kernel_rfl)
    (of_decide_eq_true (by kernel_rfl)) (by unfold Func.isWrapper; first | (rw [if_pos (by decide +kernel)]; kernel_rfl) | (rw [if_neg (by decide +kernel)]; exact ⟨rfl, rfl⟩))
    (fun os started H enc _ => lifted os started H enc)
theorem proved : Rows.FnExactMuxCutSaid := over
end Go.Proofs.Ytiffeddeobhndaa.fnExactMuxCut
