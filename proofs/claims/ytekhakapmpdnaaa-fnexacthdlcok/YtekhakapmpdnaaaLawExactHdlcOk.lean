/- FnExactHdlcOk: HdlcOk of the program answers as the model's, at every finder. No condition. -/
import Derived.Test.YtekhakapmpdnaaaHdlcL
namespace Go.Proofs.Ytekhakapmpdnaaa.fnExactHdlcOk
open Go.ChangeShapes Go.WideShapes Go.ChangeAt Go.RowKit
open Go.ChangeMaps (open_string shut_string)
set_option linter.unusedVariables false
set_option maxRecDepth 100000 in
set_option maxHeartbeats 4000000 in
theorem walk (b0 : Bool) (a0 : Int) (s0 : ByteArray) (w : World) (wi0 : (Lit.int .i64 a0).wf = true) (w0 : s0.size ≤ maxLen) :
    Calls Try.prog 8 #[.agg #[.bool b0, .int .i64 a0, .string s0]] w fun e w' => e = .returned (.bool true) ∧ Below w.heap.size w w' := by
  have hmax := w0
  by_cases hbig : 1048576 < s0.size
  · go_enter Try.func8, Try.ntmps8
    go_wp2_with fail
    refine (szHdlc_no b0 a0 s0 _ hbig hmax).mono ?_
    rintro e w1 ⟨rfl, hb1⟩
    have HB := Lib.hid (((Below.refl _ w).alloc (Nat.le_refl _) _).trans (hb1.mono (by simp)))
    clear hb1
    go_wp2
    go_ret
    exact ⟨rfl, HB.out⟩
  have hsm : s0.size ≤ 1048576 := by omega
  clear hbig
  go_enter Try.func8, Try.ntmps8
  go_wp2_with fail
  refine (szHdlc_yes b0 a0 s0 _ hsm).mono ?_
  rintro e w1 ⟨rfl, hb1⟩
  have h1 := (One.start w _ _ _ _).from hb1
  clear hb1
  obtain ⟨c0, c1, c2⟩ := h1.cells
  have H1 := Lib.hid h1
  clear h1
  go_wp2_with fail
  refine (toHdlc_any b0 a0 s0 _).mono ?_
  rintro e w2 ⟨rfl, hb2⟩
  have H2 := Lib.hid (H1.out.from hb2)
  clear hb2 c0 c1 c2
  go_wp2_with fail
  refine (specHok_any b0 a0 s0 _ hmax).mono ?_
  rintro e w3 ⟨rfl, hb3⟩
  have h3 := H2.out.from hb3
  obtain ⟨c0, c1, c2⟩ := h3.cells
  have H3 := Lib.hid h3
  clear hb3 h3
  go_wp2_with fail
  refine (toHdlc_any b0 a0 s0 _).mono ?_
  rintro e w4 ⟨rfl, hb4⟩
  have H4 := Lib.hid (H3.out.from hb4)
  clear hb4 c0 c1 c2
  go_wp2_with fail
  refine (implHok_any b0 a0 s0 _ hmax).mono ?_
  rintro e w5 ⟨rfl, hb5⟩
  have H5 := Lib.hid (H4.out.from hb5).2.2
  clear hb5
  go_wp2
  go_ret
  exact ⟨rfl, H5.out⟩
theorem own : ownKnob Try.prog.godebug = none := by kernel_rfl
theorem laidOut : laidOutB Try.prog = true := by kernel_rfl
set_option maxRecDepth 100000 in
theorem lifted (os : Os) (started : os.Started) (H : Type) (enc : TypeId × Value → H) :
    ReturnsInHanded {} Try.checked os 8 .any (Rows.fnExactHdlcOkSpec.pre6 enc Try.prog Try.f8 Rows.fnExactHdlcOkRow.domain false) (Rows.fnExactHdlcOkSpec.post enc Try.prog Try.f8 false true false false) := by
  refine returnsInHanded_of_change (C := Try.checked) own started (by kernel_rfl) Try.func8
    (ChangeSpec.witness6 (enc := enc) (C := Try.checked) false ⟨#[], #[.agg #[.bool false, .int .i64 0, .string .empty]], []⟩ 8 (by kernel_rfl) (by kernel_rfl) (by kernel_rfl) (by kernel_rfl)) ?_
  intro W base args ds gs before hval0 hW hcnd _
  have hval : ∀ (j : Nat) t v, Try.f8.params[j]? = some t → args[j]? = some v → Value.okWide Try.prog W .any base t v := hval0
  have hW' := hW
  obtain ⟨p, q, hA0, hV, rfl, hfz, hnd⟩ := hW
  have hA : DataW.TrodAll enc Try.prog W 0 (fun _ => true) true Try.f8.params.toList args.toList ds p := hA0
  rw [Try.params8] at hA hval
  obtain ⟨v0, vs0, d0, ds0, p0, q0, hargs, rfl, rfl, h0, r0⟩ := trodAll_cons hA
  obtain ⟨rfl, rfl, rfl⟩ := trodAll_nil r0
  obtain rfl : args = #[v0] := by cases args; simp_all
  obtain ⟨rfl, rfl⟩ := trodVars_none hV
  have k0 := h0
  have lt0 : ∀ x ∈ p0, x.block < W.heap.size := by obtain ⟨m, hm⟩ := k0; exact DataW.trod_lt m _ _ _ hm
  obtain ⟨u0, u1, u2, y0, y1, y2, nn, rfl, hd0, hp0, t0, t1, t2⟩ := Joins.open_agg3 Try.underlying47 (by kernel_rfl) (by kernel_rfl) (hval 0 47 v0 rfl rfl) h0
  obtain ⟨b0, e0, _⟩ := DataW.trod_bool Try.underlying4 t0
  obtain ⟨a0, e1, _, wi0⟩ := DataW.trod_int Try.underlying3 t1
  obtain ⟨s0, e2, _, w0⟩ := DataW.trod_string Try.underlying9 t2
  simp only [List.cons.injEq, and_true] at e0 e1 e2
  subst e0 e1 e2
  clear t0 t1 t2 hd0 hp0
  clear hA0 hval0
  refine (walk b0 a0 s0 W wi0 w0).mono fun e W' ⟨he, bel⟩ => ?_
  subst he
  exact ⟨_, rfl, _, _, _, [], _, [], hW', trodAll_mk1 (shut_bool Try.underlying4 _), (trodAll_cons_mk (Below.trod laidOut (by kernel_rfl) (of_decide_eq_true (by kernel_rfl)) k0 bel lt0) trodAll_mk0), rfl, bel.frame _, fun h => by cases h⟩
theorem over : Rows.fnExactHdlcOkRow.holds Try.pinned (OpenSpec.ofChange Rows.fnExactHdlcOkSpec) :=
  OpenClaim.holds_of_wide 8 Try.f8 rfl rfl rfl rfl rfl rfl rfl ⟨rfl, rfl, rfl, rfl, rfl⟩ rfl rfl rfl rfl rfl (by kernel_rfl) Try.func8 (by kernel_rfl)
    (of_decide_eq_true (by kernel_rfl)) (by unfold Func.isWrapper; first | (rw [if_pos (by decide +kernel)]; kernel_rfl) | (rw [if_neg (by decide +kernel)]; exact ⟨rfl, rfl⟩))
    (fun os started H enc _ => lifted os started H enc)
theorem proved : Rows.FnExactHdlcOkSaid := over
end Go.Proofs.Ytekhakapmpdnaaa.fnExactHdlcOk
