/- FnExactFindOk: FindOk of the program answers as the model's, at every configuration and finder. No condition. -/
import Derived.Test.YtfojlpnnhghcbaaFindH
import Derived.SliceStrings
import Derived.Lib.SmallJoins
namespace Go.Proofs.Ytfojlpnnhghcbaa.fnExactFindOk
open Go.ChangeShapes Go.WideShapes Go.ChangeAt Go.RowKit
set_option maxHeartbeats 1000000 in
theorem walk (a0_0 : Int) (a0_1 : Int) (a0_2 : Int) (a0_3 : Int) (s1_0 : ByteArray) (b1_1 : Bool) (w : World) (w0_0 : (Lit.int .i64 a0_0).wf = true) (w0_1 : (Lit.int .i64 a0_1).wf = true) (w0_2 : (Lit.int .i64 a0_2).wf = true) (w0_3 : (Lit.int .i64 a0_3).wf = true) (w1_0 : s1_0.size ≤ maxLen) :
    Calls Try.prog 10 #[.agg #[.int .i64 a0_0, .int .i64 a0_1, .int .i64 a0_2, .int .i64 a0_3], .agg #[.string s1_0, .bool b1_1]] w fun e w' => e = .returned (.bool true) ∧ Below w.heap.size w w' := by
  clear w0_1 w0_2 w0_3
  have HM := Lib.hid w1_0
  unfold maxLen at w1_0
  by_cases hbig : 1048576 < s1_0.size
  · go_enter Try.func10, Try.ntmps10
    go_wp2_with fail
    refine (szFind_big s1_0 b1_1 _ HM.out hbig).mono ?_
    rintro e w1 ⟨rfl, hb1⟩
    have HB := Lib.hid ((Bx.new w a0_0 a0_1 a0_2 a0_3 s1_0 b1_1 _ _).next hb1).2.2.1
    clear hb1
    go_wp2
    go_ret
    exact ⟨rfl, HB.out⟩
  · have hsm : s1_0.size ≤ 1048576 := by omega
    go_enter Try.func10, Try.ntmps10
    go_wp2_with fail
    refine (szFind_small s1_0 b1_1 _ hsm).mono ?_
    rintro e w1 ⟨rfl, hb1⟩
    have hB := (Bx.new w a0_0 a0_1 a0_2 a0_3 s1_0 b1_1 _ _).next hb1
    clear hb1
    go_wp2_with fail
    have hB := hB.drew
    go_region_held3 (fun wx => (wx.cell? ⟨w.heap.size, 0, none⟩ = some (.int .i64 a0_0) ∧ wx.cell? ⟨w.heap.size, 1, none⟩ = some (.int .i64 a0_1) ∧ wx.cell? ⟨w.heap.size, 2, none⟩ = some (.int .i64 a0_2) ∧ wx.cell? ⟨w.heap.size, 3, none⟩ = some (.int .i64 a0_3)) ∧ (wx.cell? ⟨w.heap.size + 1, 0, none⟩ = some (.string s1_0) ∧ wx.cell? ⟨w.heap.size + 1, 1, none⟩ = some (.bool b1_1))) (first | exact hB.flat) (first | (go_at_call 31; refine (toConf_any _ _ _ _ _).mono ?_; rintro e w2 ⟨rfl, hb2⟩; have hB := hB.next hb2) | (go_at_call 33; refine (toFind_any _ _ _).mono ?_; rintro e w2 ⟨rfl, hb2⟩; have hB := hB.next hb2) | (go_at_call 24; refine (specFindOk_any _ _ _ _ s1_0 _ _ HM.out).mono ?_; rintro e w2 ⟨rfl, hb2⟩; have hB := hB.next hb2))
    go_wp2_with fail
    have hB := hB.drew
    go_region_held3 (fun wx => (wx.cell? ⟨w.heap.size, 0, none⟩ = some (.int .i64 a0_0) ∧ wx.cell? ⟨w.heap.size, 1, none⟩ = some (.int .i64 a0_1) ∧ wx.cell? ⟨w.heap.size, 2, none⟩ = some (.int .i64 a0_2) ∧ wx.cell? ⟨w.heap.size, 3, none⟩ = some (.int .i64 a0_3)) ∧ (wx.cell? ⟨w.heap.size + 1, 0, none⟩ = some (.string s1_0) ∧ wx.cell? ⟨w.heap.size + 1, 1, none⟩ = some (.bool b1_1))) (first | exact hB.flat) (first | (go_at_call 31; refine (toConf_any _ _ _ _ _).mono ?_; rintro e w2 ⟨rfl, hb2⟩; have hB := hB.next hb2) | (go_at_call 33; refine (toFind_any _ _ _).mono ?_; rintro e w2 ⟨rfl, hb2⟩; have hB := hB.next hb2) | (go_at_call 23; refine (implFindOk_any _ _ _ _ s1_0 _ _ w0_0 HM.out).mono ?_; rintro e w2 ⟨rfl, hb2⟩; have hB := hB.next hb2))
    have HB := Lib.hid hB.2.2.1
    generalize okF ⟨a0_0, a0_1, a0_2, a0_3⟩ ⟨s1_0.data.toList, b1_1⟩ = x
    cases x <;> (go_wp2; go_ret; exact ⟨rfl, HB.out⟩)
theorem own : ownKnob Try.prog.godebug = none := by kernel_rfl
theorem laidOut : laidOutB Try.prog = true := by kernel_rfl
set_option maxRecDepth 100000 in
theorem lifted (os : Os) (started : os.Started) (H : Type) (enc : TypeId × Value → H) :
    ReturnsInHanded {} Try.checked os 10 .any (Rows.fnExactFindOkSpec.pre6 enc Try.prog Try.f10 Rows.fnExactFindOkRow.domain false) (Rows.fnExactFindOkSpec.post enc Try.prog Try.f10 false true false false) := by
  refine returnsInHanded_of_change (C := Try.checked) own started (by kernel_rfl) Try.func10
    (ChangeSpec.witness6 (enc := enc) (C := Try.checked) false ⟨#[], #[.agg #[.int .i64 0, .int .i64 0, .int .i64 0, .int .i64 0], .agg #[.string .empty, .bool false]], []⟩ 8 (by kernel_rfl) (by kernel_rfl) (by kernel_rfl) (by kernel_rfl)) ?_
  intro W base args ds gs before hval0 hW hcnd _
  have hval : ∀ (j : Nat) t v, Try.f10.params[j]? = some t → args[j]? = some v → Value.okWide Try.prog W .any base t v := hval0
  have hW' := hW
  obtain ⟨p, q, hA0, hV, rfl, hfz, hnd⟩ := hW
  have hA : DataW.TrodAll enc Try.prog W 0 (fun _ => true) true Try.f10.params.toList args.toList ds p := hA0
  rw [Try.params10] at hA hval
  obtain ⟨v0, vs0, d0, ds0, p0, q0, hargs, rfl, rfl, h0, r0⟩ := trodAll_cons hA
  obtain ⟨v1, vs1, d1, ds1, p1, q1, rfl, rfl, rfl, h1, r1⟩ := trodAll_cons r0
  obtain ⟨rfl, rfl, rfl⟩ := trodAll_nil r1
  obtain rfl : args = #[v0, v1] := by cases args; simp_all
  obtain ⟨rfl, rfl⟩ := trodVars_none hV
  have k0 := h0
  have lt0 : ∀ x ∈ p0, x.block < W.heap.size := by obtain ⟨m, hm⟩ := k0; exact DataW.trod_lt m _ _ _ hm
  obtain ⟨u0_0, u0_1, u0_2, u0_3, y0_0, y0_1, y0_2, y0_3, nn0, rfl, hd0, hp0, t0_0, t0_1, t0_2, t0_3⟩ := Joins.open_agg4 Try.underlying48 (by kernel_rfl) (by kernel_rfl) (hval 0 48 v0 rfl rfl) h0
  obtain ⟨a0_0, e0_0, _, w0_0⟩ := DataW.trod_int Try.underlying3 t0_0
  obtain ⟨a0_1, e0_1, _, w0_1⟩ := DataW.trod_int Try.underlying3 t0_1
  obtain ⟨a0_2, e0_2, _, w0_2⟩ := DataW.trod_int Try.underlying3 t0_2
  obtain ⟨a0_3, e0_3, _, w0_3⟩ := DataW.trod_int Try.underlying3 t0_3
  simp only [List.cons.injEq, and_true] at e0_0 e0_1 e0_2 e0_3
  subst e0_0 e0_1 e0_2 e0_3
  clear t0_0 t0_1 t0_2 t0_3 hd0 hp0
  have k1 := h1
  have lt1 : ∀ x ∈ p1, x.block < W.heap.size := by obtain ⟨m, hm⟩ := k1; exact DataW.trod_lt m _ _ _ hm
  obtain ⟨u1_0, u1_1, y1_0, y1_1, nn1, rfl, hd1, hp1, t1_0, t1_1⟩ := Joins.open_agg2 Try.underlying52 (by kernel_rfl) (by kernel_rfl) (hval 1 52 v1 rfl rfl) h1
  obtain ⟨s1_0, e1_0, _, w1_0⟩ := DataW.trod_string Try.underlying9 t1_0
  obtain ⟨b1_1, e1_1, _⟩ := DataW.trod_bool Try.underlying4 t1_1
  simp only [List.cons.injEq, and_true] at e1_0 e1_1
  subst e1_0 e1_1
  clear t1_0 t1_1 hd1 hp1
  clear hA0 hval0
  refine (walk a0_0 a0_1 a0_2 a0_3 s1_0 b1_1 W w0_0 w0_1 w0_2 w0_3 w1_0).mono fun e W' ⟨he, bel⟩ => ?_
  subst he
  exact ⟨_, rfl, _, _, _, [], _, [], hW', trodAll_mk1 (shut_bool Try.underlying4 _), (trodAll_cons_mk (Below.trod laidOut (by kernel_rfl) (of_decide_eq_true (by kernel_rfl)) k0 bel lt0) (trodAll_cons_mk (Below.trod laidOut (by kernel_rfl) (of_decide_eq_true (by kernel_rfl)) k1 bel lt1) trodAll_mk0)), rfl, bel.frame _, fun h => by cases h⟩
theorem over : Rows.fnExactFindOkRow.holds Try.pinned (OpenSpec.ofChange Rows.fnExactFindOkSpec) :=
  OpenClaim.holds_of_wide 10 Try.f10 rfl rfl rfl rfl rfl rfl rfl ⟨rfl, rfl, rfl, rfl, rfl⟩ rfl rfl rfl rfl rfl (by kernel_rfl) Try.func10 (by kernel_rfl)
    (of_decide_eq_true (by kernel_rfl)) (by unfold Func.isWrapper; first | (rw [if_pos (by decide +kernel)]; kernel_rfl) | (rw [if_neg (by decide +kernel)]; exact ⟨rfl, rfl⟩))
    (fun os started H enc _ => lifted os started H enc)
theorem proved : Rows.FnExactFindOkSaid := over
end Go.Proofs.Ytfojlpnnhghcbaa.fnExactFindOk
