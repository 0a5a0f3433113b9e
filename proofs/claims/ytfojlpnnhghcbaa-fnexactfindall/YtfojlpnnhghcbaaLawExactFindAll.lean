/- FnExactFindAll: FindAll of the program answers as the model's, at every configuration and string; its events are its own memory. No condition. -/
import Derived.Test.YtfojlpnnhghcbaaFindU
import Derived.Test.YtfojlpnnhghcbaaFEvK
import Derived.SliceStrings
import Derived.Lib.SmallJoins
namespace Go.Proofs.Ytfojlpnnhghcbaa.fnExactFindAll
open Go.ChangeShapes Go.WideShapes Go.ChangeAt Go.RowKit
open Go.ChangeMaps (open_string shut_string)
set_option linter.unusedVariables false
/-- the argument's box, the model's events -/
def KA (w W : World) (a b d m : Int) (B : Nat) (v : Value) (l : List Ev) : Prop := CB W w.heap.size a b d m ∧ Below w.heap.size w W ∧ RE W 0 B v l ∧ w.heap.size < B ∧ B ≤ W.heap.size
theorem KA.below {w W W' : World} {a b d m : Int} {B : Nat} {v : Value} {l : List Ev} (h : KA w W a b d m B v l) (hb : Below B W W') : KA w W' a b d m B v l :=
  ⟨h.1.below hb h.2.2.2.1, h.2.1.trans (hb.mono (by have := h.2.2.2.1; omega)), h.2.2.1.below hb, h.2.2.2.1, Nat.le_trans h.2.2.2.2 hb.size⟩
theorem KA.from {w W W' : World} {a b d m : Int} {B : Nat} {v : Value} {l : List Ev} (h : KA w W a b d m B v l) (hb : Below W.heap.size W W') : KA w W' a b d m B v l := h.below (hb.mono h.2.2.2.2)
set_option maxRecDepth 100000 in
set_option maxHeartbeats 4000000 in
theorem walk (a0_0 : Int) (a0_1 : Int) (a0_2 : Int) (a0_3 : Int) (s1 : ByteArray) (w : World) (w0_0 : (Lit.int .i64 a0_0).wf = true) (w0_1 : (Lit.int .i64 a0_1).wf = true) (w0_2 : (Lit.int .i64 a0_2).wf = true) (w0_3 : (Lit.int .i64 a0_3).wf = true) (w1 : s1.size ≤ maxLen) :
    Calls Try.prog 12 #[.agg #[.int .i64 a0_0, .int .i64 a0_1, .int .i64 a0_2, .int .i64 a0_3], .string s1] w fun e w' => e = .returned (.bool true) ∧ Below w.heap.size w w' := by
  have HM1 := Lib.hid w1
  unfold maxLen at w1
  clear w0_1 w0_2 w0_3
  generalize a0_0 = a at *
  generalize a0_1 = b at *
  generalize a0_2 = d at *
  generalize a0_3 = m at *
  by_cases hbig2 : 1048576 < s1.size
  · go_enter Try.func12, Try.ntmps12
    go_wp2
    go_ret
    exact ⟨rfl, (Below.refl _ _).alloc (Nat.le_refl _) _⟩
  have hlen := allF_len ⟨a, b, d, m⟩ s1.data.toList
  have HSp := Lib.hid (fun W => specFindAll_any a b d m s1 W HM1.out)
  have HIm := Lib.hid (fun W => implFindAll_any a b d m s1 W w0_0 HM1.out)
  generalize allF ⟨a, b, d, m⟩ s1.data.toList = evs at *
  go_enter Try.func12, Try.ntmps12
  go_wp2_with fail
  refine (toConf_any a b d m _).mono ?_
  rintro e w1 ⟨rfl, hb1⟩
  have hB1 := alloc_below hb1
  have hC1 := (CB_new w a b d m _).below hb1 (by simp)
  have hl1 : w.heap.size < w1.heap.size := by have := hb1.size; simp at this; omega
  clear hb1
  go_wp2_with fail
  refine (HSp.out _).mono ?_
  rintro e w2 ⟨v1, rfl, hoe1, hb2⟩
  have hk2 : KA w w2 a b d m w2.heap.size v1 evs := ⟨hC1.below hb2 hl1, hB1.trans (hb2.mono hB1.size), hoe1.reads.mono (Nat.zero_le _) (Nat.le_refl _), Nat.lt_of_lt_of_le hl1 hb2.size, Nat.le_refl _⟩
  obtain ⟨c0, c1, c2, c3⟩ := hk2.1
  have HK2 := Lib.hid hk2
  generalize w2.heap.size = B at *
  clear hoe1 hb2 hk2 hB1 hC1
  go_wp2_with fail
  refine (toConf_any a b d m _).mono ?_
  rintro e w3 ⟨rfl, hb3⟩
  have HK3 := Lib.hid (HK2.out.from hb3)
  clear hb3 c0 c1 c2 c3
  go_wp2_with fail
  refine (HIm.out _).mono ?_
  rintro e w4 ⟨v2, rfl, hoe2, hb4⟩
  have HK4 := Lib.hid (HK3.out.from hb4)
  have HO4 := Lib.hid (hoe2.mono HK3.out.2.2.2.2)
  clear hb4 hoe2 HK3
  go_wp2_with fail
  refine (eqEvents_same v2 v1 evs _ _ _ _ _ HO4.out.reads HK4.out.2.2.1 (Nat.le_refl _) HK4.out.2.2.2.2 (by omega)).mono ?_
  rintro e w5 ⟨rfl, hb5⟩
  have HK5 := Lib.hid (HK4.out.from hb5)
  have HO5 := Lib.hid (OE.below HO4.out hb5)
  clear hb5 HK4 HO4
  go_wp2_with fail
  refine (mark_any v2 evs _ _ HO5.out (by omega)).mono ?_
  rintro e w6 ⟨rfl, hoe6, hg6⟩
  have HK6 := Lib.hid (HK5.out.below ((Below.refl _ _).grown hg6 HK5.out.2.2.2.2 (fun k hk => (HO5.out.lt k hk).1)))
  have HO6 := Lib.hid hoe6
  clear hoe6 hg6 HK5 HO5
  go_wp2_with fail
  refine (held_any v2 evs.length _ _ _ HO6.out.reads (Nat.le_refl _) (by omega)).mono ?_
  rintro e w7 ⟨rfl, hb7⟩
  have hk7 := HK6.out.from hb7
  obtain ⟨c0, c1, c2, c3⟩ := hk7.1
  have HK7 := Lib.hid hk7
  have HO7 := Lib.hid (OE.below HO6.out hb7)
  clear hb7 hk7 HK6 HO6
  go_wp2_with fail
  refine (toConf_any a b d m _).mono ?_
  rintro e w8 ⟨rfl, hb8⟩
  have HK8 := Lib.hid (HK7.out.from hb8)
  have HO8 := Lib.hid (OE.below HO7.out hb8)
  clear hb8 c0 c1 c2 c3 HK7 HO7
  go_wp2_with fail
  refine (HIm.out _).mono ?_
  rintro e w9 ⟨v3, rfl, hoe9, hb9⟩
  have HK9 := Lib.hid (HK8.out.from hb9)
  have HO9 := Lib.hid (OE.below HO8.out hb9)
  have HO3 := Lib.hid hoe9
  clear hb9 hoe9 HK8 HO8
  go_wp2_with fail
  refine (eqEvents_same v3 v1 evs _ _ _ _ _ HO3.out.reads HK9.out.2.2.1 (Nat.le_refl _) HK9.out.2.2.2.2 (by omega)).mono ?_
  rintro e w10 ⟨rfl, hb10⟩
  have HK10 := Lib.hid (HK9.out.from hb10)
  have HO10 := Lib.hid (OE.below HO9.out hb10)
  clear hb10 HK9 HO9 HO3
  go_wp2_with fail
  refine (held_any v2 evs.length _ _ _ HO10.out.reads (Nat.le_refl _) (by omega)).mono ?_
  rintro e w11 ⟨rfl, hb11⟩
  have HB := Lib.hid (HK10.out.from hb11).2.1
  clear hb11 HK10 HO10
  go_wp2
  go_ret
  exact ⟨rfl, HB.out⟩
theorem own : ownKnob Try.prog.godebug = none := by kernel_rfl
theorem laidOut : laidOutB Try.prog = true := by kernel_rfl
set_option maxRecDepth 100000 in
theorem lifted (os : Os) (started : os.Started) (H : Type) (enc : TypeId × Value → H) :
    ReturnsInHanded {} Try.checked os 12 .any (Rows.fnExactFindAllSpec.pre6 enc Try.prog Try.f12 Rows.fnExactFindAllRow.domain false) (Rows.fnExactFindAllSpec.post enc Try.prog Try.f12 false true false false) := by
  refine returnsInHanded_of_change (C := Try.checked) own started (by kernel_rfl) Try.func12
    (ChangeSpec.witness6 (enc := enc) (C := Try.checked) false ⟨#[], #[.agg #[.int .i64 0, .int .i64 0, .int .i64 0, .int .i64 0], .string .empty], []⟩ 8 (by kernel_rfl) (by kernel_rfl) (by kernel_rfl) (by kernel_rfl)) ?_
  intro W base args ds gs before hval0 hW hcnd _
  have hval : ∀ (j : Nat) t v, Try.f12.params[j]? = some t → args[j]? = some v → Value.okWide Try.prog W .any base t v := hval0
  have hW' := hW
  obtain ⟨p, q, hA0, hV, rfl, hfz, hnd⟩ := hW
  have hA : DataW.TrodAll enc Try.prog W 0 (fun _ => true) true Try.f12.params.toList args.toList ds p := hA0
  rw [Try.params12] at hA hval
  obtain ⟨v0, vs0, d0, ds0, p0, q0, hargs, rfl, rfl, h0, r0⟩ := trodAll_cons hA
  obtain ⟨v1, vs1, d1, ds1, p1, q1, rfl, rfl, rfl, h1, r1⟩ := trodAll_cons r0
  obtain ⟨rfl, rfl, rfl⟩ := trodAll_nil r1
  obtain rfl : args = #[v0, v1] := by cases args; simp_all
  obtain ⟨rfl, rfl⟩ := trodVars_none hV
  have k0 := h0
  have lt0 : ∀ x ∈ p0, x.block < W.heap.size := by obtain ⟨m, hm⟩ := k0; exact DataW.trod_lt m _ _ _ hm
  obtain ⟨u0_0, u0_1, u0_2, u0_3, y0_0, y0_1, y0_2, y0_3, nn0, rfl, hd0, hp0, t0_0, t0_1, t0_2, t0_3⟩ := Joins.open_agg4 Try.underlying48 (by kernel_rfl) (by kernel_rfl) (hval 0 48 v0 rfl rfl) h0
  obtain ⟨a0_0, e0_0, _, w0_0⟩ := DataW.trod_int Try.underlying3 t0_0
  obtain ⟨a0_1, e0_1, _, w0_1⟩ := DataW.trod_int Try.underlying3 t0_1
  obtain ⟨a0_2, e0_2, _, w0_2⟩ := DataW.trod_int Try.underlying3 t0_2
  obtain ⟨a0_3, e0_3, _, w0_3⟩ := DataW.trod_int Try.underlying3 t0_3
  simp only [List.cons.injEq, and_true] at e0_0 e0_1 e0_2 e0_3
  subst e0_0 e0_1 e0_2 e0_3
  clear t0_0 t0_1 t0_2 t0_3 hd0 hp0
  obtain ⟨s1, rfl, rfl, rfl, w1⟩ := open_string Try.underlying9 (hval 1 9 v1 rfl rfl) h1
  clear hA0 hval0
  refine (walk a0_0 a0_1 a0_2 a0_3 s1 W w0_0 w0_1 w0_2 w0_3 w1).mono fun e W' ⟨he, bel⟩ => ?_
  subst he
  exact ⟨_, rfl, _, _, _, [], _, [], hW', trodAll_mk1 (shut_bool Try.underlying4 _), (trodAll_cons_mk (Below.trod laidOut (by kernel_rfl) (of_decide_eq_true (by kernel_rfl)) k0 bel lt0) (trodAll_cons_mk (shut_string Try.underlying9 w1) trodAll_mk0)), rfl, bel.frame _, fun h => by cases h⟩
theorem over : Rows.fnExactFindAllRow.holds Try.pinned (OpenSpec.ofChange Rows.fnExactFindAllSpec) :=
  OpenClaim.holds_of_wide 12 Try.f12 rfl rfl rfl rfl rfl rfl rfl ⟨rfl, rfl, rfl, rfl, rfl⟩ rfl rfl rfl rfl rfl (by kernel_rfl) Try.func12 (by kernel_rfl)
    (of_decide_eq_true (by kernel_rfl)) (by unfold Func.isWrapper; first | (rw [if_pos (by decide +kernel)]; kernel_rfl) | (rw [if_neg (by decide +kernel)]; exact ⟨rfl, rfl⟩))
    (fun os started H enc _ => lifted os started H enc)
theorem proved : Rows.FnExactFindAllSaid := over
end Go.Proofs.Ytfojlpnnhghcbaa.fnExactFindAll
