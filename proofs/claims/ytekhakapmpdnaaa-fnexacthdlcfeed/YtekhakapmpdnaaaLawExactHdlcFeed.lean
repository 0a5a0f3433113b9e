/- FnExactHdlcFeed: HdlcFeed of the program answers as the model's, at every kind, finder and string; its events are its own memory. No condition. -/
import Derived.Test.YtekhakapmpdnaaaHdlcJ
import Derived.Test.YtekhakapmpdnaaaHdlcK
import Derived.Test.YtekhakapmpdnaaaHdlcL
namespace Go.Proofs.Ytekhakapmpdnaaa.fnExactHdlcFeed
open Go.ChangeShapes Go.WideShapes Go.ChangeAt Go.RowKit
open Go.ChangeMaps (open_string shut_string)
set_option linter.unusedVariables false
theorem feed_len (kd : Int) (i : Bool) (n : Int) (b s : List UInt8) : (feedA kd i n b s).2.length ≤ 1200 := by
  unfold feedA
  split
  · rename_i h
    have h1 := hfeed_len kd s ⟨i, n.toNat, b⟩
    have h2 := ok_len (valid_parts h).2.2
    omega
  · simp
/-- a block of three cells -/
def Blk3 (W : World) (g : Nat) (t : TypeId) (a b c : Value) : Prop := W.heap[g]? = some (.cells #[a, b, c] t (0, 0))
theorem Blk3.cells {W : World} {g : Nat} {t : TypeId} {a b c : Value} (h : Blk3 W g t a b c) : W.cell? ⟨g, 0, none⟩ = some a ∧ W.cell? ⟨g, 1, none⟩ = some b ∧ W.cell? ⟨g, 2, none⟩ = some c := by
  refine ⟨?_, ?_, ?_⟩
  · rw [cell_of_row W _ 0 _ _ _ h]; rfl
  · rw [cell_of_row W _ 1 _ _ _ h]; rfl
  · rw [cell_of_row W _ 2 _ _ _ h]; rfl
theorem Blk3.below {W W' : World} {B g : Nat} {t : TypeId} {a b c : Value} (h : Blk3 W g t a b c) (hb : Below B W W') (hg : g < B) : Blk3 W' g t a b c := (hb.block g hg).trans h
/-- what the first half of the law leaves: the argument's box, the model's finder in its box g, the model's events -/
def Keep (w W : World) (g : Nat) (x y z a b c : Value) (v : Value) (l : List Ev) : Prop :=
  One w W 47 x y z ∧ Blk3 W g 29 a b c ∧ RE W 0 (g + 1) v l ∧ w.heap.size < g ∧ g + 1 ≤ W.heap.size
theorem Keep.below {w W W' : World} {g : Nat} {x y z a b c v : Value} {l : List Ev} (h : Keep w W g x y z a b c v l) (hb : Below (g + 1) W W') : Keep w W' g x y z a b c v l :=
  ⟨h.1.below (hb.mono (by have := h.2.2.2.1; omega)), h.2.1.below hb (by omega), h.2.2.1.below hb, h.2.2.2.1, Nat.le_trans h.2.2.2.2 hb.size⟩
theorem Keep.from {w W W' : World} {g : Nat} {x y z a b c v : Value} {l : List Ev} (h : Keep w W g x y z a b c v l) (hb : Below W.heap.size W W') : Keep w W' g x y z a b c v l :=
  h.below (hb.mono h.2.2.2.2)
theorem Keep.start {w w3 : World} {x y z a b c v : Value} {l : List Ev} {lo : Nat} (h : One w w3 47 x y z) (hre : RE w3 lo w3.heap.size v l) : Keep w (w3.alloc (.cells #[a, b, c] 29)) w3.heap.size x y z a b c v l := by
  refine ⟨h.from ((Below.refl _ _).alloc (Nat.le_refl _) _), heap_alloc_new w3 _, ?_, by have := h.2.1; omega, by simp⟩
  exact (hre.keep fun p _ hp => World.cell?_alloc_lt w3 _ p hp).mono (Nat.zero_le _) (by omega)
set_option maxRecDepth 100000 in
set_option maxHeartbeats 8000000 in
theorem walk (a0 : Int) (b1 : Bool) (a1 : Int) (s1 : ByteArray) (s2 : ByteArray) (w : World) (w0 : (Lit.int .i64 a0).wf = true) (wi1 : (Lit.int .i64 a1).wf = true) (w1 : s1.size ≤ maxLen) (w2 : s2.size ≤ maxLen) :
    Calls Try.prog 9 #[.int .i64 a0, .agg #[.bool b1, .int .i64 a1, .string s1], .string s2] w fun e w' => e = .returned (.bool true) ∧ Below w.heap.size w w' := by
  have hmax1 := w1
  have hmax2 := w2
  by_cases hbig2 : 1048576 < s2.size
  · go_enter Try.func9, Try.ntmps9
    go_wp2
    go_ret
    exact ⟨rfl, (Below.refl _ _).alloc (Nat.le_refl _) _⟩
  by_cases hbig : 1048576 < s1.size
  · go_enter Try.func9, Try.ntmps9
    go_wp2_with fail
    refine (szHdlc_no b1 a1 s1 _ hbig hmax1).mono ?_
    rintro e w1 ⟨rfl, hb1⟩
    have HB := Lib.hid (((Below.refl _ w).alloc (Nat.le_refl _) _).trans (hb1.mono (by simp)))
    clear hb1
    go_wp2
    go_ret
    exact ⟨rfl, HB.out⟩
  have hsm : s1.size ≤ 1048576 := by omega
  clear hbig
  have hlen := feed_len a0 b1 a1 s1.data.toList s2.data.toList
  have HSp := Lib.hid (fun W => specFeed_any a0 b1 a1 s1 s2 W hmax1 hmax2)
  have HIm := Lib.hid (fun W => implFeed_any a0 b1 a1 s1 s2 W hmax1 hmax2)
  generalize feedA a0 b1 a1 s1.data.toList s2.data.toList = p at *
  obtain ⟨⟨inn, m, bs⟩, evs⟩ := p
  simp only at hlen
  go_enter Try.func9, Try.ntmps9
  go_wp2_with fail
  refine (szHdlc_yes b1 a1 s1 _ hsm).mono ?_
  rintro e x1 ⟨rfl, hb1⟩
  have h1 := (One.start w _ _ _ _).from hb1
  obtain ⟨c0, c1, c2⟩ := h1.cells
  have H1 := Lib.hid h1
  clear h1 hb1
  go_wp2_with fail
  refine (toHdlc_any b1 a1 s1 _).mono ?_
  rintro e x2 ⟨rfl, hb2⟩
  have H2 := Lib.hid (H1.out.from hb2)
  clear hb2 c0 c1 c2
  go_wp2_with fail
  refine (HSp.out _).mono ?_
  rintro e x3 ⟨⟨v1, rfl, hoe1⟩, hb3⟩
  have h3 := H2.out.from hb3
  have HK3 := Lib.hid (Keep.start (a := .bool inn) (b := .int .i64 m) (c := .string ⟨bs.toArray⟩) h3 hoe1.reads)
  clear hb3 hoe1 h3
  rw [hV]
  obtain ⟨T, hT⟩ : ∃ T : ByteArray, T = ⟨bs.toArray⟩ := ⟨_, rfl⟩
  simp only [← hT] at HK3 ⊢
  have HTT := Lib.hid hT
  clear hT
  obtain ⟨c0, c1, c2⟩ := HK3.out.1.cells
  go_wp2_with fail
  refine (toHdlc_any b1 a1 s1 _).mono ?_
  rintro e x4 ⟨rfl, hb4⟩
  have HK4 := Lib.hid (HK3.out.from hb4)
  generalize x3.heap.size = g8 at *
  clear hb4 c0 c1 c2 HK3
  go_wp2_with fail
  refine (HIm.out _).mono ?_
  rintro e x5 ⟨⟨v2, rfl, hoe2⟩, hb5⟩
  have hk5 := HK4.out.from hb5
  have hk6 := hk5.from ((Below.refl _ _).alloc (Nat.le_refl _) (.cells #[.bool inn, .int .i64 m, .string T] 29))
  obtain ⟨c0, c1, c2⟩ := hk6.1.cells
  obtain ⟨d0, d1, d2⟩ := hk6.2.1.cells
  have HK6 := Lib.hid hk6
  have hbase := HK4.out.2.2.2.2
  have HO6 := Lib.hid (OE_mono (hoe2.alloc (.cells #[.bool inn, .int .i64 m, .string T] 29)) hbase)
  clear hb5 hk5 hk6 hoe2
  rw [hV]
  simp only [← HTT.out]
  go_wp2_with fail
  refine (eqHdlc_same inn m T _).mono ?_
  rintro e y1 ⟨rfl, hb1⟩
  have HK7 := Lib.hid (HK6.out.from hb1)
  have HO7 := Lib.hid (OE.below HO6.out hb1)
  clear hb1 c0 c1 c2 d0 d1 d2 HK6 HO6 HK4
  go_wp2_with fail
  refine (eqEvents_same v2 v1 evs _ _ _ _ _ HO7.out.reads HK7.out.2.2.1 (Nat.le_refl _) HK7.out.2.2.2.2 (by omega)).mono ?_
  rintro e y2 ⟨rfl, hb2⟩
  have HK8 := Lib.hid (HK7.out.from hb2)
  have HO8 := Lib.hid (OE.below HO7.out hb2)
  clear hb2 HK7 HO7
  go_wp2_with fail
  refine (mark_any v2 evs _ _ HO8.out (by omega)).mono ?_
  rintro e y3 ⟨rfl, hoe3, hg3⟩
  have HK9 := Lib.hid (HK8.out.below ((Below.refl _ _).grown hg3 HK8.out.2.2.2.2 (fun k hk => (HO8.out.lt k hk).1)))
  have HO9 := Lib.hid hoe3
  clear hoe3 hg3 HK8 HO8
  go_wp2_with fail
  refine (held_any v2 evs.length _ _ _ HO9.out.reads (Nat.le_refl _) (by omega)).mono ?_
  rintro e y4 ⟨rfl, hb4⟩
  have hk10 := HK9.out.from hb4
  obtain ⟨c0, c1, c2⟩ := hk10.1.cells
  have HK10 := Lib.hid hk10
  have HO10 := Lib.hid (OE.below HO9.out hb4)
  clear hb4 hk10 HK9 HO9
  go_wp2_with fail
  refine (toHdlc_any b1 a1 s1 _).mono ?_
  rintro e y5 ⟨rfl, hb5⟩
  have HK11 := Lib.hid (HK10.out.from hb5)
  have HO11 := Lib.hid (OE.below HO10.out hb5)
  clear hb5 HK10 HO10 c0 c1 c2
  go_wp2_with fail
  refine (HIm.out _).mono ?_
  rintro e y6 ⟨⟨v3, rfl, hoe3⟩, hb6⟩
  have hb7 : Below y5.heap.size y5 (y6.alloc (.cells #[.bool inn, .int .i64 m, .string T] 29)) := hb6.alloc hb6.size _
  have hk12 := HK11.out.from hb7
  obtain ⟨d0, d1, d2⟩ := hk12.2.1.cells
  have HK12 := Lib.hid hk12
  have HO12 := Lib.hid (OE.below HO11.out hb7)
  have HO3 := Lib.hid (hoe3.alloc (.cells #[.bool inn, .int .i64 m, .string T] 29))
  clear hb6 hb7 hk12 hoe3 HK11 HO11
  rw [hV]
  simp only [← HTT.out]
  go_wp2_with fail
  refine (eqHdlc_same inn m T _).mono ?_
  rintro e y8 ⟨rfl, hb8⟩
  have HK13 := Lib.hid (HK12.out.from hb8)
  have HO13 := Lib.hid (OE.below HO12.out hb8)
  have HO4 := Lib.hid (OE.below HO3.out hb8)
  clear hb8 d0 d1 d2 HK12 HO12 HO3
  go_wp2_with fail
  refine (eqEvents_same v3 v1 evs _ _ _ _ _ HO4.out.reads HK13.out.2.2.1 (Nat.le_refl _) HK13.out.2.2.2.2 (by omega)).mono ?_
  rintro e y9 ⟨rfl, hb9⟩
  have HK14 := Lib.hid (HK13.out.from hb9)
  have HO14 := Lib.hid (OE.below HO13.out hb9)
  clear hb9 HK13 HO13 HO4
  go_wp2_with fail
  refine (held_any v2 evs.length _ _ _ HO14.out.reads (Nat.le_refl _) (by omega)).mono ?_
  rintro e y10 ⟨rfl, hb10⟩
  have HB := Lib.hid (HK14.out.from hb10).1.2.2
  clear hb10 HK14 HO14
  go_wp2
  go_ret
  exact ⟨rfl, HB.out⟩
theorem own : ownKnob Try.prog.godebug = none := by kernel_rfl
theorem laidOut : laidOutB Try.prog = true := by kernel_rfl
set_option maxRecDepth 100000 in
theorem lifted (os : Os) (started : os.Started) (H : Type) (enc : TypeId × Value → H) :
    ReturnsInHanded {} Try.checked os 9 .any (Rows.fnExactHdlcFeedSpec.pre6 enc Try.prog Try.f9 Rows.fnExactHdlcFeedRow.domain false) (Rows.fnExactHdlcFeedSpec.post enc Try.prog Try.f9 false true false false) := by
  refine returnsInHanded_of_change (C := Try.checked) own started (by kernel_rfl) Try.func9
    (ChangeSpec.witness6 (enc := enc) (C := Try.checked) false ⟨#[], #[.int .i64 0, .agg #[.bool false, .int .i64 0, .string .empty], .string .empty], []⟩ 8 (by kernel_rfl) (by kernel_rfl) (by kernel_rfl) (by kernel_rfl)) ?_
  intro W base args ds gs before hval0 hW hcnd _
  have hval : ∀ (j : Nat) t v, Try.f9.params[j]? = some t → args[j]? = some v → Value.okWide Try.prog W .any base t v := hval0
  have hW' := hW
  obtain ⟨p, q, hA0, hV, rfl, hfz, hnd⟩ := hW
  have hA : DataW.TrodAll enc Try.prog W 0 (fun _ => true) true Try.f9.params.toList args.toList ds p := hA0
  rw [Try.params9] at hA hval
  obtain ⟨v0, vs0, d0, ds0, p0, q0, hargs, rfl, rfl, h0, r0⟩ := trodAll_cons hA
  obtain ⟨v1, vs1, d1, ds1, p1, q1, rfl, rfl, rfl, h1, r1⟩ := trodAll_cons r0
  obtain ⟨v2, vs2, d2, ds2, p2, q2, rfl, rfl, rfl, h2, r2⟩ := trodAll_cons r1
  obtain ⟨rfl, rfl, rfl⟩ := trodAll_nil r2
  obtain rfl : args = #[v0, v1, v2] := by cases args; simp_all
  obtain ⟨rfl, rfl⟩ := trodVars_none hV
  obtain ⟨a0, rfl, rfl, rfl, w0⟩ := open_int Try.underlying3 (hval 0 3 v0 rfl rfl) h0
  have k1 := h1
  have lt1 : ∀ x ∈ p1, x.block < W.heap.size := by obtain ⟨m, hm⟩ := k1; exact DataW.trod_lt m _ _ _ hm
  obtain ⟨u0, u1, u2, y0, y1, y2, nn, rfl, hd1, hp1, t0, t1, t2⟩ := Joins.open_agg3 Try.underlying47 (by kernel_rfl) (by kernel_rfl) (hval 1 47 v1 rfl rfl) h1
  obtain ⟨b1, e0, _⟩ := DataW.trod_bool Try.underlying4 t0
  obtain ⟨a1, e1, _, wi1⟩ := DataW.trod_int Try.underlying3 t1
  obtain ⟨s1, e2, _, w1⟩ := DataW.trod_string Try.underlying9 t2
  simp only [List.cons.injEq, and_true] at e0 e1 e2
  subst e0 e1 e2
  clear t0 t1 t2 hd1 hp1
  obtain ⟨s2, rfl, rfl, rfl, w2⟩ := open_string Try.underlying9 (hval 2 9 v2 rfl rfl) h2
  clear hA0 hval0
  refine (walk a0 b1 a1 s1 s2 W w0 wi1 w1 w2).mono fun e W' ⟨he, bel⟩ => ?_
  subst he
  exact ⟨_, rfl, _, _, _, [], _, [], hW', trodAll_mk1 (shut_bool Try.underlying4 _), (trodAll_cons_mk (shut_int Try.underlying3 w0) (trodAll_cons_mk (Below.trod laidOut (by kernel_rfl) (of_decide_eq_true (by kernel_rfl)) k1 bel lt1) (trodAll_cons_mk (shut_string Try.underlying9 w2) trodAll_mk0))), rfl, bel.frame _, fun h => by cases h⟩
theorem over : Rows.fnExactHdlcFeedRow.holds Try.pinned (OpenSpec.ofChange Rows.fnExactHdlcFeedSpec) :=
  OpenClaim.holds_of_wide 9 Try.f9 rfl rfl rfl rfl rfl rfl rfl ⟨rfl, rfl, rfl, rfl, rfl⟩ rfl rfl rfl rfl rfl (by kernel_rfl) Try.func9 (by kernel_rfl)
    (of_decide_eq_true (by kernel_rfl)) (by unfold Func.isWrapper; first | (rw [if_pos (by decide +kernel)]; kernel_rfl) | (rw [if_neg (by decide +kernel)]; exact ⟨rfl, rfl⟩))
    (fun os started H enc _ => lifted os started H enc)
theorem proved : Rows.FnExactHdlcFeedSaid := over
end Go.Proofs.Ytekhakapmpdnaaa.fnExactHdlcFeed
