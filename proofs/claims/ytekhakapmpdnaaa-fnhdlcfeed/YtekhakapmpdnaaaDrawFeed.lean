/- The draw of a kind, a finder and bits. -/
import Derived.Test.YtekhakapmpdnaaaDrawHdlc
namespace Go.Proofs.Ytekhakapmpdnaaa
open Go.ChangeShapes Go.WideShapes Go.ChangeAt Go.RowKit
/-- what is drawn: a kind's number, a finder, bits, all small -/
def FeedDraw (w : World) (e : Ending) (w' : World) : Prop := ∃ (kd : Int) (i : Bool) (n : Int) (b s : ByteArray), e = .returned (.tuple #[.int .i64 kd, .agg #[.bool i, .int .i64 n, .string b], .string s]) ∧ b.size ≤ 241 ∧ s.size ≤ 1200 ∧ Below w.heap.size w w'
/-- a stage: the result's box, the reader behind it, the finder's box gh behind that -/
def Stage (w W : World) (gh N : Nat) (i : Bool) (n : Int) (b : ByteArray) : Prop :=
  B3 W w.heap.size (.bool false) (.int .i64 0) (.string ⟨#[]⟩) ∧ B3 W gh (.bool i) (.int .i64 n) (.string b) ∧ Rd W (w.heap.size + 1) (w.heap.size + 1) N ∧ Below w.heap.size w W ∧ w.heap.size + 1 < gh
theorem Stage.grown {w W W' : World} {gh N N' : Nat} {i : Bool} {n : Int} {b : ByteArray} (h : Stage w W gh N i n b) (hr : Rd W' (w.heap.size + 1) (w.heap.size + 1) N') (hg : W.grownBy W' (some (w.heap.size + 1))) : Stage w W' gh N' i n b :=
  ⟨h.1.grown hg (by simp), h.2.1.grown hg (by have := h.2.2.2.2; simp; omega), hr, h.2.2.2.1.trans (grown_below hg h.2.2.2.1.size (by omega)), h.2.2.2.2⟩
theorem Stage.put {w W : World} {gh N : Nat} {i i' : Bool} {n n' : Int} {b b' : ByteArray} (h : Stage w W gh N i n b) :
    Stage w (((W.setCell ⟨gh, 0, none⟩ (.bool i')).setCell ⟨gh, 1, none⟩ (.int .i64 n')).setCell ⟨gh, 2, none⟩ (.string b')) gh N i' n' b' := by
  have hgh := h.2.2.2.2
  refine ⟨((h.1.far (by omega) _).far (by omega) _).far (by omega) _, h.2.1.put _ _ _, h.2.2.1.keep fun j hj => ?_, ((h.2.2.2.1.setCell (by simp only; omega) _).setCell (by simp only; omega) _).setCell (by simp only; omega) _, hgh⟩
  rw [Below.heap_setCell _ _ _ _ (by simp only; omega), Below.heap_setCell _ _ _ _ (by simp only; omega), Below.heap_setCell _ _ _ _ (by simp only; omega)]
theorem Stage.mono {w W : World} {gh N N' : Nat} {i : Bool} {n : Int} {b : ByteArray} (h : Stage w W gh N i n b) (hN : N ≤ N') : Stage w W gh N' i n b := ⟨h.1, h.2.1, h.2.2.1.mono hN, h.2.2.2⟩
theorem Stage.drew {w W : World} {gh N : Nat} {i : Bool} {n : Int} {b : ByteArray} (h : Stage w W gh N i n b) : Stage w W.drew gh N i n b := ⟨h.1, h.2.1, h.2.2.1, h.2.2.2.1.drew, h.2.2.2.2⟩
theorem draw_end {w W : World} {kd : Int} {i : Bool} {n : Int} {b s : ByteArray} {r : Value} (hr : r = .tuple #[.int .i64 kd, .agg #[.bool i, .int .i64 n, .string b], .string s]) (hb : b.size ≤ 241) (hs : s.size ≤ 1200) (hB : Below w.heap.size w W) : FeedDraw w (.returned r) W := by
  subst hr
  exact ⟨kd, i, n, b, s, rfl, hb, hs, hB⟩
set_option maxRecDepth 100000 in
set_option maxHeartbeats 4000000 in
theorem drawFeed_any {w : World} (a : Option Addr) (len cap : Nat) (zs : List Int) (h : IsRow .u8 w a len cap zs) :
    Calls Try.prog 16 #[.slice a len cap] w (FeedDraw w) := by
  have hz := zero_hdlc
  have H := Lib.hid h
  clear h
  go_enter Try.func16, Try.ntmps16
  go_wp2_with fail
  refine (open_any a len cap zs (H.out.keep ((Below.refl _ _).alloc (Nat.le_refl _) _))).mono ?_
  rintro e w1 ⟨rfl, hr1, hb1, hs1⟩
  rw [World.size_alloc] at hr1 hs1 ⊢
  have hbx1 := (B3.new w (.bool false) (.int .i64 0) (.string ⟨#[]⟩)).below hb1
  have hbe1 : Below w.heap.size w w1 := ((Below.refl _ w).alloc (Nat.le_refl _) _).trans (hb1.mono (by simp))
  have HBx1 := Lib.hid hbx1
  have HBe1 := Lib.hid hbe1
  have HR1 := Lib.hid hr1
  clear hbx1 hbe1 hr1 hb1 hs1 H
  go_wp2_with fail
  refine (kind_any HR1.out (by omega)).mono ?_
  rintro e w2 ⟨kd, _, rfl, hr2, hg2⟩
  have hgs := hr2.lt
  have hst : Stage w (w2.alloc (.cells #[.bool false, .int .i64 0, .string ⟨#[]⟩] 29)) w2.heap.size 1 false 0 ⟨#[]⟩ :=
    ⟨(HBx1.out.grown hg2 (by simp)).alloc _, B3.new _ _ _ _, hr2.alloc _, (HBe1.out.trans (grown_below hg2 HBe1.out.size (by omega))).alloc (by have := HBe1.out.size; have := hg2.size; omega) _, hgs⟩
  have HS2 := Lib.hid hst
  clear hst hr2 hg2 HBx1 HBe1 HR1
  go_upto_if 15 with (go_at_call 34; refine (pick_any _ HS2.out.2.2.1 (by omega)).mono ?_; rintro e w3 ⟨⟨x, rfl, hx, _⟩, hr3, hg3⟩; have HS3 := Lib.hid (HS2.out.grown hr3 hg3); clear hr3 hg3 hx)
  go_cut [10] (fun _ wx => ∃ i n b, b.size ≤ 241 ∧ Stage w wx w2.heap.size 2000 i n b)
  case first =>
    by_cases hx0 : x = 0
    · subst hx0
      go_wp2_with fail
      refine (hdlc_any HS3.out.2.2.1 (by omega)).mono ?_
      rintro e w4 ⟨i4, n4, b4, rfl, hb4, hr4, hg4⟩
      have hs4 := HS3.out.grown hr4 hg4
      obtain ⟨c0, c1, c2⟩ := hs4.2.1.cells
      obtain ⟨f0, f1, f2⟩ := hs4.2.1.free
      have HS5 := Lib.hid ((hs4.put (i' := i4) (n' := n4) (b' := b4)).mono (N' := 2000) (by omega))
      clear hs4 hr4 hg4
      go_wp2
      go_meet
      exact ⟨i4, n4, b4, hb4, HS5.out⟩
    · have hb0 : ((x : Int) == 0) = false := beq_eq_false_iff_ne.2 hx0
      go_wp2
      go_meet
      exact ⟨false, 0, ⟨#[]⟩, by decide, HS3.out.mono (by omega)⟩
  case rest =>
    obtain ⟨i, n, b, hb, hst⟩ := hcut
    obtain ⟨c0, c1, c2⟩ := hst.2.1.cells
    obtain ⟨d0, d1, d2⟩ := hst.1.cells
    obtain ⟨f0, f1, f2⟩ := hst.1.free
    have hgh := hst.2.2.2.2
    have HS := Lib.hid hst
    clear hst HS2 HS3
    cases hk : kindB kd with
    | false =>
      go_wp2_with (go_at_call 42; refine (l1Kind_any _ _).mono ?_; rintro e w' ⟨rfl, rfl⟩)
      have HB := Lib.hid ((((HS.out.2.2.2.1.setCell (p := ⟨w.heap.size, 0, none⟩) (by simp) (.bool i)).setCell (p := ⟨w.heap.size, 1, none⟩) (by simp) (.int .i64 n)).setCell (p := ⟨w.heap.size, 2, none⟩) (by simp) (.string b)).drew)
      go_region
      all_goals
        go_wp2
        exact bodyPost_ret (v := .tuple #[.int .i64 kd, .agg #[.bool i, .int .i64 n, .string b], .string ⟨#[48, 49]⟩]) (by simp [results, Try.results16, go_sem, d0, d1, d2]) rfl (draw_end rfl hb (by decide) HB.out)
    | true =>
      have HK := Lib.hid hk
      clear hk
      go_wp2_with (go_at_call 42; refine (l1Kind_any _ _).mono ?_; rintro e w' ⟨rfl, rfl⟩; rw [HK.out])
      go_region_with ((go_at_call 46; refine (wire_any (w := wc.drew) kd HK.out HS.out.drew.2.2.1 (by omega)).mono ?_; rintro e w5 ⟨T, rfl, hT, hr5, hg5⟩; have HS5 := Lib.hid (HS.out.drew.grown hr5 hg5); obtain ⟨k0, k1, k2⟩ := HS5.out.2.1.cells; obtain ⟨m0, m1, m2⟩ := HS5.out.1.cells; obtain ⟨l0, l1, l2⟩ := HS5.out.1.free; have hTs := hT.2; clear hT hr5 hg5))
      all_goals
        have HB := Lib.hid (((HS5.out.2.2.2.1.setCell (p := ⟨w.heap.size, 0, none⟩) (by simp) (.bool i)).setCell (p := ⟨w.heap.size, 1, none⟩) (by simp) (.int .i64 n)).setCell (p := ⟨w.heap.size, 2, none⟩) (by simp) (.string b))
        go_wp2
        exact bodyPost_ret (v := .tuple #[.int .i64 kd, .agg #[.bool i, .int .i64 n, .string b], .string T]) (by simp [results, Try.results16, go_sem, m0, m1, m2]) rfl (draw_end rfl hb hTs HB.out)
end Go.Proofs.Ytekhakapmpdnaaa
