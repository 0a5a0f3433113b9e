/- The draw of a finder. -/
import Derived.Test.YtdnedoafgfpnfaaGreatDrawStream
import Derived.Test.YtdnedoafgfpnfaaGreatDrawStr
import Derived.Test.YtdnedoafgfpnfaaGreatKitFindE
import Derived.Test.YtdnedoafgfpnfaaGreatFindX
namespace Go.Proofs.YtdnedoafgfpnfaaGreat
open Go.ChangeShapes Go.WideShapes Go.ChangeAt Go.RowKit
theorem strs_row (w : World) : (w.alloc (.cells #[.string ⟨#[0]⟩, .string ⟨#[126]⟩, .string ⟨#[97]⟩] 9)).heap[w.heap.size]? = some (.cells ([(⟨#[0]⟩ : ByteArray), ⟨#[126]⟩, ⟨#[97]⟩].map Value.string).toArray 9 (0, 0)) := heap_alloc_new w _
theorem one_of {q : ByteArray} (h : q ∈ [(⟨#[0]⟩ : ByteArray), ⟨#[126]⟩, ⟨#[97]⟩]) : q.size = 1 := by
  simp only [List.mem_cons, List.not_mem_nil, or_false] at h
  rcases h with rfl | rfl | rfl <;> rfl
/-- a stage: the boxes of the configuration, of the result, of the finder; the reader -/
def FD (w W : World) (B g N : Nat) (a b d m : Int) (X : ByteArray) (y : Bool) : Prop := BK W w.heap.size #[.int .i64 a, .int .i64 b, .int .i64 d, .int .i64 m] 24 ∧ BK W (w.heap.size + 1) #[.string ⟨#[]⟩, .bool false] 26 ∧ BK W (w.heap.size + 2) #[.string X, .bool y] 26 ∧ RW w W B g N
section
variable {w W W' : World} {B g N N' : Nat} {a b d m : Int} {X : ByteArray} {y : Bool}
theorem FD.start (h : Rd w B g N) (a b d m : Int) : FD w (((w.alloc (.cells #[.int .i64 a, .int .i64 b, .int .i64 d, .int .i64 m] 24)).alloc (.cells #[.string ⟨#[]⟩, .bool false] 26)).alloc (.cells #[.string ⟨#[]⟩, .bool false] 26)) B g N a b d m ⟨#[]⟩ false := by
  have h2 := BK.new (w.alloc (.cells #[.int .i64 a, .int .i64 b, .int .i64 d, .int .i64 m] 24)) #[.string ⟨#[]⟩, .bool false] 26
  rw [World.size_alloc] at h2
  have h3 := BK.new ((w.alloc (.cells #[.int .i64 a, .int .i64 b, .int .i64 d, .int .i64 m] 24)).alloc (.cells #[.string ⟨#[]⟩, .bool false] 26)) #[.string ⟨#[]⟩, .bool false] 26
  rw [World.size_alloc, World.size_alloc] at h3
  exact ⟨((BK.new w _ _).alloc _).alloc _, h2.alloc _, h3, (((RW.start h).alloc _).alloc _).alloc _⟩
theorem FD.alloc (h : FD w W B g N a b d m X y) (o : Obj) : FD w (W.alloc o) B g N a b d m X y := ⟨h.1.alloc _, h.2.1.alloc _, h.2.2.1.alloc _, h.2.2.2.alloc _⟩
theorem FD.drew (h : FD w W B g N a b d m X y) : FD w W.drew B g N a b d m X y := ⟨h.1, h.2.1, h.2.2.1, h.2.2.2.drew⟩
theorem FD.from (h : FD w W B g N a b d m X y) (hb : Below W.heap.size W W') : FD w W' B g N a b d m X y := ⟨h.1.from hb, h.2.1.from hb, h.2.2.1.from hb, h.2.2.2.from hb⟩
theorem FD.next (h : FD w W B g N a b d m X y) (hr : Rd W' B g N') (hw : W.grownBy W' (some g)) : FD w W' B g N' a b d m X y := by
  have hg := h.2.2.2.2.2
  exact ⟨h.1.next hw hg, h.2.1.next hw (by omega), h.2.2.1.next hw (by omega), h.2.2.2.next hr hw⟩
theorem FD.mono (h : FD w W B g N a b d m X y) (hN : N ≤ N') : FD w W B g N' a b d m X y := ⟨h.1, h.2.1, h.2.2.1, h.2.2.2.mono hN⟩
theorem FD.size (h : FD w W B g N a b d m X y) : w.heap.size + 3 ≤ W.heap.size := h.2.2.1.lt
theorem FD.flat (h : FD w W B g N a b d m X y) : (W.cell? ⟨w.heap.size, 0, none⟩ = some (.int .i64 a) ∧ W.cell? ⟨w.heap.size, 1, none⟩ = some (.int .i64 b) ∧ W.cell? ⟨w.heap.size, 2, none⟩ = some (.int .i64 d) ∧ W.cell? ⟨w.heap.size, 3, none⟩ = some (.int .i64 m)) ∧ (W.cell? ⟨w.heap.size + 2, 0, none⟩ = some (.string X) ∧ W.cell? ⟨w.heap.size + 2, 1, none⟩ = some (.bool y)) := ⟨cells4 h.1, h.2.2.1.cell rfl, h.2.2.1.cell rfl⟩
theorem FD.more (h : FD w W B g N a b d m X y) : (W.frozen? ⟨w.heap.size + 2, 0, none⟩ = false ∧ W.frozen? ⟨w.heap.size + 2, 1, none⟩ = false) ∧ W.cell? ⟨w.heap.size + 1, 0, none⟩ = some (.string ⟨#[]⟩) ∧ W.cell? ⟨w.heap.size + 1, 1, none⟩ = some (.bool false) ∧ W.frozen? ⟨w.heap.size + 1, 0, none⟩ = false ∧ W.frozen? ⟨w.heap.size + 1, 1, none⟩ = false :=
  ⟨⟨h.2.2.1.free 0, h.2.2.1.free 1⟩, h.2.1.cell rfl, h.2.1.cell rfl, h.2.1.free 0, h.2.1.free 1⟩
theorem FD.over (h : FD w W B g N a b d m X y) (z : Bool) : FD w (W.setCell ⟨w.heap.size + 2, 1, none⟩ (.bool z)) B g N a b d m X z := ⟨h.1.far (by omega) _, h.2.1.far (by omega) _, h.2.2.1.set 1 (.bool z), h.2.2.2.set (by omega) _⟩
theorem FD.text (h : FD w W B g N a b d m X y) (Z : ByteArray) : FD w (W.setCell ⟨w.heap.size + 2, 0, none⟩ (.string Z)) B g N a b d m Z y := ⟨h.1.far (by omega) _, h.2.1.far (by omega) _, h.2.2.1.set 0 (.string Z), h.2.2.2.set (by omega) _⟩
theorem FD.farSet (h : FD w W B g N a b d m X y) {j i : Nat} (hj : w.heap.size + 3 ≤ j) (x : Value) : FD w (W.setCell ⟨j, i, none⟩ x) B g N a b d m X y := ⟨h.1.far (by omega) _, h.2.1.far (by omega) _, h.2.2.1.far (by omega) _, h.2.2.2.set (by omega) _⟩
end
def FindPost (w : World) (B g N : Nat) (e : Ending) (w' : World) : Prop := ∃ (X : ByteArray) (y : Bool), e = .returned (fdV X y) ∧ X.size ≤ 101 ∧ Rd w' B g N ∧ w.grownBy w' (some g)
theorem find_end {w W : World} {B g N N' : Nat} {a b d m : Int} {X : ByteArray} {y : Bool} (h : FD w W B g N a b d m X y) (hX : X.size ≤ 101 ∧ N ≤ N') :
    FindPost w B g N' (.returned (fdV X y)) ((W.setCell ⟨w.heap.size + 1, 0, none⟩ (.string X)).setCell ⟨w.heap.size + 1, 1, none⟩ (.bool y)) := by
  have h2 := ((h.2.2.2.set (j := w.heap.size + 1) (o := 0) (by omega) (.string X)).set (j := w.heap.size + 1) (o := 1) (by omega) (.bool y)).mono hX.2
  exact ⟨X, y, rfl, hX.1, h2.1, h2.2.1⟩
def SmallPost (w : World) (e : Ending) (w' : World) : Prop := ∃ (X : ByteArray) (y : Bool) (v : Value), e = .returned (.tuple #[fdV X y, v]) ∧ X.size ≤ 100 ∧ Below w.heap.size w w'
theorem feed_small {a b d m : Int} (hc : confB ⟨a, b, d, m⟩ = true) (P : ByteArray) (hP : P.size ≤ 600) (w : World) :
    Calls Tryz.prog 52 #[cfV a b d m, fdV ⟨#[]⟩ false, .string P] w (SmallPost w) := by
  refine (l7Feed_any a b d m ⟨#[]⟩ false P w (new_ok hc) (by omega)).mono ?_
  rintro e w' ⟨v, rfl, _, hb⟩
  have hok := ffeed_ok P.data.toList (new_ok hc)
  have hh := (okF_yes hok).2.1
  have hp := hold_pos hc
  refine ⟨⟨(ffeed ⟨a, b, d, m⟩ ⟨[], false⟩ P.data.toList).1.held.toArray⟩, (ffeed ⟨a, b, d, m⟩ ⟨[], false⟩ P.data.toList).1.over, v, rfl, ?_, hb⟩
  rw [← size_list]
  show (ffeed ⟨a, b, d, m⟩ ⟨[], false⟩ P.data.toList).1.held.length ≤ 100
  omega
/-- a finder in a box that was made ahead of the call or behind it -/
def FX (w wx : World) (B g N : Nat) (a b d m : Int) (gx : Nat) : Prop := ∃ (X : ByteArray) (y : Bool), X.size ≤ 100 ∧ BK wx gx #[.string X, .bool y] 26 ∧ w.heap.size + 3 ≤ gx ∧ FD w wx B g N a b d m ⟨#[]⟩ false
theorem fx_last {w W : World} {B g N : Nat} {a b d m : Int} {X : ByteArray} {y : Bool} (h : FD w W B g N a b d m ⟨#[]⟩ false) (hX : X.size ≤ 100) : FX w (W.alloc (.cells #[.string X, .bool y] 26)) B g N a b d m W.heap.size :=
  ⟨X, y, hX, BK.new _ _ _, h.size, h.alloc _⟩
theorem fx_box {w W : World} {B g N gx : Nat} {a b d m : Int} {X : ByteArray} {y : Bool} {p q : Value} (h : FD w W B g N a b d m ⟨#[]⟩ false) (hx : BK W gx #[p, q] 26) (hg : w.heap.size + 3 ≤ gx) (hX : X.size ≤ 100) : FX w ((W.setCell ⟨gx, 0, none⟩ (.string X)).setCell ⟨gx, 1, none⟩ (.bool y)) B g N a b d m gx :=
  ⟨X, y, hX, (hx.set 0 (.string X)).set 1 (.bool y), hg, (h.farSet hg _).farSet hg _⟩
set_option maxRecDepth 100000 in
set_option maxHeartbeats 8000000 in
theorem find_any {w : World} {B g N : Nat} {a b d m : Int} (h : Rd w B g N) (hN : N + 2000 ≤ 1000000000) :
    Calls Tryz.prog 47 #[.pointer (some ⟨g, 0, none⟩), cfV a b d m] w (FindPost w B g (N + 2000)) := by
  have hz := zero_find
  have hgl := h.lt
  have HD0 := Lib.hid (FD.start h a b d m)
  clear h
  cases hc : confB ⟨a, b, d, m⟩ with
  | false =>
    have HC := Lib.hid hc
    clear hc
    go_enter Tryz.func47, Tryz.ntmps47
    go_wp2_with fail
    refine (l7ConfOk_any a b d m _).mono ?_
    rintro e y1 ⟨rfl, hb1⟩
    have HD := Lib.hid (HD0.out.from hb1)
    rw [HC.out]
    clear hb1 HD0
    obtain ⟨X, hX⟩ : ∃ X : ByteArray, (⟨#[]⟩ : ByteArray) = X := ⟨_, rfl⟩
    have hXs : X.size ≤ 100 := by rw [← hX]; show 0 ≤ 100; omega
    obtain ⟨y, hy⟩ : ∃ y : Bool, false = y := ⟨_, rfl⟩
    rw [hX, hy] at HD
    clear hX hy
    go_wp2_with fail
    refine (pick_any 14 HD.out.2.2.2.1 (by omega)).mono ?_
    rintro e y2 ⟨⟨z, rfl, hz0, _⟩, hr2, hg2⟩
    have HD2 := Lib.hid (HD.out.next hr2 hg2)
    clear hz0 hr2 hg2 HD
    by_cases hz1 : z = 0
    · subst hz1
      obtain ⟨⟨c0, c1, c2, c3⟩, e0, e1⟩ := HD2.out.flat
      obtain ⟨⟨f0, f1⟩, r0, r1, g0, g1⟩ := HD2.out.more
      have HD3 := Lib.hid (HD2.out.over true)
      have hne : w.heap.size + 1 ≠ w.heap.size + 2 := by omega
      go_wp2
      exact bodyPost_ret (v := fdV X true) (by simp [results, Tryz.results47, go_sem, r0, r1]) rfl (find_end HD3.out (by omega))
    by_cases hz2 : z = 1
    · subst hz2
      have hrow := strs_row y2.drew
      have hDa := HD2.out.drew.alloc (.cells #[.string ⟨#[0]⟩, .string ⟨#[126]⟩, .string ⟨#[97]⟩] 9)
      rw [show y2.drew.alloc (.cells #[.string ⟨#[0]⟩, .string ⟨#[126]⟩, .string ⟨#[97]⟩] 9) = (y2.alloc (.cells #[.string ⟨#[0]⟩, .string ⟨#[126]⟩, .string ⟨#[97]⟩] 9)).drew from rfl] at hDa hrow
      obtain ⟨_, e0, e1⟩ := HD2.out.flat
      have ea : ∀ O, (y2.alloc O).cell? ⟨w.heap.size + 2, 0, none⟩ = some (.string X) := fun O => (HD2.out.alloc O).flat.2.1
      have hws : w.heap.size + 3 ≤ y2.heap.size := HD2.out.size
      have hgw := HD2.out.2.2.2.2.2
      go_wp2_with fail
      go_region_with ((go_at_call 84; refine (of_any (m := y2.heap.size) [⟨#[0]⟩, ⟨#[126]⟩, ⟨#[97]⟩] 9 hDa.2.2.2.1 (by omega) (by simp) (by simp) (by omega) hrow).mono ?_; rintro e y5 ⟨q, hq, rfl, hr5, hg5⟩; have hD5 := hDa.next hr5 hg5; obtain ⟨_, k0, k1⟩ := hD5.flat; obtain ⟨⟨f0, f1⟩, _, _, _, _⟩ := hD5.more; have hqs := one_of hq; have ha := (fun u : World => run_string_add_sum (P := Tryz.prog) u X q (by omega)); have HD5 := Lib.hid hD5; clear hr5 hg5 hD5))
      all_goals
        have hQs : (X ++ q).size ≤ 101 := by rw [ByteArray.size_append]; omega
        have hd6 := HD5.out.text (X ++ q)
        obtain ⟨_, n0, n1⟩ := hd6.flat
        obtain ⟨_, r0, r1, g0, g1⟩ := hd6.more
        have HD6 := Lib.hid hd6
        clear hd6 ha k0 k1 f0 f1 ea e0 e1 hrow hDa
        generalize y5.setCell ⟨w.heap.size + 2, 0, none⟩ (.string (X ++ q)) = y6 at *
        go_wp2
        exact bodyPost_ret (v := fdV (X ++ q) y) (by simp [results, Tryz.results47, go_sem, r0, r1]) rfl (find_end HD6.out (by omega))
    have b0 : (z == 0) = false := beq_eq_false_iff_ne.2 hz1
    have b1 : (z == 1) = false := beq_eq_false_iff_ne.2 hz2
    obtain ⟨⟨c0, c1, c2, c3⟩, e0, e1⟩ := HD2.out.flat
    obtain ⟨⟨f0, f1⟩, r0, r1, g0, g1⟩ := HD2.out.more
    go_wp2
    exact bodyPost_ret (v := fdV X y) (by simp [results, Tryz.results47, go_sem, r0, r1]) rfl (find_end HD2.out (by omega))
  | true =>
    have HC := Lib.hid hc
    clear hc
    go_enter Tryz.func47, Tryz.ntmps47
    go_wp2_with fail
    refine (l7ConfOk_any a b d m _).mono ?_
    rintro e y1 ⟨rfl, hb1⟩
    have HD1 := Lib.hid (HD0.out.from hb1)
    rw [HC.out]
    clear hb1 HD0
    go_wp2_with fail
    refine (pick_any 3 HD1.out.2.2.2.1 (by omega)).mono ?_
    rintro e x2 ⟨⟨x, rfl, hx, _⟩, hr2, hg2⟩
    obtain ⟨hx0, hx3⟩ := hx (by omega)
    have HD2 := Lib.hid (HD1.out.next hr2 hg2)
    clear hx hr2 hg2 HD1
    by_cases hxp : 0 < x
    · obtain ⟨⟨c0, c1, c2, c3⟩, _, _⟩ := HD2.out.flat
      go_wp2_with fail
      refine (stream_any HD2.out.2.2.2.1 (by omega) HC.out).mono ?_
      rintro e x3 ⟨S, rfl, hS6, hr3, hg3⟩
      have HD3 := Lib.hid (HD2.out.next hr3 hg3)
      have hwr : IntKind.i64.wrap ((S.size : Int) + 1) = (S.size : Int) + 1 := by rw [IntKind.wrap_i64]; omega
      clear hr3 hg3 HD2 c0 c1 c2 c3
      go_upto_region 4 with fail
      go_cut [7, 8] (fun s7 _ wx => ∃ gx, s7 = .pointer (some ⟨gx, 0, none⟩) ∧ FX w wx B g (N + 1 + 1000 + 1) a b d m gx)
      case first =>
        have hL := HD3.out.drew
        have hge : w.heap.size + 3 ≤ x3.heap.size := hL.size
        go_region_held3 (fun wx => (wx.cell? ⟨w.heap.size, 0, none⟩ = some (.int .i64 a) ∧ wx.cell? ⟨w.heap.size, 1, none⟩ = some (.int .i64 b) ∧ wx.cell? ⟨w.heap.size, 2, none⟩ = some (.int .i64 d) ∧ wx.cell? ⟨w.heap.size, 3, none⟩ = some (.int .i64 m)) ∧ (wx.cell? ⟨w.heap.size + 2, 0, none⟩ = some (.string ⟨#[]⟩) ∧ wx.cell? ⟨w.heap.size + 2, 1, none⟩ = some (.bool false))) (first | exact hLl.flat | exact (hLl.alloc _).flat | exact ((hLl.farSet hgx _).farSet hgx _).flat | exact hL.flat | exact (hL.alloc _).flat) (first | (go_at_call 46; (first | (refine (pick_any ((S.size : Int) + 1) hL.2.2.2.1 (by omega)).mono ?_; rintro e w2x ⟨⟨z, rfl, hz, _⟩, hr4, hg4⟩; have hL := hL.next hr4 hg4) | (refine (pick_any ((S.size : Int) + 1) (hL.alloc (.cells #[.string ⟨#[]⟩, .bool false] 26)).2.2.2.1 (by omega)).mono ?_; rintro e w2x ⟨⟨z, rfl, hz, _⟩, hr4, hg4⟩; have hx : BK w2x x3.heap.size #[.string ⟨#[]⟩, .bool false] 26 := (BK.new x3.drew _ _).next hg4 (show g < x3.heap.size by omega); have hgx : w.heap.size + 3 ≤ x3.heap.size := hge; have hL := (hL.alloc (.cells #[.string ⟨#[]⟩, .bool false] 26)).next hr4 hg4)); obtain ⟨hz0, hz1⟩ := hz (by omega); obtain ⟨k, rfl⟩ : ∃ k : Nat, z = (k : Int) := ⟨z.toNat, by omega⟩; have hsl := slice_to S k (by omega); have hPs : (S.extract 0 k).size ≤ 600 := (by rw [ByteArray.size_extract]; omega)) | (go_at_call 52; refine (feed_small HC.out _ hPs _).mono ?_; rintro e w3 ⟨Xn, yn, v3, rfl, hXn, hb3⟩; (first | (have hx3 := hx.from hb3; have q0 := hx3.cell (i := 0) rfl; have q1 := hx3.cell (i := 1) rfl; have p0 := hx3.free 0; have p1 := hx3.free 1; have hLl := hL.from hb3) | (have hLl := hL.from hb3) | (have hx := bk_before hb3; have hx3 := hx.from hb3; have q0 := hx3.cell (i := 0) rfl; have q1 := hx3.cell (i := 1) rfl; have p0 := hx3.free 0; have p1 := hx3.free 1; have hgx := hL.size; have hLl := (hL.alloc (.cells #[.string ⟨#[]⟩, .bool false] 26)).from hb3))))
        all_goals
          (first
            | (have hFX := fx_box (y := yn) hLl hx3 hgx hXn)
            | (have hFX := fx_last (y := yn) hLl hXn))
          have HFX := Lib.hid hFX
          clear hFX
          go_wp2
          go_meet
          exact ⟨_, rfl, HFX.out⟩
      case rest =>
        obtain ⟨gx, rfl, X, y, hXs, hbk, hgx, hfd⟩ := hcut
        have k0 := hbk.cell (i := 0) rfl
        have k1 := hbk.cell (i := 1) rfl
        obtain ⟨_, e0, e1⟩ := hfd.flat
        obtain ⟨⟨f0, f1⟩, _, _, _, _⟩ := hfd.more
        have HD := Lib.hid ((hfd.text X).over y)
        clear hbk hfd HD3
        generalize hwq : (wc.setCell ⟨w.heap.size + 2, 0, none⟩ (.string X)).setCell ⟨w.heap.size + 2, 1, none⟩ (.bool y) = wq at *
        go_wp2_with fail
        clear hwq k0 k1 e0 e1 f0 f1
        refine (pick_any 14 HD.out.2.2.2.1 (by omega)).mono ?_
        rintro e y2 ⟨⟨z, rfl, hz0, _⟩, hr2, hg2⟩
        have HD2 := Lib.hid (HD.out.next hr2 hg2)
        clear hz0 hr2 hg2 HD
        by_cases hz1 : z = 0
        · subst hz1
          obtain ⟨⟨c0, c1, c2, c3⟩, e0, e1⟩ := HD2.out.flat
          obtain ⟨⟨f0, f1⟩, r0, r1, g0, g1⟩ := HD2.out.more
          have HD3 := Lib.hid (HD2.out.over true)
          have hne : w.heap.size + 1 ≠ w.heap.size + 2 := by omega
          go_wp2
          exact bodyPost_ret (v := fdV X true) (by simp [results, Tryz.results47, go_sem, r0, r1]) rfl (find_end HD3.out (by omega))
        by_cases hz2 : z = 1
        · subst hz2
          have hrow := strs_row y2.drew
          have hDa := HD2.out.drew.alloc (.cells #[.string ⟨#[0]⟩, .string ⟨#[126]⟩, .string ⟨#[97]⟩] 9)
          rw [show y2.drew.alloc (.cells #[.string ⟨#[0]⟩, .string ⟨#[126]⟩, .string ⟨#[97]⟩] 9) = (y2.alloc (.cells #[.string ⟨#[0]⟩, .string ⟨#[126]⟩, .string ⟨#[97]⟩] 9)).drew from rfl] at hDa hrow
          obtain ⟨_, e0, e1⟩ := HD2.out.flat
          have ea : ∀ O, (y2.alloc O).cell? ⟨w.heap.size + 2, 0, none⟩ = some (.string X) := fun O => (HD2.out.alloc O).flat.2.1
          have hws : w.heap.size + 3 ≤ y2.heap.size := HD2.out.size
          have hgw := HD2.out.2.2.2.2.2
          go_wp2_with fail
          go_region_with ((go_at_call 84; refine (of_any (m := y2.heap.size) [⟨#[0]⟩, ⟨#[126]⟩, ⟨#[97]⟩] 9 hDa.2.2.2.1 (by omega) (by simp) (by simp) (by omega) hrow).mono ?_; rintro e y5 ⟨q, hq, rfl, hr5, hg5⟩; have hD5 := hDa.next hr5 hg5; obtain ⟨_, k0, k1⟩ := hD5.flat; obtain ⟨⟨f0, f1⟩, _, _, _, _⟩ := hD5.more; have hqs := one_of hq; have ha := (fun u : World => run_string_add_sum (P := Tryz.prog) u X q (by omega)); have HD5 := Lib.hid hD5; clear hr5 hg5 hD5))
          all_goals
            have hQs : (X ++ q).size ≤ 101 := by rw [ByteArray.size_append]; omega
            have hd6 := HD5.out.text (X ++ q)
            obtain ⟨_, n0, n1⟩ := hd6.flat
            obtain ⟨_, r0, r1, g0, g1⟩ := hd6.more
            have HD6 := Lib.hid hd6
            clear hd6 ha k0 k1 f0 f1 ea e0 e1 hrow hDa
            generalize y5.setCell ⟨w.heap.size + 2, 0, none⟩ (.string (X ++ q)) = y6 at *
            go_wp2
            exact bodyPost_ret (v := fdV (X ++ q) y) (by simp [results, Tryz.results47, go_sem, r0, r1]) rfl (find_end HD6.out (by omega))
        have b0 : (z == 0) = false := beq_eq_false_iff_ne.2 hz1
        have b1 : (z == 1) = false := beq_eq_false_iff_ne.2 hz2
        obtain ⟨⟨c0, c1, c2, c3⟩, e0, e1⟩ := HD2.out.flat
        obtain ⟨⟨f0, f1⟩, r0, r1, g0, g1⟩ := HD2.out.more
        go_wp2
        exact bodyPost_ret (v := fdV X y) (by simp [results, Tryz.results47, go_sem, r0, r1]) rfl (find_end HD2.out (by omega))
    · have HD := HD2
      obtain ⟨X, hX⟩ : ∃ X : ByteArray, (⟨#[]⟩ : ByteArray) = X := ⟨_, rfl⟩
      have hXs : X.size ≤ 100 := by rw [← hX]; show 0 ≤ 100; omega
      obtain ⟨y, hy⟩ : ∃ y : Bool, false = y := ⟨_, rfl⟩
      rw [hX, hy] at HD
      clear hX hy HD2
      go_wp2_with fail
      refine (pick_any 14 HD.out.2.2.2.1 (by omega)).mono ?_
      rintro e y2 ⟨⟨z, rfl, hz0, _⟩, hr2, hg2⟩
      have HD2 := Lib.hid (HD.out.next hr2 hg2)
      clear hz0 hr2 hg2 HD
      by_cases hz1 : z = 0
      · subst hz1
        obtain ⟨⟨c0, c1, c2, c3⟩, e0, e1⟩ := HD2.out.flat
        obtain ⟨⟨f0, f1⟩, r0, r1, g0, g1⟩ := HD2.out.more
        have HD3 := Lib.hid (HD2.out.over true)
        have hne : w.heap.size + 1 ≠ w.heap.size + 2 := by omega
        go_wp2
        exact bodyPost_ret (v := fdV X true) (by simp [results, Tryz.results47, go_sem, r0, r1]) rfl (find_end HD3.out (by omega))
      by_cases hz2 : z = 1
      · subst hz2
        have hrow := strs_row y2.drew
        have hDa := HD2.out.drew.alloc (.cells #[.string ⟨#[0]⟩, .string ⟨#[126]⟩, .string ⟨#[97]⟩] 9)
        rw [show y2.drew.alloc (.cells #[.string ⟨#[0]⟩, .string ⟨#[126]⟩, .string ⟨#[97]⟩] 9) = (y2.alloc (.cells #[.string ⟨#[0]⟩, .string ⟨#[126]⟩, .string ⟨#[97]⟩] 9)).drew from rfl] at hDa hrow
        obtain ⟨_, e0, e1⟩ := HD2.out.flat
        have ea : ∀ O, (y2.alloc O).cell? ⟨w.heap.size + 2, 0, none⟩ = some (.string X) := fun O => (HD2.out.alloc O).flat.2.1
        have hws : w.heap.size + 3 ≤ y2.heap.size := HD2.out.size
        have hgw := HD2.out.2.2.2.2.2
        go_wp2_with fail
        go_region_with ((go_at_call 84; refine (of_any (m := y2.heap.size) [⟨#[0]⟩, ⟨#[126]⟩, ⟨#[97]⟩] 9 hDa.2.2.2.1 (by omega) (by simp) (by simp) (by omega) hrow).mono ?_; rintro e y5 ⟨q, hq, rfl, hr5, hg5⟩; have hD5 := hDa.next hr5 hg5; obtain ⟨_, k0, k1⟩ := hD5.flat; obtain ⟨⟨f0, f1⟩, _, _, _, _⟩ := hD5.more; have hqs := one_of hq; have ha := (fun u : World => run_string_add_sum (P := Tryz.prog) u X q (by omega)); have HD5 := Lib.hid hD5; clear hr5 hg5 hD5))
        all_goals
          have hQs : (X ++ q).size ≤ 101 := by rw [ByteArray.size_append]; omega
          have hd6 := HD5.out.text (X ++ q)
          obtain ⟨_, n0, n1⟩ := hd6.flat
          obtain ⟨_, r0, r1, g0, g1⟩ := hd6.more
          have HD6 := Lib.hid hd6
          clear hd6 ha k0 k1 f0 f1 ea e0 e1 hrow hDa
          generalize y5.setCell ⟨w.heap.size + 2, 0, none⟩ (.string (X ++ q)) = y6 at *
          go_wp2
          exact bodyPost_ret (v := fdV (X ++ q) y) (by simp [results, Tryz.results47, go_sem, r0, r1]) rfl (find_end HD6.out (by omega))
      have b0 : (z == 0) = false := beq_eq_false_iff_ne.2 hz1
      have b1 : (z == 1) = false := beq_eq_false_iff_ne.2 hz2
      obtain ⟨⟨c0, c1, c2, c3⟩, e0, e1⟩ := HD2.out.flat
      obtain ⟨⟨f0, f1⟩, r0, r1, g0, g1⟩ := HD2.out.more
      go_wp2
      exact bodyPost_ret (v := fdV X y) (by simp [results, Tryz.results47, go_sem, r0, r1]) rfl (find_end HD2.out (by omega))
end Go.Proofs.YtdnedoafgfpnfaaGreat
