/- The draw of a finder. -/
import Derived.Test.YtekhakapmpdnaaaDrawWire
import Derived.Test.YtekhakapmpdnaaaHdlcI
import Derived.Deep.DeepCutAuto
namespace Go.Proofs.Ytekhakapmpdnaaa
open Go.ChangeShapes Go.WideShapes Go.ChangeAt Go.RowKit
/-- a block of three cells -/
def B3 (W : World) (g : Nat) (a b c : Value) : Prop := W.heap[g]? = some (.cells #[a, b, c] 29 (0, 0))
section
variable {W W' : World} {g : Nat} {a b c : Value}
theorem B3.lt (h : B3 W g a b c) : g < W.heap.size := (Array.getElem?_eq_some_iff.1 h).1
theorem B3.cells (h : B3 W g a b c) : W.cell? ⟨g, 0, none⟩ = some a ∧ W.cell? ⟨g, 1, none⟩ = some b ∧ W.cell? ⟨g, 2, none⟩ = some c := by
  refine ⟨?_, ?_, ?_⟩
  · rw [cell_of_row W _ 0 _ _ _ h]; rfl
  · rw [cell_of_row W _ 1 _ _ _ h]; rfl
  · rw [cell_of_row W _ 2 _ _ _ h]; rfl
theorem B3.free (h : B3 W g a b c) : W.frozen? ⟨g, 0, none⟩ = false ∧ W.frozen? ⟨g, 1, none⟩ = false ∧ W.frozen? ⟨g, 2, none⟩ = false := by
  unfold B3 at h
  refine ⟨?_, ?_, ?_⟩ <;> simp [World.frozen?, h]
theorem B3.grown {row : Option Nat} (h : B3 W g a b c) (hg : W.grownBy W' row) (hr : row ≠ some g) : B3 W' g a b c := (hg.block g h.lt (fun e => hr e.symm)).trans h
theorem B3.below (h : B3 W g a b c) (hb : Below W.heap.size W W') : B3 W' g a b c := (hb.block g h.lt).trans h
theorem B3.alloc (h : B3 W g a b c) (o : Obj) : B3 (W.alloc o) g a b c := (Below.heap_alloc W o g h.lt).trans h
theorem B3.new (W : World) (a b c : Value) : B3 (W.alloc (.cells #[a, b, c] 29)) W.heap.size a b c := heap_alloc_new W _
theorem B3.put (h : B3 W g a b c) (x y z : Value) : B3 (((W.setCell ⟨g, 0, none⟩ x).setCell ⟨g, 1, none⟩ y).setCell ⟨g, 2, none⟩ z) g x y z := by
  unfold B3 at h ⊢
  rw [setCell_eq_setRow W _ 0 _ _ _ _ h]
  have e1 := setRow_heap W g _ (#[a, b, c].setIfInBounds 0 x) _ _ h
  rw [setCell_eq_setRow _ _ 1 _ _ _ _ e1]
  have e2 := setRow_heap _ g _ ((#[a, b, c].setIfInBounds 0 x).setIfInBounds 1 y) _ _ e1
  rw [setCell_eq_setRow _ _ 2 _ _ _ _ e2]
  exact setRow_heap _ g _ _ _ _ e2
theorem B3.far (h : B3 W g a b c) {j o : Nat} (hj : j ≠ g) (x : Value) : B3 (W.setCell ⟨j, o, none⟩ x) g a b c := by
  unfold B3 at h ⊢
  rw [Below.heap_setCell _ _ _ _ (by simpa using Ne.symm hj)]; exact h
end
/-- a stage of the draw: the reader, the two boxes, the finder in the second -/
def Mid (w W : World) (B g N : Nat) (h : HS) : Prop :=
  B3 W w.heap.size (.bool false) (.int .i64 0) (.string ⟨#[]⟩) ∧ B3 W (w.heap.size + 1) (.bool h.inn) (.int .i64 h.ones) (.string ⟨h.bits.toArray⟩) ∧ hokB h = true ∧ Rd W B g N ∧ w.grownBy W (some g)
def zeroH : HS := ⟨false, 0, []⟩
theorem Mid.start {w : World} {B g N : Nat} (h : Rd w B g N) : Mid w ((w.alloc (.cells #[.bool false, .int .i64 0, .string ⟨#[]⟩] 29)).alloc (.cells #[.bool false, .int .i64 0, .string ⟨#[]⟩] 29)) B g N zeroH := by
  refine ⟨(B3.new w _ _ _).alloc _, ?_, rfl, (h.alloc _).alloc _, grown_alloc (World.grownBy_alloc w _ _) _⟩
  have := B3.new (w.alloc (.cells #[.bool false, .int .i64 0, .string ⟨#[]⟩] 29)) (.bool false) (.int .i64 0) (.string ⟨#[]⟩)
  rw [World.size_alloc] at this
  exact this
theorem Mid.grown {w W W' : World} {B g N N' : Nat} {h : HS} (m : Mid w W B g N h) (hgl : g < w.heap.size) (hr : Rd W' B g N') (hg : W.grownBy W' (some g)) : Mid w W' B g N' h :=
  ⟨m.1.grown hg (by simp; omega), m.2.1.grown hg (by simp; omega), m.2.2.1, hr, grown_trans m.2.2.2.2 hg⟩
theorem Mid.below {w W W' : World} {B g N : Nat} {h : HS} (m : Mid w W B g N h) (hb : Below W.heap.size W W') : Mid w W' B g N h :=
  ⟨m.1.below hb, m.2.1.below hb, m.2.2.1, m.2.2.2.1.from hb, grown_from m.2.2.2.2 hb⟩
theorem Mid.alloc {w W : World} {B g N : Nat} {h : HS} (m : Mid w W B g N h) (o : Obj) : Mid w (W.alloc o) B g N h := m.below ((Below.refl _ _).alloc (Nat.le_refl _) _)
theorem Mid.drew {w W : World} {B g N : Nat} {h : HS} (m : Mid w W B g N h) : Mid w W.drew B g N h := ⟨m.1, m.2.1, m.2.2.1, m.2.2.2.1, wgrown_drew m.2.2.2.2⟩
theorem Mid.mono {w W : World} {B g N N' : Nat} {h : HS} (m : Mid w W B g N h) (hN : N ≤ N') : Mid w W B g N' h := ⟨m.1, m.2.1, m.2.2.1, m.2.2.2.1.mono hN, m.2.2.2.2⟩
theorem Mid.size {w W : World} {B g N : Nat} {h : HS} (m : Mid w W B g N h) : w.heap.size + 1 < W.heap.size := m.2.1.lt
theorem Mid.far {w W : World} {B g N : Nat} {h : HS} (m : Mid w W B g N h) (hgl : g < w.heap.size) {j o : Nat} (hj : w.heap.size + 1 < j) (x : Value) : Mid w (W.setCell ⟨j, o, none⟩ x) B g N h := by
  refine ⟨m.1.far (by omega) _, m.2.1.far (by omega) _, m.2.2.1, m.2.2.2.1.keep fun i hi => ?_, ?_⟩
  · have hB : B ≤ g := by obtain ⟨_, _, _, _, _, _, _, _, _, h5, _⟩ := m.2.2.2.1; exact h5
    exact Below.heap_setCell _ _ _ _ (by simp only; omega)
  · have hg := m.2.2.2.2
    refine ⟨hg.os, hg.tape, hg.output, by simpa using hg.size, fun k hk hne => ?_⟩
    rw [Below.heap_setCell _ _ _ _ (by simp only; omega)]
    exact hg.block k hk hne
theorem Mid.put {w W : World} {B g N : Nat} {h h' : HS} (m : Mid w W B g N h) (hgl : g < w.heap.size) (hok : hokB h' = true) :
    Mid w (((W.setCell ⟨w.heap.size + 1, 0, none⟩ (.bool h'.inn)).setCell ⟨w.heap.size + 1, 1, none⟩ (.int .i64 h'.ones)).setCell ⟨w.heap.size + 1, 2, none⟩ (.string ⟨h'.bits.toArray⟩)) B g N h' := by
  refine ⟨((m.1.far (by omega) _).far (by omega) _).far (by omega) _, m.2.1.put _ _ _, hok, m.2.2.2.1.keep fun i hi => ?_, ?_⟩
  · have hB : B ≤ g := by obtain ⟨_, _, _, _, _, _, _, _, _, h5, _⟩ := m.2.2.2.1; exact h5
    rw [Below.heap_setCell _ _ _ _ (by simp only; omega), Below.heap_setCell _ _ _ _ (by simp only; omega), Below.heap_setCell _ _ _ _ (by simp only; omega)]
  · have hg := m.2.2.2.2
    refine ⟨hg.os, hg.tape, hg.output, by simpa using hg.size, fun k hk hne => ?_⟩
    rw [Below.heap_setCell _ _ _ _ (by simp only; omega), Below.heap_setCell _ _ _ _ (by simp only; omega), Below.heap_setCell _ _ _ _ (by simp only; omega)]
    exact hg.block k hk hne
/-- the reader, and nothing elder but it has turned -/
def RG (w W : World) (B g N : Nat) : Prop := Rd W B g N ∧ w.grownBy W (some g)
theorem RG.set {w W : World} {B g N : Nat} (h : RG w W B g N) (hgl : g < w.heap.size) {j o : Nat} (hj : w.heap.size ≤ j) (x : Value) : RG w (W.setCell ⟨j, o, none⟩ x) B g N := by
  have hB : B ≤ g := by obtain ⟨_, _, _, _, _, _, _, _, _, h5, _⟩ := h.1; exact h5
  refine ⟨h.1.keep fun i hi => Below.heap_setCell _ _ _ _ (by simp only; omega), ?_⟩
  have hg := h.2
  refine ⟨hg.os, hg.tape, hg.output, by simpa using hg.size, fun k hk hne => ?_⟩
  rw [Below.heap_setCell _ _ _ _ (by simp only; omega)]
  exact hg.block k hk hne
theorem Mid.rg {w W : World} {B g N : Nat} {h : HS} (m : Mid w W B g N h) : RG w W B g N := ⟨m.2.2.2.1, m.2.2.2.2⟩
/-- behind the region: the new finder lies in a box of its own -/
def After (w W : World) (B g N gx : Nat) (x y z : Value) : Prop := B3 W gx x y z ∧ w.heap.size + 1 < gx ∧ Mid w W B g N zeroH
theorem after_last {w w5 w6 : World} {B g N : Nat} {x y z : Value} (m : Mid w w5 B g N zeroH) (hb : Below w5.heap.size w5 w6) : After w (w6.alloc (.cells #[x, y, z] 29)) B g N w6.heap.size x y z :=
  ⟨B3.new _ _ _ _, (m.below hb).size, (m.below hb).alloc _⟩
theorem after_mid {w w5 w6 : World} {B g N : Nat} {x y z a b c : Value} (hgl : g < w.heap.size) (m : Mid w w5 B g N zeroH) (hb : Below (w5.alloc (.cells #[a, b, c] 29)).heap.size (w5.alloc (.cells #[a, b, c] 29)) w6) :
    After w (((w6.setCell ⟨w5.heap.size, 0, none⟩ x).setCell ⟨w5.heap.size, 1, none⟩ y).setCell ⟨w5.heap.size, 2, none⟩ z) B g N w5.heap.size x y z :=
  ⟨((B3.new w5 a b c).below hb).put _ _ _, m.size, ((((m.alloc _).below hb).far hgl m.size _).far hgl m.size _).far hgl m.size _⟩
theorem after_first {w w2 w5 w6 : World} {B g N N' : Nat} {x y z a b c : Value} (hgl : g < w.heap.size) (m2 : Mid w w2 B g N' zeroH) (m : Mid w w5 B g N zeroH) (hg : (w2.drew.alloc (.cells #[a, b, c] 29)).grownBy w5 (some g)) (hb : Below w5.heap.size w5 w6) :
    After w (((w6.setCell ⟨w2.heap.size, 0, none⟩ x).setCell ⟨w2.heap.size, 1, none⟩ y).setCell ⟨w2.heap.size, 2, none⟩ z) B g N w2.heap.size x y z :=
  ⟨((((B3.new w2.drew a b c).grown hg (by have := m2.size; simp; omega)).below hb : B3 w6 w2.heap.size a b c)).put _ _ _, m2.size, (((m.below hb).far hgl m2.size _).far hgl m2.size _).far hgl m2.size _⟩
theorem ok_extract {T : ByteArray} (h : BitsUp T 1200) (k : Nat) : okB (T.extract 0 k).data.toList = true := by
  rw [ext_head]
  exact ok_of (take_bits h.1 k) (by rw [List.length_take, size_list]; have := h.2; omega)
theorem feed0 (s : ByteArray) (w : World) (h : okB s.data.toList = true) : Calls Try.prog 49 #[.int .i64 2, .agg #[.bool false, .int .i64 0, .string ⟨#[]⟩], .string s] w (FeedPost w (hfeed 2 zeroH s.data.toList)) :=
  l4Feed_any 2 false 0 ⟨#[]⟩ s w rfl rfl h
theorem h_cells {w W : World} {B g N : Nat} (m : Mid w W B g N zeroH) : (W.cell? ⟨w.heap.size + 1, 0, none⟩ = some (.bool false) ∧ W.cell? ⟨w.heap.size + 1, 1, none⟩ = some (.int .i64 0) ∧ W.cell? ⟨w.heap.size + 1, 2, none⟩ = some (.string ⟨#[]⟩)) ∧
    (∀ o : Obj, (W.alloc o).cell? ⟨w.heap.size + 1, 0, none⟩ = some (.bool false)) ∧ (∀ o : Obj, (W.alloc o).cell? ⟨w.heap.size + 1, 1, none⟩ = some (.int .i64 0)) ∧ ∀ o : Obj, (W.alloc o).cell? ⟨w.heap.size + 1, 2, none⟩ = some (.string ⟨#[]⟩) :=
  ⟨m.2.1.cells, fun o => (m.alloc o).2.1.cells.1, fun o => (m.alloc o).2.1.cells.2.1, fun o => (m.alloc o).2.1.cells.2.2⟩
def HdPost (w : World) (B g N : Nat) (e : Ending) (w' : World) : Prop := ∃ (i : Bool) (n : Int) (b : ByteArray), e = .returned (.agg #[.bool i, .int .i64 n, .string b]) ∧ b.size ≤ 241 ∧ Rd w' B g N ∧ w.grownBy w' (some g)
theorem fin_ok {w W : World} {B g N N' : Nat} {i : Bool} {n : Int} {b : ByteArray} {r : Value} (hr : r = .agg #[.bool i, .int .i64 n, .string b]) (hb : b.size ≤ 241) (h : RG w W B g N') (hN : N' ≤ N) : HdPost w B g N (.returned r) W := by
  subst hr
  exact ⟨i, n, b, rfl, hb, h.1.mono hN, h.2⟩
set_option maxRecDepth 100000 in
set_option maxHeartbeats 4000000 in
theorem hdlc_any {w : World} {B g N : Nat} (h : Rd w B g N) (hN : N + 1000 ≤ 1000000000) :
    Calls Try.prog 45 #[.pointer (some ⟨g, 0, none⟩)] w (HdPost w B g (N + 1000)) := by
  have hz := zero_hdlc
  have hgl := h.lt
  have HM := Lib.hid (Mid.start h)
  clear h
  go_enter Try.func45, Try.ntmps45
  go_upto_if 10 with (go_at_call 34; refine (pick_any _ HM.out.2.2.2.1 (by omega)).mono ?_; rintro e w1 ⟨⟨x, rfl, hx, _⟩, hr1, hg1⟩; have HM1 := Lib.hid (HM.out.grown hgl hr1 hg1); clear hr1 hg1)
  go_cut [4] (fun _ wx => ∃ h, Mid w wx B g (N + 500) h)
  case first =>
    by_cases hx0 : 0 < x
    · go_wp2_with fail
      refine (wire_any 2 rfl HM1.out.2.2.2.1 (by omega)).mono ?_
      rintro e w2 ⟨T, rfl, hT, hr2, hg2⟩
      have HM2 := Lib.hid (HM1.out.grown hgl hr2 hg2)
      have hTs := hT.2
      have HT := Lib.hid hT
      clear hr2 hg2 hT hx
      obtain ⟨⟨c0, c1, c2⟩, ca0, ca1, ca2⟩ := h_cells HM2.out.drew
      obtain ⟨_, cb0, cb1, cb2⟩ := h_cells HM2.out
      have hwr : IntKind.i64.wrap ((T.size : Int) + 1) = (T.size : Int) + 1 := wrap_in _ (by omega) (by omega)
      have hl2 := HM2.out.size
      have hne2 : (some g : Option Nat) ≠ some w2.drew.heap.size := by simp; omega
      have HTok := Lib.hid (ok_extract HT.out)
      go_wp2_with fail
      go_region_with (first | (go_at_call 34; (first | (refine (pick_any (w := w2.drew) ((T.size : Int) + 1) HM2.out.drew.2.2.2.1 (by omega)).mono ?_; rintro e w5 ⟨⟨x5, rfl, hx5, _⟩, hr5, hg5⟩; have HM5 := Lib.hid (HM2.out.drew.grown hgl hr5 hg5); clear hg5) | (refine (pick_any (w := w2.drew.alloc _) ((T.size : Int) + 1) (HM2.out.drew.2.2.2.1.alloc _) (by omega)).mono ?_; rintro e w5 ⟨⟨x5, rfl, hx5, _⟩, hr5, hg5⟩; have HM5 := Lib.hid ((HM2.out.drew.alloc _).grown hgl hr5 hg5); have hbx : B3 w5 w2.heap.size (.bool false) (.int .i64 0) (.string ⟨#[]⟩) := ((B3.new w2.drew (.bool false) (.int .i64 0) (.string ⟨#[]⟩)).grown hg5 hne2); obtain ⟨d0, d1, d2⟩ := hbx.cells; obtain ⟨f0, f1, f2⟩ := hbx.free; have hl25 := hbx.lt; clear hbx; have HG5 := Lib.hid hg5; clear hg5)); obtain ⟨q0, q1⟩ := hx5 (by omega); obtain ⟨k5, rfl⟩ := Int.eq_ofNat_of_zero_le q0; have hk5 : k5 ≤ T.size := (by omega); clear hx5 q0 q1 hr5; obtain ⟨⟨e0, e1, e2⟩, ea0, ea1, ea2⟩ := h_cells HM5.out; have hl5 := HM5.out.size) | (go_at_call 49; refine (feed0 _ _ (HTok.out _)).mono ?_; rintro e w6 ⟨⟨v6, rfl, _⟩, hb6⟩; have HOK6 := Lib.hid (hfeed_ok 2 (T.extract 0 k5).data.toList zeroH rfl); generalize hfeed 2 zeroH (T.extract 0 k5).data.toList = p6 at *; obtain ⟨⟨i6, n6, b6⟩, e6⟩ := p6; rw [hV]; simp only at HOK6; obtain ⟨hc6, hf6⟩ := old_cells hb6; have hz6 := hb6.size; have HB6 := Lib.hid hb6; clear hb6))
      all_goals
        (first
          | (have hq := after_first (x := .bool i6) (y := .int .i64 n6) (z := .string ⟨b6.toArray⟩) hgl HM2.out HM5.out HG5.out HB6.out; generalize ((w6.setCell ⟨w2.heap.size, 0, none⟩ (.bool i6)).setCell ⟨w2.heap.size, 1, none⟩ (.int .i64 n6)).setCell ⟨w2.heap.size, 2, none⟩ (.string ⟨b6.toArray⟩) = w7 at hq ⊢; generalize w2.heap.size = gx at hq ⊢)
          | (have hq := after_mid (x := .bool i6) (y := .int .i64 n6) (z := .string ⟨b6.toArray⟩) hgl HM5.out HB6.out; generalize ((w6.setCell ⟨w5.heap.size, 0, none⟩ (.bool i6)).setCell ⟨w5.heap.size, 1, none⟩ (.int .i64 n6)).setCell ⟨w5.heap.size, 2, none⟩ (.string ⟨b6.toArray⟩) = w7 at hq ⊢; generalize w5.heap.size = gx at hq ⊢)
          | (have hq := after_last (x := .bool i6) (y := .int .i64 n6) (z := .string ⟨b6.toArray⟩) HM5.out HB6.out; generalize (w6.alloc (.cells #[.bool i6, .int .i64 n6, .string ⟨b6.toArray⟩] 29)) = w7 at hq ⊢; generalize w6.heap.size = gx at hq ⊢))
        obtain ⟨hbx7, hgx7, hm7⟩ := hq
        obtain ⟨k0, k1, k2⟩ := hbx7.cells
        obtain ⟨m0, m1, m2⟩ := hm7.2.1.cells
        obtain ⟨l0, l1, l2⟩ := hm7.2.1.free
        have HM8 := Lib.hid ((hm7.put hgl (h' := ⟨i6, n6, b6⟩) HOK6.out).mono (N' := N + 500) (by omega))
        clear hbx7 hm7 HM5 HB6 HM2 c0 c1 c2 ca0 ca1 ca2 cb0 cb1 cb2 e0 e1 e2 ea0 ea1 ea2 hc6 hf6
        go_wp2
        go_meet
        exact ⟨⟨i6, n6, b6⟩, HM8.out⟩
    · go_wp2
      go_meet
      exact ⟨zeroH, HM1.out.mono (by omega)⟩
  case rest =>
    obtain ⟨hh, hmid⟩ := hcut
    have HM2 := Lib.hid hmid
    clear hmid HM1 hx
    go_wp2_with fail
    refine (pick_any _ HM2.out.2.2.2.1 (by omega)).mono ?_
    rintro e w3 ⟨⟨y, rfl, hy, _⟩, hr3, hg3⟩
    have hm3 := HM2.out.grown hgl hr3 hg3
    obtain ⟨hh1, hh2, hh3⟩ := hh
    obtain ⟨k1, k2, _, _⟩ := (hok_iff _).1 hm3.2.2.1
    obtain ⟨b, rfl⟩ : ∃ b : ByteArray, b.data.toList = hh3 := ⟨⟨hh3.toArray⟩, rfl⟩
    have hbs : b.size ≤ 240 := by simpa [size_list] using k2
    obtain ⟨p0, p1, p2⟩ := hm3.2.1.cells
    obtain ⟨q0, q1, q2⟩ := hm3.2.1.free
    obtain ⟨r0, r1, r2⟩ := hm3.1.cells
    obtain ⟨s0, s1, s2⟩ := hm3.1.free
    simp only [Lib.mk_data] at p0 p1 p2
    have HM3 := Lib.hid hm3
    have HRG3 := Lib.hid hm3.rg
    clear hr3 hg3 hm3 HM2 k1 k2
    by_cases hy0 : y = 0
    · subst hy0
      clear p0 p1 p2 q0 q1 q2 r0 r1 r2 s0 s1 s2
      go_wp2_with fail
      refine (one_any [-1, 8, 3] 3 (HM3.out.2.2.2.1.alloc _) (by omega) (by simp) (by simp) (by have := HM3.out.size; omega) (list_row w3 _ _ _ rfl)).mono ?_
      rintro e w4 ⟨n4, _, rfl, hr4, hg4⟩
      have hm4 := (HM3.out.alloc _).grown hgl hr4 hg4
      obtain ⟨p0, p1, p2⟩ := hm4.2.1.cells
      obtain ⟨q0, q1, q2⟩ := hm4.2.1.free
      obtain ⟨r0, r1, r2⟩ := hm4.1.cells
      obtain ⟨s0, s1, s2⟩ := hm4.1.free
      simp only [Lib.mk_data] at p0 p1 p2
      have HRG4 := Lib.hid hm4.rg
      clear hr4 hg4 hm4
      go_wp2
      exact bodyPost_ret (v := .agg #[.bool hh1, .int .i64 n4, .string b]) (by simp [results, Try.results45, go_sem, r0, r1, r2]) rfl (fin_ok rfl (by omega) ((((HRG4.out.set hgl (by simp) _).set hgl (by simp) _).set hgl (by simp) _).set hgl (by simp) _) (by omega))
    have hb0 : ((y : Int) == 0) = false := beq_eq_false_iff_ne.2 hy0
    by_cases hy1 : y = 1
    · subst hy1
      go_wp2
      exact bodyPost_ret (v := .agg #[.bool hh1, .int .i64 hh2, .string (b ++ ⟨#[120]⟩)]) (by simp [results, Try.results45, go_sem, r0, r1, r2]) rfl (fin_ok rfl (by rw [app_size, show (⟨#[120]⟩ : ByteArray).size = 1 from rfl]; omega) ((((HRG3.out.set hgl (by simp) _).set hgl (by simp) _).set hgl (by simp) _).set hgl (by simp) _) (by omega))
    have hb1 : ((y : Int) == 1) = false := beq_eq_false_iff_ne.2 hy1
    by_cases hy2 : y = 2
    · subst hy2
      go_wp2
      exact bodyPost_ret (v := .agg #[.bool false, .int .i64 hh2, .string b]) (by simp [results, Try.results45, go_sem, r0, r1, r2]) rfl (fin_ok rfl (by omega) ((((HRG3.out.set hgl (by simp) _).set hgl (by simp) _).set hgl (by simp) _).set hgl (by simp) _) (by omega))
    have hb2 : ((y : Int) == 2) = false := beq_eq_false_iff_ne.2 hy2
    clear hy0 hy1 hy2
    go_wp2
    exact bodyPost_ret (v := .agg #[.bool hh1, .int .i64 hh2, .string b]) (by simp [results, Try.results45, go_sem, r0, r1, r2]) rfl (fin_ok rfl (by omega) (((HRG3.out.set hgl (by simp) _).set hgl (by simp) _).set hgl (by simp) _) (by omega))
end Go.Proofs.Ytekhakapmpdnaaa
