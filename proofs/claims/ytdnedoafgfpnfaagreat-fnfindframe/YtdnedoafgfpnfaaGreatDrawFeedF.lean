/- The draw of a configuration, a finder and bytes. -/
import Derived.Test.YtdnedoafgfpnfaaGreatDrawFind
namespace Go.Proofs.YtdnedoafgfpnfaaGreat
open Go.ChangeShapes Go.WideShapes Go.ChangeAt Go.RowKit
theorem rd_high {W : World} {B g N : Nat} (h : Rd W B g N) {j i : Nat} (hj : g < j) (x : Value) : Rd (W.setCell ⟨j, i, none⟩ x) B g N := by
  have hB : B ≤ g := by obtain ⟨_, _, _, _, _, _, _, _, _, h5, _⟩ := h; exact h5
  exact h.keep fun q hq => Below.heap_setCell _ _ _ _ (by simp only; omega)
/-- a stage: the boxes of both results, of the configuration, of the finder; the reader -/
def GD (w W : World) (N : Nat) (z0 z1 z2 z3 : Int) (a b d m : Int) (X : ByteArray) (y : Bool) (gc : Nat) : Prop :=
  BK W w.heap.size #[.int .i64 z0, .int .i64 z1, .int .i64 z2, .int .i64 z3] 24 ∧ BK W (w.heap.size + 1) #[.string ⟨#[]⟩, .bool false] 26 ∧ BK W gc #[.int .i64 a, .int .i64 b, .int .i64 d, .int .i64 m] 24 ∧ BK W (gc + 1) #[.string X, .bool y] 26 ∧ Rd W (w.heap.size + 2) (w.heap.size + 2) N ∧ Below w.heap.size w W ∧ w.heap.size + 3 ≤ gc
section
variable {w W W' : World} {N N' gc : Nat} {z0 z1 z2 z3 a b d m : Int} {X : ByteArray} {y : Bool}
theorem GD.from (h : GD w W N z0 z1 z2 z3 a b d m X y gc) (hb : Below W.heap.size W W') : GD w W' N z0 z1 z2 z3 a b d m X y gc :=
  ⟨h.1.from hb, h.2.1.from hb, h.2.2.1.from hb, h.2.2.2.1.from hb, h.2.2.2.2.1.grow (below_grown hb none) (by simp) (by simp), h.2.2.2.2.2.1.trans (hb.mono h.2.2.2.2.2.1.size), h.2.2.2.2.2.2⟩
theorem GD.drew (h : GD w W N z0 z1 z2 z3 a b d m X y gc) : GD w W.drew N z0 z1 z2 z3 a b d m X y gc := ⟨h.1, h.2.1, h.2.2.1, h.2.2.2.1, h.2.2.2.2.1, h.2.2.2.2.2.1.drew, h.2.2.2.2.2.2⟩
theorem GD.next (h : GD w W N z0 z1 z2 z3 a b d m X y gc) (hr : Rd W' (w.heap.size + 2) (w.heap.size + 2) N') (hw : W.grownBy W' (some (w.heap.size + 2))) : GD w W' N' z0 z1 z2 z3 a b d m X y gc := by
  have hg := h.2.2.2.2.2.2
  exact ⟨h.1.grown hw (by simp), h.2.1.grown hw (by simp), h.2.2.1.next hw (by omega), h.2.2.2.1.next hw (by omega), hr, h.2.2.2.2.2.1.trans (grown_below hw h.2.2.2.2.2.1.size (by omega)), hg⟩
theorem GD.rd (h : GD w W N z0 z1 z2 z3 a b d m X y gc) : Rd W (w.heap.size + 2) (w.heap.size + 2) N := h.2.2.2.2.1
theorem GD.flat (h : GD w W N z0 z1 z2 z3 a b d m X y gc) : (W.cell? ⟨gc, 0, none⟩ = some (.int .i64 a) ∧ W.cell? ⟨gc, 1, none⟩ = some (.int .i64 b) ∧ W.cell? ⟨gc, 2, none⟩ = some (.int .i64 d) ∧ W.cell? ⟨gc, 3, none⟩ = some (.int .i64 m)) ∧ (W.cell? ⟨gc + 1, 0, none⟩ = some (.string X) ∧ W.cell? ⟨gc + 1, 1, none⟩ = some (.bool y)) := ⟨cells4 h.2.2.1, h.2.2.2.1.cell rfl, h.2.2.2.1.cell rfl⟩
theorem GD.more (h : GD w W N z0 z1 z2 z3 a b d m X y gc) : (W.cell? ⟨w.heap.size, 0, none⟩ = some (.int .i64 z0) ∧ W.cell? ⟨w.heap.size, 1, none⟩ = some (.int .i64 z1) ∧ W.cell? ⟨w.heap.size, 2, none⟩ = some (.int .i64 z2) ∧ W.cell? ⟨w.heap.size, 3, none⟩ = some (.int .i64 z3)) ∧ (W.frozen? ⟨w.heap.size, 0, none⟩ = false ∧ W.frozen? ⟨w.heap.size, 1, none⟩ = false ∧ W.frozen? ⟨w.heap.size, 2, none⟩ = false ∧ W.frozen? ⟨w.heap.size, 3, none⟩ = false) ∧ (W.cell? ⟨w.heap.size + 1, 0, none⟩ = some (.string ⟨#[]⟩) ∧ W.cell? ⟨w.heap.size + 1, 1, none⟩ = some (.bool false)) ∧ W.frozen? ⟨w.heap.size + 1, 0, none⟩ = false ∧ W.frozen? ⟨w.heap.size + 1, 1, none⟩ = false := ⟨cells4 h.1, free4 h.1, ⟨h.2.1.cell rfl, h.2.1.cell rfl⟩, h.2.1.free 0, h.2.1.free 1⟩
theorem GD.moreF0 (h : GD w W N z0 z1 z2 z3 a b d m X y gc) : (W.cell? ⟨w.heap.size + 1, 0, none⟩ = some (.string ⟨#[]⟩) ∧ W.cell? ⟨w.heap.size + 1, 1, none⟩ = some (.bool false)) ∧ W.frozen? ⟨w.heap.size + 1, 0, none⟩ = false ∧ W.frozen? ⟨w.heap.size + 1, 1, none⟩ = false := ⟨⟨h.2.1.cell rfl, h.2.1.cell rfl⟩, h.2.1.free 0, h.2.1.free 1⟩
/-- the same without the reader -/
def GQ (w W : World) (z0 z1 z2 z3 : Int) (a b d m : Int) (X : ByteArray) (y : Bool) (gc : Nat) : Prop :=
  BK W w.heap.size #[.int .i64 z0, .int .i64 z1, .int .i64 z2, .int .i64 z3] 24 ∧ BK W (w.heap.size + 1) #[.string ⟨#[]⟩, .bool false] 26 ∧ BK W gc #[.int .i64 a, .int .i64 b, .int .i64 d, .int .i64 m] 24 ∧ BK W (gc + 1) #[.string X, .bool y] 26 ∧ Below w.heap.size w W ∧ w.heap.size + 3 ≤ gc
theorem GD.q (h : GD w W N z0 z1 z2 z3 a b d m X y gc) : GQ w W z0 z1 z2 z3 a b d m X y gc := ⟨h.1, h.2.1, h.2.2.1, h.2.2.2.1, h.2.2.2.2.2.1, h.2.2.2.2.2.2⟩
theorem GQ.flat (h : GQ w W z0 z1 z2 z3 a b d m X y gc) : (W.cell? ⟨gc, 0, none⟩ = some (.int .i64 a) ∧ W.cell? ⟨gc, 1, none⟩ = some (.int .i64 b) ∧ W.cell? ⟨gc, 2, none⟩ = some (.int .i64 d) ∧ W.cell? ⟨gc, 3, none⟩ = some (.int .i64 m)) ∧ (W.cell? ⟨gc + 1, 0, none⟩ = some (.string X) ∧ W.cell? ⟨gc + 1, 1, none⟩ = some (.bool y)) := ⟨cells4 h.2.2.1, h.2.2.2.1.cell rfl, h.2.2.2.1.cell rfl⟩
theorem GQ.far (h : GQ w W z0 z1 z2 z3 a b d m X y gc) (i : Nat) (v : Int) {cs : Array Value} (hc : #[Value.int .i64 z0, .int .i64 z1, .int .i64 z2, .int .i64 z3].setIfInBounds i (.int .i64 v) = cs) {q0 q1 q2 q3 : Int} (hq : cs = #[.int .i64 q0, .int .i64 q1, .int .i64 q2, .int .i64 q3]) : GQ w (W.setCell ⟨w.heap.size, i, none⟩ (.int .i64 v)) q0 q1 q2 q3 a b d m X y gc := by
  obtain ⟨h1, h2, h3, h4, h6, h7⟩ := h
  refine ⟨?_, h2.far (by omega) _, h3.far (by omega) _, h4.far (by omega) _, h6.setCell (Nat.le_refl _) _, h7⟩
  have := h1.set i (.int .i64 v)
  rw [hc, hq] at this
  exact this
theorem GQ.moreF (h : GQ w W z0 z1 z2 z3 a b d m X y gc) : (W.cell? ⟨w.heap.size + 1, 0, none⟩ = some (.string ⟨#[]⟩) ∧ W.cell? ⟨w.heap.size + 1, 1, none⟩ = some (.bool false)) ∧ W.frozen? ⟨w.heap.size + 1, 0, none⟩ = false ∧ W.frozen? ⟨w.heap.size + 1, 1, none⟩ = false := ⟨⟨h.2.1.cell rfl, h.2.1.cell rfl⟩, h.2.1.free 0, h.2.1.free 1⟩
theorem GQ.putC (h : GQ w W z0 z1 z2 z3 a b d m X y gc) (p q r s : Int) : GQ w ((((W.setCell ⟨w.heap.size, 0, none⟩ (.int .i64 p)).setCell ⟨w.heap.size, 1, none⟩ (.int .i64 q)).setCell ⟨w.heap.size, 2, none⟩ (.int .i64 r)).setCell ⟨w.heap.size, 3, none⟩ (.int .i64 s)) p q r s a b d m X y gc :=
  (((h.far 0 p rfl rfl).far 1 q rfl rfl).far 2 r rfl rfl).far 3 s rfl rfl
theorem GQ.putF (h : GQ w W z0 z1 z2 z3 a b d m X y gc) (P : ByteArray) (o : Bool) : Below w.heap.size w ((W.setCell ⟨w.heap.size + 1, 0, none⟩ (.string P)).setCell ⟨w.heap.size + 1, 1, none⟩ (.bool o)) ∧ ((((W.setCell ⟨w.heap.size + 1, 0, none⟩ (.string P)).setCell ⟨w.heap.size + 1, 1, none⟩ (.bool o)).cell? ⟨gc, 0, none⟩ = some (.int .i64 a) ∧ ((W.setCell ⟨w.heap.size + 1, 0, none⟩ (.string P)).setCell ⟨w.heap.size + 1, 1, none⟩ (.bool o)).cell? ⟨gc, 1, none⟩ = some (.int .i64 b) ∧ ((W.setCell ⟨w.heap.size + 1, 0, none⟩ (.string P)).setCell ⟨w.heap.size + 1, 1, none⟩ (.bool o)).cell? ⟨gc, 2, none⟩ = some (.int .i64 d) ∧ ((W.setCell ⟨w.heap.size + 1, 0, none⟩ (.string P)).setCell ⟨w.heap.size + 1, 1, none⟩ (.bool o)).cell? ⟨gc, 3, none⟩ = some (.int .i64 m)) ∧ (((W.setCell ⟨w.heap.size + 1, 0, none⟩ (.string P)).setCell ⟨w.heap.size + 1, 1, none⟩ (.bool o)).cell? ⟨gc + 1, 0, none⟩ = some (.string X) ∧ ((W.setCell ⟨w.heap.size + 1, 0, none⟩ (.string P)).setCell ⟨w.heap.size + 1, 1, none⟩ (.bool o)).cell? ⟨gc + 1, 1, none⟩ = some (.bool y))) := by
  obtain ⟨h1, h2, h3, h4, h6, h7⟩ := h
  have k3 := (h3.far (j := w.heap.size + 1) (o := 0) (by omega) (.string P)).far (j := w.heap.size + 1) (o := 1) (by omega) (.bool o)
  have k4 := (h4.far (j := w.heap.size + 1) (o := 0) (by omega) (.string P)).far (j := w.heap.size + 1) (o := 1) (by omega) (.bool o)
  exact ⟨(h6.setCell (by simp) _).setCell (by simp) _, cells4 k3, k4.cell rfl, k4.cell rfl⟩
theorem GQ.drew (h : GQ w W z0 z1 z2 z3 a b d m X y gc) : GQ w W.drew z0 z1 z2 z3 a b d m X y gc := ⟨h.1, h.2.1, h.2.2.1, h.2.2.2.1, h.2.2.2.2.1.drew, h.2.2.2.2.2⟩
theorem GQ.putFd (h : GQ w W z0 z1 z2 z3 a b d m X y gc) (P : ByteArray) (o : Bool) : Below w.heap.size w ((W.setCell ⟨w.heap.size + 1, 0, none⟩ (.string P)).setCell ⟨w.heap.size + 1, 1, none⟩ (.bool o)).drew ∧ ((((W.setCell ⟨w.heap.size + 1, 0, none⟩ (.string P)).setCell ⟨w.heap.size + 1, 1, none⟩ (.bool o)).drew.cell? ⟨gc, 0, none⟩ = some (.int .i64 a) ∧ ((W.setCell ⟨w.heap.size + 1, 0, none⟩ (.string P)).setCell ⟨w.heap.size + 1, 1, none⟩ (.bool o)).drew.cell? ⟨gc, 1, none⟩ = some (.int .i64 b) ∧ ((W.setCell ⟨w.heap.size + 1, 0, none⟩ (.string P)).setCell ⟨w.heap.size + 1, 1, none⟩ (.bool o)).drew.cell? ⟨gc, 2, none⟩ = some (.int .i64 d) ∧ ((W.setCell ⟨w.heap.size + 1, 0, none⟩ (.string P)).setCell ⟨w.heap.size + 1, 1, none⟩ (.bool o)).drew.cell? ⟨gc, 3, none⟩ = some (.int .i64 m)) ∧ (((W.setCell ⟨w.heap.size + 1, 0, none⟩ (.string P)).setCell ⟨w.heap.size + 1, 1, none⟩ (.bool o)).drew.cell? ⟨gc + 1, 0, none⟩ = some (.string X) ∧ ((W.setCell ⟨w.heap.size + 1, 0, none⟩ (.string P)).setCell ⟨w.heap.size + 1, 1, none⟩ (.bool o)).drew.cell? ⟨gc + 1, 1, none⟩ = some (.bool y))) := by
  obtain ⟨k1, k2⟩ := h.putF P o
  exact ⟨k1.drew, k2⟩
theorem GD.putX (h : GD w W N z0 z1 z2 z3 a b d m X y gc) (P : ByteArray) (o : Bool) : GD w ((W.setCell ⟨gc + 1, 0, none⟩ (.string P)).setCell ⟨gc + 1, 1, none⟩ (.bool o)) N z0 z1 z2 z3 a b d m P o gc := by
  obtain ⟨h1, h2, h3, h4, h5, h6, h7⟩ := h
  exact ⟨(h1.far (by omega) _).far (by omega) _, (h2.far (by omega) _).far (by omega) _, (h3.far (by omega) _).far (by omega) _, (h4.set 0 (.string P)).set 1 (.bool o), rd_high (rd_high h5 (by omega) _) (by omega) _, (h6.setCell (by show w.heap.size ≤ gc + 1; omega) _).setCell (by show w.heap.size ≤ gc + 1; omega) _, h7⟩
end
def FeedDrawn (w : World) (e : Ending) (w' : World) : Prop := ∃ (a b d m : Int) (X : ByteArray) (y : Bool) (s : ByteArray), e = .returned (.tuple #[cfV a b d m, fdV X y, .string s]) ∧ smallC a b d m ∧ X.size ≤ 101 ∧ s.size ≤ 600 ∧ Below w.heap.size w w'
set_option maxRecDepth 100000 in
set_option maxHeartbeats 8000000 in
theorem drawFeed_any {w : World} (ad : Option Addr) (len cap : Nat) (zs : List Int) (h : IsRow .u8 w ad len cap zs) :
    Calls Tryz.prog 11 #[.slice ad len cap] w (FeedDrawn w) := by
  have hz := zero_conf
  have hzf := zero_find
  have HK0 := Lib.hid ((BK.new w #[.int .i64 0, .int .i64 0, .int .i64 0, .int .i64 0] 24).alloc (.cells #[.string ⟨#[]⟩, .bool false] 26))
  have hf := BK.new (w.alloc (.cells #[.int .i64 0, .int .i64 0, .int .i64 0, .int .i64 0] 24)) #[.string ⟨#[]⟩, .bool false] 26
  rw [World.size_alloc] at hf
  have HF0 := Lib.hid hf
  have HB0 := Lib.hid (below2 w (.cells #[.int .i64 0, .int .i64 0, .int .i64 0, .int .i64 0] 24) (.cells #[.string ⟨#[]⟩, .bool false] 26))
  have HI0 := Lib.hid (h.keep HB0.out)
  clear h hf
  go_enter Tryz.func11, Tryz.ntmps11
  go_wp2_with fail
  refine (open_any ad len cap zs HI0.out).mono ?_
  rintro e w1 ⟨rfl, hr1, hb1, hs1⟩
  rw [World.size_alloc, World.size_alloc] at hr1 hs1
  have HR1 := Lib.hid hr1
  have HK1 := Lib.hid (HK0.out.from hb1)
  have HF1 := Lib.hid (HF0.out.from hb1)
  have HB1 := Lib.hid (HB0.out.trans (hb1.mono (by simp; omega)))
  have HS1 := Lib.hid hs1
  clear hr1 hb1 hs1 HK0 HF0 HB0 HI0
  rw [World.size_alloc, World.size_alloc]
  go_wp2_with fail
  refine (anyConf_any HR1.out (by omega)).mono ?_
  rintro e w2 ⟨a, b, d, m, rfl, hc, hr2, hg2⟩
  have HC := Lib.hid hc
  have hs2 : w.heap.size + 3 ≤ w2.heap.size := by have := hg2.size; have := HS1.out; omega
  have hX2 := BK.new (w2.alloc (.cells #[.int .i64 a, .int .i64 b, .int .i64 d, .int .i64 m] 24)) #[.string ⟨#[]⟩, .bool false] 26
  rw [World.size_alloc] at hX2
  have hD : GD w ((w2.alloc (.cells #[.int .i64 a, .int .i64 b, .int .i64 d, .int .i64 m] 24)).alloc (.cells #[.string ⟨#[]⟩, .bool false] 26)) (0 + 6) 0 0 0 0 a b d m ⟨#[]⟩ false w2.heap.size :=
    ⟨((HK1.out.grown hg2 (by simp; omega)).alloc _).alloc _, ((HF1.out.grown hg2 (by simp)).alloc _).alloc _, (BK.new w2 _ _).alloc _, hX2, (hr2.alloc _).alloc _, ((HB1.out.trans (grown_below hg2 HB1.out.size (by omega))).alloc (Nat.le_trans HB1.out.size hg2.size) _).alloc (by simp; omega) _, hs2⟩
  have HD1 := Lib.hid hD
  obtain ⟨gc, hgc⟩ : ∃ gc, w2.heap.size = gc := ⟨_, rfl⟩
  rw [hgc] at HD1
  clear hr2 hg2 hc HR1 HK1 HF1 HB1 HS1 hX2 hD hs2
  go_wp2_with fail
  refine (pick_any 3 HD1.out.rd (by omega)).mono ?_
  rintro e w3 ⟨⟨x, rfl, hx, _⟩, hr3, hg3⟩
  obtain ⟨hx0, hx3⟩ := hx (by omega)
  have HD3 := Lib.hid (HD1.out.next hr3 hg3)
  clear hx hr3 hg3 HD1 hgc
  by_cases hx1 : x = 0
  · subst hx1
    obtain ⟨⟨c0, c1, c2, c3⟩, e0, e1⟩ := HD3.out.flat
    go_wp2_with fail
    refine (find_any HD3.out.rd (by omega)).mono ?_
    rintro e w4 ⟨X, y, rfl, hXs, hr4, hg4⟩
    have hD4 := HD3.out.next hr4 hg4
    obtain ⟨_, e0, e1⟩ := hD4.flat
    have f0 := hD4.2.2.2.1.free 0
    have f1 := hD4.2.2.2.1.free 1
    have HD := Lib.hid (hD4.putX X y)
    clear hr4 hg4 hD4 HD3 c0 c1 c2 c3
    generalize hwq : (w4.setCell ⟨gc + 1, 0, none⟩ (.string X)).setCell ⟨gc + 1, 1, none⟩ (.bool y) = wq at *
    obtain ⟨⟨c0, c1, c2, c3⟩, e0, e1⟩ := HD.out.flat
    go_wp2_with fail
    refine (l7ConfOk_any a b d m _).mono ?_
    rintro e y5 ⟨rfl, hb5⟩
    have hD := HD.out.from hb5
    obtain ⟨⟨c0, c1, c2, c3⟩, e0, e1⟩ := hD.flat
    clear hb5 HD
    cases hc : confB ⟨a, b, d, m⟩ with
    | false =>
      obtain ⟨⟨z0, z1, z2, z3⟩, ⟨u0, u1, u2, u3⟩, ⟨r0, r1⟩, g0, g1⟩ := hD.more
      have hq := hD.q
      have hq6 := hq.putC a b d m
      obtain ⟨hB7, hS7⟩ := hq6.putFd X y
      have hS6 := hq6.drew.flat
      obtain ⟨⟨m0, m1⟩, n0, n1⟩ := hq6.moreF
      have HB7 := Lib.hid hB7
      clear hD hc hq6 hB7
      go_wp2_with fail
      have hS := hq.drew.flat
      clear hq
      refine wp_region_held_drew (S := (fun wx => (wx.cell? ⟨gc, 0, none⟩ = some (.int .i64 a) ∧ wx.cell? ⟨gc, 1, none⟩ = some (.int .i64 b) ∧ wx.cell? ⟨gc, 2, none⟩ = some (.int .i64 d) ∧ wx.cell? ⟨gc, 3, none⟩ = some (.int .i64 m)) ∧ (wx.cell? ⟨gc + 1, 0, none⟩ = some (.string X) ∧ wx.cell? ⟨gc + 1, 1, none⟩ = some (.bool y)))) (by kernel_rfl) hS (fun hHeld => ?_)
      refine wpAnyH_take (i := 0) (v := ?_) rfl (by kernel_rfl) (by kernel_rfl) (by kernel_rfl) (fun _ _ _ h => h) (Or.inl ⟨by rfl, ?_⟩) (by assumption) ?_
      rotate_left
      · intro wq hSw
        (try dsimp only at hSw)
        (try simp only [List.getElem_toArray, List.getElem_cons_zero])
        go_simp
        (try with_reducible rfl)
      simp only [Act.put, List.getElem_toArray, List.getElem_cons_zero, List.setIfInBounds_toArray, List.set_cons_zero, List.set_cons_succ]
      refine wpAnyH_take (i := 1) (v := ?_) rfl (by kernel_rfl) (by kernel_rfl) (by kernel_rfl) (fun _ _ _ h => h) (Or.inl ⟨by rfl, ?_⟩) (by assumption) ?_
      rotate_left
      · intro wq hSw
        (try dsimp only at hSw)
        (try simp only [List.getElem_toArray, List.getElem_cons_succ, List.getElem_cons_zero])
        go_simp
        (try with_reducible rfl)
      simp only [Act.put, List.getElem_toArray, List.getElem_cons_succ, List.getElem_cons_zero, List.setIfInBounds_toArray, List.set_cons_zero, List.set_cons_succ]
      have hS := hS6
      refine wpAnyH_ready (rs := [2]) (by kernel_rfl) (by simp) ?_
      refine AllReadyH.cons rfl (fun K hK => ?_) AllReadyH.nil
      (try simp only [List.getElem_toArray, List.getElem_cons_succ, List.getElem_cons_zero])
      skip
      go_simp
      skip
      refine hK.out _ _ hS (fun hHeld => ?_)
      clear hK K
      have hS := hS7
      refine wpAnyH_ready (rs := [3]) (by kernel_rfl) (by simp) ?_
      refine AllReadyH.cons rfl (fun K hK => ?_) AllReadyH.nil
      (try simp only [List.getElem_toArray, List.getElem_cons_succ, List.getElem_cons_zero])
      skip
      go_simp
      skip
      refine hK.out _ _ hS (fun hHeld => ?_)
      clear hK K
      refine wpAnyH_take (i := 4) (v := ?_) rfl (by kernel_rfl) (by kernel_rfl) (by kernel_rfl) (fun _ _ _ h => h) (Or.inl ⟨by rfl, ?_⟩) (by assumption) ?_
      rotate_left
      · intro wq hSw
        (try dsimp only at hSw)
        (try simp only [List.getElem_toArray, List.getElem_cons_succ, List.getElem_cons_zero])
        go_simp
        (try with_reducible rfl)
      simp only [Act.put, List.getElem_toArray, List.getElem_cons_succ, List.getElem_cons_zero, List.setIfInBounds_toArray, List.set_cons_zero, List.set_cons_succ]
      refine wpAnyH_done (by kernel_rfl) ?_ _
      clear hS hS6 hS7
      go_wp2
      exact bodyPost_ret (v := .tuple #[cfV a b d m, fdV X y, .string ⟨#[97]⟩]) (by simp [results, Tryz.results11, go_sem, z0, z1, z2, z3, r0, r1]) rfl ⟨a, b, d, m, X, y, ⟨#[97]⟩, rfl, HC.out, hXs, by show 1 ≤ 600; omega, HB7.out⟩
    | true =>
      have HCB := Lib.hid hc
      clear hc
      go_wp2_with fail
      have hD := hD.drew
      have hS := hD.flat
      refine wp_region_held_drew (S := (fun wx => (wx.cell? ⟨gc, 0, none⟩ = some (.int .i64 a) ∧ wx.cell? ⟨gc, 1, none⟩ = some (.int .i64 b) ∧ wx.cell? ⟨gc, 2, none⟩ = some (.int .i64 d) ∧ wx.cell? ⟨gc, 3, none⟩ = some (.int .i64 m)) ∧ (wx.cell? ⟨gc + 1, 0, none⟩ = some (.string X) ∧ wx.cell? ⟨gc + 1, 1, none⟩ = some (.bool y)))) (by kernel_rfl) hS (fun hHeld => ?_)
      refine wpAnyH_take (i := 0) (v := ?_) rfl (by kernel_rfl) (by kernel_rfl) (by kernel_rfl) (fun _ _ _ h => h) (Or.inl ⟨by rfl, ?_⟩) (by assumption) ?_
      rotate_left
      · intro wq hSw
        (try dsimp only at hSw)
        (try simp only [List.getElem_toArray, List.getElem_cons_zero])
        go_simp
        (try with_reducible rfl)
      simp only [Act.put, List.getElem_toArray, List.getElem_cons_zero, List.setIfInBounds_toArray, List.set_cons_zero, List.set_cons_succ]
      refine wpAnyH_take (i := 1) (v := ?_) rfl (by kernel_rfl) (by kernel_rfl) (by kernel_rfl) (fun _ _ _ h => h) (Or.inl ⟨by rfl, ?_⟩) (by assumption) ?_
      rotate_left
      · intro wq hSw
        (try dsimp only at hSw)
        (try simp only [List.getElem_toArray, List.getElem_cons_succ, List.getElem_cons_zero])
        go_simp
        (try with_reducible rfl)
      simp only [Act.put, List.getElem_toArray, List.getElem_cons_succ, List.getElem_cons_zero, List.setIfInBounds_toArray, List.set_cons_zero, List.set_cons_succ]
      refine wpAnyH_take (i := 2) (v := ?_) rfl (by kernel_rfl) (by kernel_rfl) (by kernel_rfl) (fun _ _ _ h => h) (Or.inl ⟨by rfl, ?_⟩) (by assumption) ?_
      rotate_left
      · intro wq hSw
        (try dsimp only at hSw)
        (try simp only [List.getElem_toArray, List.getElem_cons_succ, List.getElem_cons_zero])
        go_simp
        (try with_reducible rfl)
      simp only [Act.put, List.getElem_toArray, List.getElem_cons_succ, List.getElem_cons_zero, List.setIfInBounds_toArray, List.set_cons_zero, List.set_cons_succ]
      refine wpAnyH_take (i := 3) (v := ?_) rfl (by kernel_rfl) (by kernel_rfl) (by kernel_rfl) (fun _ _ _ h => h) (Or.inl ⟨by rfl, ?_⟩) (by assumption) ?_
      rotate_left
      · intro wq hSw
        (try dsimp only at hSw)
        (try simp only [List.getElem_toArray, List.getElem_cons_succ, List.getElem_cons_zero])
        go_simp
        (try with_reducible rfl)
      simp only [Act.put, List.getElem_toArray, List.getElem_cons_succ, List.getElem_cons_zero, List.setIfInBounds_toArray, List.set_cons_zero, List.set_cons_succ]
      refine wpAnyH_ready (rs := [4]) (by kernel_rfl) (by simp) ?_
      refine AllReadyH.cons rfl (fun K hK => ?_) AllReadyH.nil
      (try simp only [List.getElem_toArray, List.getElem_cons_succ, List.getElem_cons_zero])
      go_simp
      go_at_call 49
      refine (stream_any hD.rd (by omega) HCB.out).mono ?_
      rintro e y6 ⟨t, rfl, ht, hr6, hg6⟩
      have hD := hD.next hr6 hg6
      have hS := hD.flat
      refine hK.out _ _ hS (fun hHeld => ?_)
      clear hK K
      obtain ⟨⟨z0, z1, z2, z3⟩, ⟨u0, u1, u2, u3⟩, _, _, _⟩ := hD.more
      have hD6 := hD.q.putC a b d m
      have hS := hD6.flat
      refine wpAnyH_ready (rs := [5]) (by kernel_rfl) (by simp) ?_
      refine AllReadyH.cons rfl (fun K hK => ?_) AllReadyH.nil
      (try simp only [List.getElem_toArray, List.getElem_cons_succ, List.getElem_cons_zero])
      skip
      go_simp
      skip
      refine hK.out _ _ hS (fun hHeld => ?_)
      clear hK K
      obtain ⟨⟨r0, r1⟩, g0, g1⟩ := hD6.moreF
      have hB7 := hD6.putF X y
      have hS := hB7.2
      refine wpAnyH_ready (rs := [6]) (by kernel_rfl) (by simp) ?_
      refine AllReadyH.cons rfl (fun K hK => ?_) AllReadyH.nil
      (try simp only [List.getElem_toArray, List.getElem_cons_succ, List.getElem_cons_zero])
      skip
      go_simp
      skip
      refine hK.out _ _ hS (fun hHeld => ?_)
      clear hK K
      refine wpAnyH_take (i := 7) (v := ?_) rfl (by kernel_rfl) (by kernel_rfl) (by kernel_rfl) (fun _ _ _ h => h) (Or.inl ⟨by rfl, ?_⟩) (by assumption) ?_
      rotate_left
      · intro wq hSw
        (try dsimp only at hSw)
        (try simp only [List.getElem_toArray, List.getElem_cons_succ, List.getElem_cons_zero])
        go_simp
        (try with_reducible rfl)
      simp only [Act.put, List.getElem_toArray, List.getElem_cons_succ, List.getElem_cons_zero, List.setIfInBounds_toArray, List.set_cons_zero, List.set_cons_succ]
      refine wpAnyH_done (by kernel_rfl) ?_ _
      have HB7 := Lib.hid hB7.1
      clear hD hD6 hB7 hS hr6 hg6
      go_wp2
      exact bodyPost_ret (v := .tuple #[cfV a b d m, fdV X y, .string t]) (by simp [results, Tryz.results11, go_sem, z0, z1, z2, z3, r0, r1]) rfl ⟨a, b, d, m, X, y, t, rfl, HC.out, hXs, ht, HB7.out⟩
  · have hxb : (x == 0) = false := beq_eq_false_iff_ne.2 hx1
    have HD := HD3
    obtain ⟨X, hX⟩ : ∃ X : ByteArray, (⟨#[]⟩ : ByteArray) = X := ⟨_, rfl⟩
    have hXs : X.size ≤ 101 := by rw [← hX]; show 0 ≤ 101; omega
    obtain ⟨y, hy⟩ : ∃ y : Bool, false = y := ⟨_, rfl⟩
    rw [hX, hy] at HD
    clear hX hy HD3
    obtain ⟨⟨c0, c1, c2, c3⟩, e0, e1⟩ := HD.out.flat
    go_wp2_with fail
    refine (l7ConfOk_any a b d m _).mono ?_
    rintro e y5 ⟨rfl, hb5⟩
    have hD := HD.out.from hb5
    obtain ⟨⟨c0, c1, c2, c3⟩, e0, e1⟩ := hD.flat
    clear hb5 HD
    cases hc : confB ⟨a, b, d, m⟩ with
    | false =>
      obtain ⟨⟨z0, z1, z2, z3⟩, ⟨u0, u1, u2, u3⟩, ⟨r0, r1⟩, g0, g1⟩ := hD.more
      have hq := hD.q
      have hq6 := hq.putC a b d m
      obtain ⟨hB7, hS7⟩ := hq6.putFd X y
      have hS6 := hq6.drew.flat
      obtain ⟨⟨m0, m1⟩, n0, n1⟩ := hq6.moreF
      have HB7 := Lib.hid hB7
      clear hD hc hq6 hB7
      go_wp2_with fail
      have hS := hq.drew.flat
      clear hq
      refine wp_region_held_drew (S := (fun wx => (wx.cell? ⟨gc, 0, none⟩ = some (.int .i64 a) ∧ wx.cell? ⟨gc, 1, none⟩ = some (.int .i64 b) ∧ wx.cell? ⟨gc, 2, none⟩ = some (.int .i64 d) ∧ wx.cell? ⟨gc, 3, none⟩ = some (.int .i64 m)) ∧ (wx.cell? ⟨gc + 1, 0, none⟩ = some (.string X) ∧ wx.cell? ⟨gc + 1, 1, none⟩ = some (.bool y)))) (by kernel_rfl) hS (fun hHeld => ?_)
      refine wpAnyH_take (i := 0) (v := ?_) rfl (by kernel_rfl) (by kernel_rfl) (by kernel_rfl) (fun _ _ _ h => h) (Or.inl ⟨by rfl, ?_⟩) (by assumption) ?_
      rotate_left
      · intro wq hSw
        (try dsimp only at hSw)
        (try simp only [List.getElem_toArray, List.getElem_cons_zero])
        go_simp
        (try with_reducible rfl)
      simp only [Act.put, List.getElem_toArray, List.getElem_cons_zero, List.setIfInBounds_toArray, List.set_cons_zero, List.set_cons_succ]
      refine wpAnyH_take (i := 1) (v := ?_) rfl (by kernel_rfl) (by kernel_rfl) (by kernel_rfl) (fun _ _ _ h => h) (Or.inl ⟨by rfl, ?_⟩) (by assumption) ?_
      rotate_left
      · intro wq hSw
        (try dsimp only at hSw)
        (try simp only [List.getElem_toArray, List.getElem_cons_succ, List.getElem_cons_zero])
        go_simp
        (try with_reducible rfl)
      simp only [Act.put, List.getElem_toArray, List.getElem_cons_succ, List.getElem_cons_zero, List.setIfInBounds_toArray, List.set_cons_zero, List.set_cons_succ]
      have hS := hS6
      refine wpAnyH_ready (rs := [2]) (by kernel_rfl) (by simp) ?_
      refine AllReadyH.cons rfl (fun K hK => ?_) AllReadyH.nil
      (try simp only [List.getElem_toArray, List.getElem_cons_succ, List.getElem_cons_zero])
      skip
      go_simp
      skip
      refine hK.out _ _ hS (fun hHeld => ?_)
      clear hK K
      have hS := hS7
      refine wpAnyH_ready (rs := [3]) (by kernel_rfl) (by simp) ?_
      refine AllReadyH.cons rfl (fun K hK => ?_) AllReadyH.nil
      (try simp only [List.getElem_toArray, List.getElem_cons_succ, List.getElem_cons_zero])
      skip
      go_simp
      skip
      refine hK.out _ _ hS (fun hHeld => ?_)
      clear hK K
      refine wpAnyH_take (i := 4) (v := ?_) rfl (by kernel_rfl) (by kernel_rfl) (by kernel_rfl) (fun _ _ _ h => h) (Or.inl ⟨by rfl, ?_⟩) (by assumption) ?_
      rotate_left
      · intro wq hSw
        (try dsimp only at hSw)
        (try simp only [List.getElem_toArray, List.getElem_cons_succ, List.getElem_cons_zero])
        go_simp
        (try with_reducible rfl)
      simp only [Act.put, List.getElem_toArray, List.getElem_cons_succ, List.getElem_cons_zero, List.setIfInBounds_toArray, List.set_cons_zero, List.set_cons_succ]
      refine wpAnyH_done (by kernel_rfl) ?_ _
      clear hS hS6 hS7
      go_wp2
      exact bodyPost_ret (v := .tuple #[cfV a b d m, fdV X y, .string ⟨#[97]⟩]) (by simp [results, Tryz.results11, go_sem, z0, z1, z2, z3, r0, r1]) rfl ⟨a, b, d, m, X, y, ⟨#[97]⟩, rfl, HC.out, hXs, by show 1 ≤ 600; omega, HB7.out⟩
    | true =>
      have HCB := Lib.hid hc
      clear hc
      go_wp2_with fail
      have hD := hD.drew
      have hS := hD.flat
      refine wp_region_held_drew (S := (fun wx => (wx.cell? ⟨gc, 0, none⟩ = some (.int .i64 a) ∧ wx.cell? ⟨gc, 1, none⟩ = some (.int .i64 b) ∧ wx.cell? ⟨gc, 2, none⟩ = some (.int .i64 d) ∧ wx.cell? ⟨gc, 3, none⟩ = some (.int .i64 m)) ∧ (wx.cell? ⟨gc + 1, 0, none⟩ = some (.string X) ∧ wx.cell? ⟨gc + 1, 1, none⟩ = some (.bool y)))) (by kernel_rfl) hS (fun hHeld => ?_)
      refine wpAnyH_take (i := 0) (v := ?_) rfl (by kernel_rfl) (by kernel_rfl) (by kernel_rfl) (fun _ _ _ h => h) (Or.inl ⟨by rfl, ?_⟩) (by assumption) ?_
      rotate_left
      · intro wq hSw
        (try dsimp only at hSw)
        (try simp only [List.getElem_toArray, List.getElem_cons_zero])
        go_simp
        (try with_reducible rfl)
      simp only [Act.put, List.getElem_toArray, List.getElem_cons_zero, List.setIfInBounds_toArray, List.set_cons_zero, List.set_cons_succ]
      refine wpAnyH_take (i := 1) (v := ?_) rfl (by kernel_rfl) (by kernel_rfl) (by kernel_rfl) (fun _ _ _ h => h) (Or.inl ⟨by rfl, ?_⟩) (by assumption) ?_
      rotate_left
      · intro wq hSw
        (try dsimp only at hSw)
        (try simp only [List.getElem_toArray, List.getElem_cons_succ, List.getElem_cons_zero])
        go_simp
        (try with_reducible rfl)
      simp only [Act.put, List.getElem_toArray, List.getElem_cons_succ, List.getElem_cons_zero, List.setIfInBounds_toArray, List.set_cons_zero, List.set_cons_succ]
      refine wpAnyH_take (i := 2) (v := ?_) rfl (by kernel_rfl) (by kernel_rfl) (by kernel_rfl) (fun _ _ _ h => h) (Or.inl ⟨by rfl, ?_⟩) (by assumption) ?_
      rotate_left
      · intro wq hSw
        (try dsimp only at hSw)
        (try simp only [List.getElem_toArray, List.getElem_cons_succ, List.getElem_cons_zero])
        go_simp
        (try with_reducible rfl)
      simp only [Act.put, List.getElem_toArray, List.getElem_cons_succ, List.getElem_cons_zero, List.setIfInBounds_toArray, List.set_cons_zero, List.set_cons_succ]
      refine wpAnyH_take (i := 3) (v := ?_) rfl (by kernel_rfl) (by kernel_rfl) (by kernel_rfl) (fun _ _ _ h => h) (Or.inl ⟨by rfl, ?_⟩) (by assumption) ?_
      rotate_left
      · intro wq hSw
        (try dsimp only at hSw)
        (try simp only [List.getElem_toArray, List.getElem_cons_succ, List.getElem_cons_zero])
        go_simp
        (try with_reducible rfl)
      simp only [Act.put, List.getElem_toArray, List.getElem_cons_succ, List.getElem_cons_zero, List.setIfInBounds_toArray, List.set_cons_zero, List.set_cons_succ]
      refine wpAnyH_ready (rs := [4]) (by kernel_rfl) (by simp) ?_
      refine AllReadyH.cons rfl (fun K hK => ?_) AllReadyH.nil
      (try simp only [List.getElem_toArray, List.getElem_cons_succ, List.getElem_cons_zero])
      go_simp
      go_at_call 49
      refine (stream_any hD.rd (by omega) HCB.out).mono ?_
      rintro e y6 ⟨t, rfl, ht, hr6, hg6⟩
      have hD := hD.next hr6 hg6
      have hS := hD.flat
      refine hK.out _ _ hS (fun hHeld => ?_)
      clear hK K
      obtain ⟨⟨z0, z1, z2, z3⟩, ⟨u0, u1, u2, u3⟩, _, _, _⟩ := hD.more
      have hD6 := hD.q.putC a b d m
      have hS := hD6.flat
      refine wpAnyH_ready (rs := [5]) (by kernel_rfl) (by simp) ?_
      refine AllReadyH.cons rfl (fun K hK => ?_) AllReadyH.nil
      (try simp only [List.getElem_toArray, List.getElem_cons_succ, List.getElem_cons_zero])
      skip
      go_simp
      skip
      refine hK.out _ _ hS (fun hHeld => ?_)
      clear hK K
      obtain ⟨⟨r0, r1⟩, g0, g1⟩ := hD6.moreF
      have hB7 := hD6.putF X y
      have hS := hB7.2
      refine wpAnyH_ready (rs := [6]) (by kernel_rfl) (by simp) ?_
      refine AllReadyH.cons rfl (fun K hK => ?_) AllReadyH.nil
      (try simp only [List.getElem_toArray, List.getElem_cons_succ, List.getElem_cons_zero])
      skip
      go_simp
      skip
      refine hK.out _ _ hS (fun hHeld => ?_)
      clear hK K
      refine wpAnyH_take (i := 7) (v := ?_) rfl (by kernel_rfl) (by kernel_rfl) (by kernel_rfl) (fun _ _ _ h => h) (Or.inl ⟨by rfl, ?_⟩) (by assumption) ?_
      rotate_left
      · intro wq hSw
        (try dsimp only at hSw)
        (try simp only [List.getElem_toArray, List.getElem_cons_succ, List.getElem_cons_zero])
        go_simp
        (try with_reducible rfl)
      simp only [Act.put, List.getElem_toArray, List.getElem_cons_succ, List.getElem_cons_zero, List.setIfInBounds_toArray, List.set_cons_zero, List.set_cons_succ]
      refine wpAnyH_done (by kernel_rfl) ?_ _
      have HB7 := Lib.hid hB7.1
      clear hD hD6 hB7 hS hr6 hg6
      go_wp2
      exact bodyPost_ret (v := .tuple #[cfV a b d m, fdV X y, .string t]) (by simp [results, Tryz.results11, go_sem, z0, z1, z2, z3, r0, r1]) rfl ⟨a, b, d, m, X, y, t, rfl, HC.out, hXs, ht, HB7.out⟩
end Go.Proofs.YtdnedoafgfpnfaaGreat
