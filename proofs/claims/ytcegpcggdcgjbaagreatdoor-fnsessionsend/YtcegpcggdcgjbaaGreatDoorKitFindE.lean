/- A byte taken, in the model. -/
import Derived.Test.YtcegpcggdcgjbaaGreatDoorKitFindD
import Derived.Test.YtcegpcggdcgjbaaGreatDoorKitFindC
import Derived.Deep.DeepCutAuto
namespace Go.Proofs.YtcegpcggdcgjbaaGreatDoor
open Go.ChangeShapes Go.WideShapes Go.ChangeAt Go.RowKit
abbrev fdL (f : Fd) : Value := .agg #[.string ⟨f.held.toArray⟩, .bool f.over]
def BytePost (w : World) (p : Fd × List Ev) (e : Ending) (w' : World) : Prop := ∃ v, e = .returned (.tuple #[fdL p.1, v]) ∧ RE w' w.heap.size w'.heap.size v p.2 ∧ Below w.heap.size w w'
/-- the boxes of a configuration, of a finder, of the result -/
def F3 (w W : World) (a b d m : Int) (H : ByteArray) (o : Bool) : Prop := BK W w.heap.size #[.int .i64 a, .int .i64 b, .int .i64 d, .int .i64 m] 30 ∧ BK W (w.heap.size + 1) #[.string H, .bool o] 37 ∧ BK W (w.heap.size + 2) #[.string ⟨#[]⟩, .bool false] 37 ∧ Below w.heap.size w W
theorem zero_find (w : World) : (zeroValue 37).run Tryz.prog w = .ok (.agg #[.string ⟨#[]⟩, .bool false]) w := by kernel_rfl
section
variable {w W W' : World} {a b d m : Int} {H : ByteArray} {o : Bool}
theorem F3.start (w : World) (a b d m : Int) (H : ByteArray) (o : Bool) : F3 w (((w.alloc (.cells #[.int .i64 a, .int .i64 b, .int .i64 d, .int .i64 m] 30)).alloc (.cells #[.string H, .bool o] 37)).alloc (.cells #[.string ⟨#[]⟩, .bool false] 37)) a b d m H o := by
  have h2 := BK.new (w.alloc (.cells #[.int .i64 a, .int .i64 b, .int .i64 d, .int .i64 m] 30)) #[.string H, .bool o] 37
  rw [World.size_alloc] at h2
  have h3 := BK.new ((w.alloc (.cells #[.int .i64 a, .int .i64 b, .int .i64 d, .int .i64 m] 30)).alloc (.cells #[.string H, .bool o] 37)) #[.string ⟨#[]⟩, .bool false] 37
  rw [World.size_alloc, World.size_alloc] at h3
  exact ⟨((BK.new w _ _).alloc _).alloc _, h2.alloc _, h3, (below2 _ _ _).alloc (by simp; omega) _⟩
theorem F3.from (h : F3 w W a b d m H o) (hb : Below W.heap.size W W') : F3 w W' a b d m H o := ⟨h.1.from hb, h.2.1.from hb, h.2.2.1.from hb, h.2.2.2.trans (hb.mono h.2.2.2.size)⟩
theorem F3.alloc (h : F3 w W a b d m H o) (x : Obj) : F3 w (W.alloc x) a b d m H o := h.from ((Below.refl _ _).alloc (Nat.le_refl _) _)
theorem F3.drew (h : F3 w W a b d m H o) : F3 w W.drew a b d m H o := ⟨h.1, h.2.1, h.2.2.1, h.2.2.2.drew⟩
theorem F3.grown {row : Option Nat} (h : F3 w W a b d m H o) (hg : W.grownBy W' row) (hr : ∀ k, row = some k → w.heap.size + 3 ≤ k) : F3 w W' a b d m H o := by
  refine ⟨h.1.grown hg ?_, h.2.1.grown hg ?_, h.2.2.1.grown hg ?_, h.2.2.2.grown hg h.2.2.2.size (fun k hk => by have := hr k hk; omega)⟩ <;> (intro e; have := hr _ e; omega)
theorem F3.size (h : F3 w W a b d m H o) : w.heap.size + 3 ≤ W.heap.size := h.2.2.1.lt
theorem F3.flat (h : F3 w W a b d m H o) :
    (W.cell? ⟨w.heap.size, 0, none⟩ = some (.int .i64 a) ∧ W.cell? ⟨w.heap.size, 1, none⟩ = some (.int .i64 b) ∧ W.cell? ⟨w.heap.size, 2, none⟩ = some (.int .i64 d) ∧ W.cell? ⟨w.heap.size, 3, none⟩ = some (.int .i64 m)) ∧
    (W.cell? ⟨w.heap.size + 1, 0, none⟩ = some (.string H) ∧ W.cell? ⟨w.heap.size + 1, 1, none⟩ = some (.bool o)) := ⟨⟨h.1.cell rfl, h.1.cell rfl, h.1.cell rfl, h.1.cell rfl⟩, h.2.1.cell rfl, h.2.1.cell rfl⟩
theorem F3.res (h : F3 w W a b d m H o) :
    (W.cell? ⟨w.heap.size + 2, 0, none⟩ = some (.string ⟨#[]⟩) ∧ W.cell? ⟨w.heap.size + 2, 1, none⟩ = some (.bool false)) ∧ (W.frozen? ⟨w.heap.size + 1, 0, none⟩ = false ∧ W.frozen? ⟨w.heap.size + 1, 1, none⟩ = false) ∧ W.frozen? ⟨w.heap.size + 2, 0, none⟩ = false ∧ W.frozen? ⟨w.heap.size + 2, 1, none⟩ = false :=
  ⟨⟨h.2.2.1.cell rfl, h.2.2.1.cell rfl⟩, ⟨h.2.1.free 0, h.2.1.free 1⟩, h.2.2.1.free 0, h.2.2.1.free 1⟩
theorem F3.resA (h : F3 w W a b d m H o) :
    ((∀ O, (W.alloc O).cell? ⟨w.heap.size + 2, 0, none⟩ = some (.string ⟨#[]⟩)) ∧ (∀ O, (W.alloc O).cell? ⟨w.heap.size + 2, 1, none⟩ = some (.bool false))) ∧ (∀ O, (W.alloc O).frozen? ⟨w.heap.size + 2, 0, none⟩ = false) ∧ (∀ O, (W.alloc O).frozen? ⟨w.heap.size + 2, 1, none⟩ = false) :=
  ⟨⟨fun O => (h.alloc O).res.1.1, fun O => (h.alloc O).res.1.2⟩, fun O => (h.alloc O).res.2.2.1, fun O => (h.alloc O).res.2.2.2⟩
theorem F3.findA (h : F3 w W a b d m H o) :
    ((∀ O, (W.alloc O).cell? ⟨w.heap.size + 1, 0, none⟩ = some (.string H)) ∧ (∀ O, (W.alloc O).cell? ⟨w.heap.size + 1, 1, none⟩ = some (.bool o))) ∧ (∀ O, (W.alloc O).frozen? ⟨w.heap.size + 1, 0, none⟩ = false) ∧ (∀ O, (W.alloc O).frozen? ⟨w.heap.size + 1, 1, none⟩ = false) :=
  ⟨⟨fun O => (h.alloc O).flat.2.1, fun O => (h.alloc O).flat.2.2⟩, fun O => (h.alloc O).res.2.1.1, fun O => (h.alloc O).res.2.1.2⟩
theorem F3.done (h : F3 w W a b d m H o) (x y : Value) : Below w.heap.size w ((W.setCell ⟨w.heap.size + 2, 0, none⟩ x).setCell ⟨w.heap.size + 2, 1, none⟩ y) := (h.2.2.2.setCell (by simp) _).setCell (by simp) _
end
theorem F3.put {w W : World} {a b d m : Int} {H : ByteArray} {o : Bool} (h : F3 w W a b d m H o) (X : ByteArray) : F3 w (W.setCell ⟨w.heap.size + 1, 0, none⟩ (.string X)) a b d m X o :=
  ⟨h.1.far (by omega) _, h.2.1.set 0 (.string X), h.2.2.1.far (by omega) _, h.2.2.2.setCell (by simp) _⟩
theorem F3.put2 {w W : World} {a b d m : Int} {H : ByteArray} {o : Bool} (h : F3 w W a b d m H o) (X : ByteArray) (y : Bool) : F3 w ((W.setCell ⟨w.heap.size + 1, 0, none⟩ (.string X)).setCell ⟨w.heap.size + 1, 1, none⟩ (.bool y)) a b d m X y :=
  ⟨(h.1.far (by omega) _).far (by omega) _, (h.2.1.set 0 (.string X)).set 1 (.bool y), (h.2.2.1.far (by omega) _).far (by omega) _, (h.2.2.2.setCell (by simp) _).setCell (by simp) _⟩
/-- the end of a call: the finder in its box, the events -/
theorem byte_end {w W : World} {a b d m : Int} {H : ByteArray} {o : Bool} (h : F3 w W a b d m H o) {v : Value} {l : List Ev} (hr : RE W (w.heap.size + 3) W.heap.size v l) (x : ByteArray) (y : Bool) {p : Fd × List Ev} (hp : p = (⟨x.data.toList, y⟩, l)) :
    BytePost w p (.returned (.tuple #[fdV x y, v])) ((W.setCell ⟨w.heap.size + 2, 0, none⟩ (.string x)).setCell ⟨w.heap.size + 2, 1, none⟩ (.bool y)) := by
  subst hp
  refine ⟨v, by simp only [fdL], ?_, h.done _ _⟩
  have h1 := (hr.setCell (p := ⟨w.heap.size + 2, 0, none⟩) (by simp) (.string x)).setCell (p := ⟨w.heap.size + 2, 1, none⟩) (by simp) (.bool y)
  exact h1.mono (by omega) (by simp)
set_option maxRecDepth 100000 in
set_option maxHeartbeats 4000000 in
theorem l7Byte_any (a b d m : Int) (H : ByteArray) (o : Bool) (x : UInt8) (w : World) (hok : okF ⟨a, b, d, m⟩ ⟨H.data.toList, o⟩ = true) :
    Calls Tryz.prog 86 #[cfV a b d m, fdV H o, .int .u8 x.toNat] w (BytePost w ((fstep ⟨a, b, d, m⟩ ⟨H.data.toList, o⟩ x).1, (fstep ⟨a, b, d, m⟩ ⟨H.data.toList, o⟩ x).2.toList)) := by
  obtain ⟨hc, hlen, hne, hov⟩ := okF_yes hok
  obtain ⟨_, hkb, hd, _, _⟩ := confB_yes hc
  simp only at hkb hd hlen hne hov
  have hkb2 := kind_ge hkb
  rw [size_list] at hlen
  have hp := hold_pos hc
  have HC := Lib.hid hc
  have HNE := Lib.hid hne
  have hz := zero_find
  have hze := zero_event
  generalize hend : endOf ⟨a, b, d, m⟩ = c
  have HEnd := Lib.hid hend
  have hxl := x.toNat_lt
  have hcl := c.toNat_lt
  clear hend hc hok hne
  by_cases hxc : x.toNat = c.toNat
  · have hce : x = c := UInt8.toNat_inj.1 hxc
    have hcb : ((x.toNat : Int) == (c.toNat : Int)) = true := by rw [beq_iff_eq, hxc]
    have HS := Lib.hid (show fstep ⟨a, b, d, m⟩ ⟨H.data.toList, o⟩ x = (⟨[], false⟩, endE ⟨a, b, d, m⟩ ⟨H.data.toList, o⟩) by unfold fstep; rw [HEnd.out, if_pos hce])
    clear hxc hce
    cases o with
    | true =>
      go_enter Tryz.func86, Tryz.ntmps86
      go_wp2_with fail
      refine (l7End_any a b d m _).mono ?_
      rintro e w1 ⟨rfl, hb1⟩
      have hF := (F3.start w a b d m H true).from hb1
      obtain ⟨⟨c0, c1, c2, c3⟩, e0, e1⟩ := hF.flat
      obtain ⟨⟨r0, r1⟩, f0, f1⟩ := hF.resA
      rw [HEnd.out]
      have HQ := Lib.hid (byte_end (hF.alloc (.cells #[.int .i64 5, .string ⟨#[]⟩] 110)) (v := .slice (some ⟨w1.heap.size, 0, none⟩) 1 1) (l := [⟨5, []⟩]) ((RE_new w1 ⟨5, []⟩).mono hF.size (by simp)) ⟨#[]⟩ false (p := ((fstep ⟨a, b, d, m⟩ ⟨H.data.toList, true⟩ x).1, (fstep ⟨a, b, d, m⟩ ⟨H.data.toList, true⟩ x).2.toList)) (by rw [HS.out]; rfl))
      clear hb1 hF
      go_wp2
      exact bodyPost_ret (v := .tuple #[fdV ⟨#[]⟩ false, .slice (some ⟨w1.heap.size, 0, none⟩) 1 1]) (by simp [results, Tryz.results86, go_sem, r0, r1]) rfl HQ.out
    | false =>
      go_enter Tryz.func86, Tryz.ntmps86
      go_wp2_with fail
      refine (l7End_any a b d m _).mono ?_
      rintro e w1 ⟨rfl, hb1⟩
      have hF := (F3.start w a b d m H false).from hb1
      obtain ⟨⟨c0, c1, c2, c3⟩, e0, e1⟩ := hF.flat
      rw [HEnd.out]
      have HF := Lib.hid hF
      clear hb1 hF
      go_wp2_with fail
      refine (l7Event_any a b d m H _ HC.out (by omega) HNE.out).mono ?_
      rintro e w2 ⟨v2, rfl, hr2, hb2⟩
      have hF := HF.out.from hb2
      obtain ⟨⟨r0, r1⟩, _, f0, f1⟩ := hF.res
      have HQ := Lib.hid (byte_end hF (hr2.mono HF.out.size (Nat.le_refl _)) ⟨#[]⟩ false (p := ((fstep ⟨a, b, d, m⟩ ⟨H.data.toList, false⟩ x).1, (fstep ⟨a, b, d, m⟩ ⟨H.data.toList, false⟩ x).2.toList)) (by rw [HS.out]; rfl))
      clear hb2 hF hr2
      go_wp2
      exact bodyPost_ret (v := .tuple #[fdV ⟨#[]⟩ false, v2]) (by simp [results, Tryz.results86, go_sem, r0, r1]) rfl HQ.out
  · have hcn : x ≠ c := fun e => hxc (by rw [e])
    have hcb : ((x.toNat : Int) == (c.toNat : Int)) = false := beq_eq_false_iff_ne.2 (by omega)
    cases o with
    | true =>
      have HS := Lib.hid (show fstep ⟨a, b, d, m⟩ ⟨H.data.toList, true⟩ x = (⟨H.data.toList, true⟩, none) by unfold fstep; rw [HEnd.out, if_neg hcn, if_pos rfl])
      go_enter Tryz.func86, Tryz.ntmps86
      go_wp2_with fail
      refine (l7End_any a b d m _).mono ?_
      rintro e w1 ⟨rfl, hb1⟩
      have hF := (F3.start w a b d m H true).from hb1
      obtain ⟨⟨c0, c1, c2, c3⟩, e0, e1⟩ := hF.flat
      obtain ⟨⟨r0, r1⟩, _, f0, f1⟩ := hF.res
      rw [HEnd.out]
      have HQ := Lib.hid (byte_end hF (v := .slice none 0 0) (l := []) (RE_nil _ _ _) H true (p := ((fstep ⟨a, b, d, m⟩ ⟨H.data.toList, true⟩ x).1, (fstep ⟨a, b, d, m⟩ ⟨H.data.toList, true⟩ x).2.toList)) (by rw [HS.out]; rfl))
      clear hb1 hF
      go_wp2
      exact bodyPost_ret (v := .tuple #[fdV H true, .slice none 0 0]) (by simp [results, Tryz.results86, go_sem, r0, r1]) rfl HQ.out
    | false =>
      by_cases hfull : holdN ⟨a, b, d, m⟩ ≤ (H.size : Int)
      · have HS := Lib.hid (show fstep ⟨a, b, d, m⟩ ⟨H.data.toList, false⟩ x = (⟨[], true⟩, none) by unfold fstep; rw [HEnd.out, if_neg hcn, if_neg (by simp), size_list, if_pos hfull])
        generalize hold : holdN ⟨a, b, d, m⟩ = hn at *
        have HO := Lib.hid hold
        clear hold
        go_enter Tryz.func86, Tryz.ntmps86
        go_wp2_with fail
        refine (l7End_any a b d m _).mono ?_
        rintro e w1 ⟨rfl, hb1⟩
        have hF := (F3.start w a b d m H false).from hb1
        obtain ⟨⟨c0, c1, c2, c3⟩, e0, e1⟩ := hF.flat
        rw [HEnd.out]
        clear hb1
        go_wp2_with fail
        have hF := hF.drew
        go_region_held3 (fun wx => (wx.cell? ⟨w.heap.size, 0, none⟩ = some (.int .i64 a) ∧ wx.cell? ⟨w.heap.size, 1, none⟩ = some (.int .i64 b) ∧ wx.cell? ⟨w.heap.size, 2, none⟩ = some (.int .i64 d) ∧ wx.cell? ⟨w.heap.size, 3, none⟩ = some (.int .i64 m)) ∧ (wx.cell? ⟨w.heap.size + 1, 0, none⟩ = some (.string H) ∧ wx.cell? ⟨w.heap.size + 1, 1, none⟩ = some (.bool false))) (first | exact hF.flat) (first | (go_at_call 114; refine (l7Hold_any a b d m _ hkb2 hd).mono ?_; rintro e w2 ⟨rfl, hb2⟩; have hF := hF.from hb2; rw [HO.out]))
        obtain ⟨⟨r0, r1⟩, _, f0, f1⟩ := hF.res
        have HQ := Lib.hid (byte_end hF (v := .slice none 0 0) (l := []) (RE_nil _ _ _) ⟨#[]⟩ true (p := ((fstep ⟨a, b, d, m⟩ ⟨H.data.toList, false⟩ x).1, (fstep ⟨a, b, d, m⟩ ⟨H.data.toList, false⟩ x).2.toList)) (by rw [HS.out]; rfl))
        go_wp2
        exact bodyPost_ret (v := .tuple #[fdV ⟨#[]⟩ true, .slice none 0 0]) (by simp [results, Tryz.results86, go_sem, r0, r1]) rfl HQ.out
      · have HS := Lib.hid (show fstep ⟨a, b, d, m⟩ ⟨H.data.toList, false⟩ x = (⟨H.data.toList ++ [x], false⟩, none) by unfold fstep; rw [HEnd.out, if_neg hcn, if_neg (by simp), size_list, if_neg hfull])
        generalize hold : holdN ⟨a, b, d, m⟩ = hn at *
        have HO := Lib.hid hold
        clear hold
        go_enter Tryz.func86, Tryz.ntmps86
        go_wp2_with fail
        refine (l7End_any a b d m _).mono ?_
        rintro e w1 ⟨rfl, hb1⟩
        have hF := (F3.start w a b d m H false).from hb1
        obtain ⟨⟨c0, c1, c2, c3⟩, e0, e1⟩ := hF.flat
        rw [HEnd.out]
        clear hb1
        go_wp2_with fail
        have hF := hF.drew
        go_region_held3 (fun wx => (wx.cell? ⟨w.heap.size, 0, none⟩ = some (.int .i64 a) ∧ wx.cell? ⟨w.heap.size, 1, none⟩ = some (.int .i64 b) ∧ wx.cell? ⟨w.heap.size, 2, none⟩ = some (.int .i64 d) ∧ wx.cell? ⟨w.heap.size, 3, none⟩ = some (.int .i64 m)) ∧ (wx.cell? ⟨w.heap.size + 1, 0, none⟩ = some (.string H) ∧ wx.cell? ⟨w.heap.size + 1, 1, none⟩ = some (.bool false))) (first | exact hF.flat) (first | (go_at_call 114; refine (l7Hold_any a b d m _ hkb2 hd).mono ?_; rintro e w2 ⟨rfl, hb2⟩; have hF := hF.from hb2; rw [HO.out]))
        have hob := OB_one 5 w2 w.heap.size (by have := hF.size; omega) x (.int .u8 x.toNat) rfl
        have HOB := Lib.hid hob
        have hF4 := hF.alloc (.cells #[.int .u8 x.toNat] 5)
        obtain ⟨⟨y0, y1⟩, g0, g1⟩ := hF.findA
        obtain ⟨⟨r0, r1⟩, f0, f1⟩ := hF.resA
        obtain ⟨_, e4, e5⟩ := hF.flat
        have HF4 := Lib.hid hF4
        clear hob hF4
        go_wp2_with (refine wpList_string_of_OB _ rfl 22 9 5 _ rfl w.heap.size _ _ rfl Tryz.underlying22 Tryz.underlying5 Tryz.underlying9 HOB.out ?_)
        exact bodyPost_ret (v := .tuple #[fdV (H ++ ⟨#[x]⟩) false, .slice none 0 0]) (by simp [results, Tryz.results86, go_sem, r0, r1]) rfl (byte_end (HF4.out.put (H ++ ⟨#[x]⟩)) (v := .slice none 0 0) (l := []) (RE_nil _ _ _) (H ++ ⟨#[x]⟩) false (by rw [HS.out, str_append]; rfl))
end Go.Proofs.YtcegpcggdcgjbaaGreatDoor
/- Bytes taken one by one, in the model. -/
namespace Go.Proofs.YtcegpcggdcgjbaaGreatDoor
open Go.ChangeShapes Go.WideShapes Go.ChangeAt Go.RowKit
/-- a finder, and a slice of events of the call's own -/
def FeedPost (w : World) (p : Fd × List Ev) (e : Ending) (w' : World) : Prop := ∃ v, e = .returned (.tuple #[fdL p.1, v]) ∧ OE w' w.heap.size v p.2 ∧ Below w.heap.size w w'
theorem F3.farSet {w W : World} {a b d m : Int} {H : ByteArray} {o : Bool} (h : F3 w W a b d m H o) {g i : Nat} (hg : w.heap.size + 3 ≤ g) (x : Value) : F3 w (W.setCell ⟨g, i, none⟩ x) a b d m H o :=
  ⟨h.1.far (by omega) _, h.2.1.far (by omega) _, h.2.2.1.far (by omega) _, h.2.2.2.setCell (by show w.heap.size ≤ g; omega) _⟩
/-- a finder and events that a call has answered, the finder in a box that was made ahead of the call or behind it -/
def XAt (w0 wx : World) (g : Nat) (X : ByteArray) (y : Bool) (v : Value) (l : List Ev) : Prop := BK wx g #[.string X, .bool y] 37 ∧ w0.heap.size ≤ g ∧ RE wx w0.heap.size wx.heap.size v l ∧ Below w0.heap.size w0 wx
theorem x_last {w0 w2 : World} {v : Value} {l : List Ev} (hb : Below w0.heap.size w0 w2) (hr : RE w2 w0.heap.size w2.heap.size v l) (X : ByteArray) (y : Bool) : XAt w0 (w2.alloc (.cells #[.string X, .bool y] 37)) w2.heap.size X y v l :=
  ⟨BK.new _ _ _, hb.size, (hr.below ((Below.refl _ _).alloc (Nat.le_refl _) _)).mono (Nat.le_refl _) (by simp), hb.alloc hb.size _⟩
theorem x_ahead {w0 w2 : World} {v : Value} {l : List Ev} {x y : Value} (hb : Below (w0.alloc (.cells #[x, y] 37)).heap.size (w0.alloc (.cells #[x, y] 37)) w2) (hr : RE w2 (w0.alloc (.cells #[x, y] 37)).heap.size w2.heap.size v l) (X : ByteArray) (o : Bool) :
    XAt w0 ((w2.setCell ⟨w0.heap.size, 0, none⟩ (.string X)).setCell ⟨w0.heap.size, 1, none⟩ (.bool o)) w0.heap.size X o v l := by
  have hs : (w0.alloc (.cells #[x, y] 37)).heap.size = w0.heap.size + 1 := by simp
  refine ⟨(((BK.new w0 #[x, y] 37).from hb).set 0 (.string X)).set 1 (.bool o), Nat.le_refl _, ?_, ?_⟩
  · have h1 := (hr.setCell (p := ⟨w0.heap.size, 0, none⟩) (by rw [hs]; simp) (.string X)).setCell (p := ⟨w0.heap.size, 1, none⟩) (by rw [hs]; simp) (.bool o)
    exact h1.mono (by rw [hs]; omega) (by simp)
  · exact ((alloc_below hb).setCell (by simp) _).setCell (by simp) _
theorem OE.reads' {w : World} {base : Nat} {v : Value} {l : List Ev} (h : OE w base v l) : RE w base w.heap.size v l := h.reads
theorem OE.mono {w : World} {base base' : Nat} {v : Value} {l : List Ev} (h : OE w base v l) (hb : base' ≤ base) : OE w base' v l := by
  refine ⟨h.1, ?_⟩
  rcases h.2 with hn | ⟨g, cap, cur, hv, hbg, rest⟩
  · exact .inl hn
  · exact .inr ⟨g, cap, cur, hv, by omega, rest⟩
theorem OE.drew {w : World} {base : Nat} {v : Value} {l : List Ev} (h : OE w base v l) : OE w.drew base v l := h
theorem feed_done {w W : World} {a b d m : Int} {X : ByteArray} {y : Bool} {v : Value} {evs : List Ev} {p : Fd × List Ev} (hF : F3 w W a b d m X y) (ho : OE W (w.heap.size + 3) v evs) (hp : p = (⟨X.data.toList, y⟩, evs)) :
    FeedPost w p (.returned (.tuple #[fdV X y, v])) ((W.setCell ⟨w.heap.size + 2, 0, none⟩ (.string X)).setCell ⟨w.heap.size + 2, 1, none⟩ (.bool y)) := by
  subst hp
  refine ⟨v, by simp only [fdL], ?_, hF.done _ _⟩
  have h1 := (ho.put (p := ⟨w.heap.size + 2, 0, none⟩) (by simp) (.string X)).put (p := ⟨w.heap.size + 2, 1, none⟩) (by simp) (.bool y)
  exact h1.mono (by omega)
theorem OE_made (w : World) {base g : Nat} (hg : w.heap.size = g) (hb : base ≤ g := by omega) : OE (w.alloc (.cells #[] 110)) base (.slice (some ⟨g, 0, none⟩) 0 0) [] := by
  subst hg
  exact ⟨rfl, .inr ⟨w.heap.size, 0, #[], rfl, hb, heap_alloc_new w _, Nat.le_refl _, by simp [maxLen], rfl, rfl⟩⟩
set_option maxRecDepth 100000 in
set_option maxHeartbeats 4000000 in
theorem l7Feed_any (a b d m : Int) (H : ByteArray) (o : Bool) (s : ByteArray) (w : World) (hok : okF ⟨a, b, d, m⟩ ⟨H.data.toList, o⟩ = true) (hs : s.size ≤ 1048576) :
    Calls Tryz.prog 60 #[cfV a b d m, fdV H o, .string s] w (FeedPost w (ffeed ⟨a, b, d, m⟩ ⟨H.data.toList, o⟩ s.data.toList)) := by
  have hz := zero_find
  have HOK := Lib.hid hok
  have HSL := Lib.hid (size_list s)
  obtain ⟨i0, hi, hz0, hz1, hz2⟩ := info_parts info_ev
  have HI := Lib.hid hi
  have HZ0 := Lib.hid hz0
  have HZ1 := Lib.hid hz1
  have HZ2 := Lib.hid hz2
  clear hok hi hz0 hz1 hz2
  go_enter Tryz.func60, Tryz.ntmps60
  go_wp2
  go_loopw [8, 9] (fun v i wr => ∃ (k : Nat) (X : ByteArray) (y : Bool) (evs : List Ev), k ≤ s.size ∧ i = .int .i64 k ∧ ffeed ⟨a, b, d, m⟩ ⟨H.data.toList, o⟩ (s.data.toList.take k) = (⟨X.data.toList, y⟩, evs) ∧ OE wr (w.heap.size + 3) v evs ∧ F3 w wr a b d m X y) (fun _ i _ => s.size - (intOf i).toNat)
  case atStart => exact ⟨0, H, o, [], Nat.zero_le _, rfl, rfl, OE_made _ (by simp), (F3.start w a b d m H o).alloc _⟩
  case round =>
    obtain ⟨k, X, y, evs, hk, rfl, hfe, hoe, hF⟩ := hrel
    have HFE := Lib.hid hfe
    have HOE := Lib.hid hoe
    have hel := ffeed_len ⟨a, b, d, m⟩ (s.data.toList.take k) ⟨H.data.toList, o⟩
    have hokk := ffeed_ok (s.data.toList.take k) HOK.out
    rw [hfe] at hel hokk
    have hl2 : (s.data.toList.take k).length ≤ k := List.length_take_le _ _
    simp only at hel hokk
    have HOKK := Lib.hid hokk
    clear hfe hoe hokk
    by_cases hlt : k < s.size
    · have HS := Lib.hid (show ffeed ⟨a, b, d, m⟩ ⟨H.data.toList, o⟩ (s.data.toList.take (k + 1)) = ((fstep ⟨a, b, d, m⟩ ⟨X.data.toList, y⟩ s[k]).1, evs ++ (fstep ⟨a, b, d, m⟩ ⟨X.data.toList, y⟩ s[k]).2.toList) by
        rw [snoc_take s k hlt, ffeed_snoc, HFE.out]; rfl)
      obtain ⟨⟨c0, c1, c2, c3⟩, e0, e1⟩ := hF.flat
      have hge := hF.size
      have hF := hF.drew
      obtain ⟨fn, en, hst⟩ : ∃ fn en, fstep ⟨a, b, d, m⟩ ⟨X.data.toList, y⟩ s[k] = (fn, en) := ⟨_, _, rfl⟩
      obtain ⟨Xl, yn⟩ := fn
      obtain ⟨Xn, rfl⟩ : ∃ Xn : ByteArray, Xn.data.toList = Xl := ⟨⟨Xl.toArray⟩, rfl⟩
      have HBY := Lib.hid (fun w => l7Byte_any a b d m X y s[k] w HOKK.out)
      rw [hst] at HS HBY
      clear hst
      have hF0 := Lib.hid hF
      go_upto_region 5 with fail
      go_cut [10, 11] (fun s10 s11 wx => ∃ g, s10 = .pointer (some ⟨g, 0, none⟩) ∧ XAt wr.drew wx g Xn yn s11 en.toList)
      case first =>
        go_region_held3 (fun wx => (wx.cell? ⟨w.heap.size, 0, none⟩ = some (.int .i64 a) ∧ wx.cell? ⟨w.heap.size, 1, none⟩ = some (.int .i64 b) ∧ wx.cell? ⟨w.heap.size, 2, none⟩ = some (.int .i64 d) ∧ wx.cell? ⟨w.heap.size, 3, none⟩ = some (.int .i64 m)) ∧ (wx.cell? ⟨w.heap.size + 1, 0, none⟩ = some (.string X) ∧ wx.cell? ⟨w.heap.size + 1, 1, none⟩ = some (.bool y))) (first | exact hF.flat | exact (hF.alloc _).flat | exact ((hF.farSet hge _).farSet hge _).flat) (first | (go_at_call 86; refine (HBY.out _).mono ?_; rintro e w2 ⟨v2, rfl, hr2, hb2⟩; simp only [fdL, Lib.mk_data]; (first | have hF := hF.from hb2 | (have hF := (hF.alloc _).from hb2; have hx : BK w2 wr.heap.size #[.string ⟨#[]⟩, .bool false] 37 := (BK.new wr.drew _ _).from hb2; have x0 : w2.cell? ⟨wr.heap.size, 0, none⟩ = some (.string ⟨#[]⟩) := hx.cell rfl; have x1 : w2.cell? ⟨wr.heap.size, 1, none⟩ = some (.bool false) := hx.cell rfl; have y0 := hx.free 0; have y1 := hx.free 1))))
        all_goals
          (first
            | (have hXA := x_last (w0 := wr.drew) hb2 hr2 Xn yn)
            | (have hXA := x_ahead (w0 := wr.drew) hb2 hr2 Xn yn))
          have HXA := Lib.hid hXA
          clear hXA hb2 hr2
          go_wp2
          go_meet
          exact ⟨_, rfl, HXA.out⟩
      case rest =>
        obtain ⟨g, rfl, hbk, hgg, hre, hbl⟩ := hcut
        have k0 := hbk.cell (i := 0) rfl
        have k1 := hbk.cell (i := 1) rfl
        have hFc := hF0.out.from hbl
        obtain ⟨_, e0, e1⟩ := hFc.flat
        obtain ⟨_, ⟨f0, f1⟩, _, _⟩ := hFc.res
        have hgs := hF0.out.size
        have hF4 := hFc.put2 Xn yn
        have hoe4 := ((HOE.out.drew.below hbl).put (p := ⟨w.heap.size + 1, 0, none⟩) (by simp) (.string Xn)).put (p := ⟨w.heap.size + 1, 1, none⟩) (by simp) (.bool yn)
        have hre4 := (hre.setCell (p := ⟨w.heap.size + 1, 0, none⟩) (by show w.heap.size + 1 < _; omega) (.string Xn)).setCell (p := ⟨w.heap.size + 1, 1, none⟩) (by show w.heap.size + 1 < _; omega) (.bool yn)
        have HF4 := Lib.hid hF4
        have HOE4 := Lib.hid hoe4
        have HRE4 := Lib.hid hre4
        have hlen1 := opt_len en
        clear hbk hgg hre hbl hFc hF4 hoe4 hre4 c0 c1 c2 c3
        go_wp2_with (at_builtin; refine wpList_append_ev _ rfl _ _ 97 rfl (w.heap.size + 3) i0 Tryz.underlying97 HI.out HZ0.out HZ1.out HZ2.out _ evs rfl HOE4.out _ _ _ en.toList rfl HRE4.out (by omega) (by have := HF4.out.size; omega) ?_; intro v5 w5 ho5 hg5 hat5; have HOE5 := Lib.hid ho5; have HF5 := Lib.hid (HF4.out.grown hg5 (fun k hk => (HOE4.out.lt k hk).1)); clear ho5 hg5 hat5)
        go_roundw
        case rel => exact ⟨k + 1, Xn, yn, evs ++ en.toList, by omega, by go_num, HS.out, HOE5.out, HF5.out⟩
        case measure => simp [intOf]; omega
    · have HE := Lib.hid (take_all s k (by omega))
      rw [HE.out] at HFE
      obtain ⟨_, e0, e1⟩ := hF.flat
      obtain ⟨⟨r0, r1⟩, _, f0, f1⟩ := hF.res
      have HQ := Lib.hid (feed_done hF HOE.out HFE.out)
      clear hF
      go_wp2
      exact bodyPost_ret (v := .tuple #[fdV X y, u8]) (by simp [results, Tryz.results60, go_sem, r0, r1]) rfl HQ.out
end Go.Proofs.YtcegpcggdcgjbaaGreatDoor
/- Bytes taken one by one, in the program. -/
namespace Go.Proofs.YtcegpcggdcgjbaaGreatDoor
open Go.ChangeShapes Go.WideShapes Go.ChangeAt Go.RowKit
theorem row_apart {w : World} {b b' : Nat} {v v' : Value} {l : List UInt8} {l' : List Ev} (h : OB 5 w b v l) (h' : OE w b' v' l') : (v'.ownBlock = none ∨ v'.ownBlock ≠ v.ownBlock) ∧ (v.ownBlock = none ∨ v.ownBlock ≠ v'.ownBlock) := by
  rcases h with ⟨rfl, _⟩ | ⟨g, cap, cur, fz, rfl, _, hg, _⟩
  · refine ⟨?_, .inl rfl⟩
    cases hv : v'.ownBlock with
    | none => exact .inl rfl
    | some k => exact .inr (by simp [Value.ownBlock])
  · rcases h'.2 with ⟨rfl, _⟩ | ⟨g', cap', cur', rfl, _, hg', _⟩
    · exact ⟨.inl rfl, .inr (by simp [Value.ownBlock])⟩
    · have hne : g ≠ g' := by
        rintro rfl
        rw [hg] at hg'
        injection hg' with e
        injection e with _ e2 _
        exact absurd e2 (by decide)
      exact ⟨.inr (by simp [Value.ownBlock]; exact fun e => hne e.symm), .inr (by simp [Value.ownBlock]; exact hne)⟩
def RepPost (w : World) (base : Nat) (v : Value) (l : List Ev) (e : Ending) (w' : World) : Prop := ∃ v', e = .returned v' ∧ OE w' base v' l ∧ w.grownBy w' v.ownBlock
theorem grown_alloc' (w : World) (o : Obj) (row : Option Nat) : w.grownBy (w.alloc o) row := World.grownBy_alloc w _ _
theorem OE.alloc' {w : World} {base : Nat} {v : Value} {l : List Ev} (h : OE w base v l) (o : Obj) : OE (w.alloc o) base v l := h.below ((Below.refl _ _).alloc (Nat.le_refl _) _)
set_option maxRecDepth 100000 in
set_option maxHeartbeats 1000000 in
theorem report_any (v : Value) (l : List Ev) (ev : Ev) (w : World) (base : Nat) (ho : OE w base v l) (hl : l.length ≤ 1048576) (hb : base ≤ w.heap.size) :
    Calls Tryz.prog 129 #[v, evW ev] w (RepPost w base v (l ++ if ev.kind = 0 then [] else [ev])) := by
  have HO := Lib.hid ho
  clear ho
  by_cases hk : ev.kind = 0
  · have hkb : (ev.kind == 0) = true := by rw [beq_iff_eq]; exact hk
    rw [if_pos hk, List.append_nil]
    clear hk
    go_enter Tryz.func129, Tryz.ntmps129
    go_wp2
    go_ret
    exact ⟨_, rfl, HO.out.alloc' _, grown_alloc' _ _ _⟩
  · have hkb : (ev.kind == 0) = false := beq_eq_false_iff_ne.2 hk
    rw [if_neg hk]
    clear hk
    obtain ⟨i0, hi, hz0, hz1, hz2⟩ := info_parts info_ev
    have HI := Lib.hid hi
    have HZ0 := Lib.hid hz0
    have HZ1 := Lib.hid hz1
    have HZ2 := Lib.hid hz2
    clear hi hz0 hz1 hz2
    go_enter Tryz.func129, Tryz.ntmps129
    have hre := RE_new (w.alloc (.cells #[.int .i64 ev.kind, .string ⟨ev.text.toArray⟩] 110)) ev
    rw [World.size_alloc] at hre
    have HRE := Lib.hid hre
    clear hre
    go_wp2_with (at_builtin; refine wpList_append_ev _ rfl _ _ 97 rfl base i0 Tryz.underlying97 HI.out HZ0.out HZ1.out HZ2.out _ l rfl ((HO.out.alloc' _).alloc' _) _ _ _ [ev] rfl HRE.out (by simp; omega) (by simp; omega) ?_; intro v5 w5 ho5 hg5 hat5)
    go_ret
    exact ⟨_, rfl, ho5, grown_trans (grown_trans (grown_alloc' _ _ _) (grown_alloc' _ _ _)) hg5⟩
end Go.Proofs.YtcegpcggdcgjbaaGreatDoor
