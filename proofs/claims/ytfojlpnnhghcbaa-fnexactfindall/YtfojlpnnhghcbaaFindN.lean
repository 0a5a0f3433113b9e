/- A byte taken, in the model. -/
import Derived.Test.YtfojlpnnhghcbaaFindK
import Derived.Test.YtfojlpnnhghcbaaFindH
namespace Go.Proofs.Ytfojlpnnhghcbaa
open Go.ChangeShapes Go.WideShapes Go.ChangeAt Go.RowKit
abbrev fdL (f : Fd) : Value := .agg #[.string ⟨f.held.toArray⟩, .bool f.over]
def BytePost (w : World) (p : Fd × List Ev) (e : Ending) (w' : World) : Prop := ∃ v, e = .returned (.tuple #[fdL p.1, v]) ∧ RE w' w.heap.size w'.heap.size v p.2 ∧ Below w.heap.size w w'
/-- the boxes of a configuration, of a finder, of the result -/
def F3 (w W : World) (a b d m : Int) (H : ByteArray) (o : Bool) : Prop := BK W w.heap.size #[.int .i64 a, .int .i64 b, .int .i64 d, .int .i64 m] 24 ∧ BK W (w.heap.size + 1) #[.string H, .bool o] 30 ∧ BK W (w.heap.size + 2) #[.string ⟨#[]⟩, .bool false] 30 ∧ Below w.heap.size w W
theorem zero_find (w : World) : (zeroValue 30).run Try.prog w = .ok (.agg #[.string ⟨#[]⟩, .bool false]) w := by kernel_rfl
section
variable {w W W' : World} {a b d m : Int} {H : ByteArray} {o : Bool}
theorem F3.start (w : World) (a b d m : Int) (H : ByteArray) (o : Bool) : F3 w (((w.alloc (.cells #[.int .i64 a, .int .i64 b, .int .i64 d, .int .i64 m] 24)).alloc (.cells #[.string H, .bool o] 30)).alloc (.cells #[.string ⟨#[]⟩, .bool false] 30)) a b d m H o := by
  have h2 := BK.new (w.alloc (.cells #[.int .i64 a, .int .i64 b, .int .i64 d, .int .i64 m] 24)) #[.string H, .bool o] 30
  rw [World.size_alloc] at h2
  have h3 := BK.new ((w.alloc (.cells #[.int .i64 a, .int .i64 b, .int .i64 d, .int .i64 m] 24)).alloc (.cells #[.string H, .bool o] 30)) #[.string ⟨#[]⟩, .bool false] 30
  rw [World.size_alloc, World.size_alloc] at h3
  exact ⟨((BK.new w _ _).alloc _).alloc _, h2.alloc _, h3, (below2 _ _ _).alloc (by simp; omega) _⟩
theorem F3.from (h : F3 w W a b d m H o) (hb : Below W.heap.size W W') : F3 w W' a b d m H o := ⟨h.1.from hb, h.2.1.from hb, h.2.2.1.from hb, h.2.2.2.trans (hb.mono h.2.2.2.size)⟩
theorem F3.alloc (h : F3 w W a b d m H o) (x : Obj) : F3 w (W.alloc x) a b d m H o := h.from ((Below.refl _ _).alloc (Nat.le_refl _) _)
theorem F3.drew (h : F3 w W a b d m H o) : F3 w W.drew a b d m H o := ⟨h.1, h.2.1, h.2.2.1, h.2.2.2.drew⟩
theorem F3.grown {row : Option Nat} (h : F3 w W a b d m H o) (hg : W.grownBy W' row) (hr : ∀ k, row = some k → w.heap.size + 3 ≤ k) : F3 w W' a b d m H o := by
  refine ⟨h.1.grown hg ?_, h.2.1.grown hg ?_, h.2.2.1.grown hg ?_, h.2.2.2.grown hg h.2.2.2.size (fun k hk => by have := hr k hk; omega)⟩ <;> (intro e; have := hr _ e; omega)
theorem F3.size (h : F3 w W a b d m H o) : w.heap.size + 3 ≤ W.heap.size := h.2.2.1.lt
theorem F3.flat (h : F3 w W a b d m H o) :
    (W.cell? ⟨w.heap.size, 0, none⟩ = some (.int .i64 a) ∧ W.cell? ⟨w.heap.size, 1, none⟩ = some (.int .i64 b) ∧ W.cell? ⟨w.heap.size, 2, none⟩ = some (.int .i64 d) ∧ W.cell? ⟨w.heap.size, 3, none⟩ = some (.int .i64 m)) ∧
    (W.cell? ⟨w.heap.size + 1, 0, none⟩ = some (.string H) ∧ W.cell? ⟨w.heap.size + 1, 1, none⟩ = some (.bool o)) := ⟨⟨h.1.cell rfl, h.1.cell rfl, h.1.cell rfl, h.1.cell rfl⟩, h.2.1.cell rfl, h.2.1.cell rfl⟩
theorem F3.res (h : F3 w W a b d m H o) :
    (W.cell? ⟨w.heap.size + 2, 0, none⟩ = some (.string ⟨#[]⟩) ∧ W.cell? ⟨w.heap.size + 2, 1, none⟩ = some (.bool false)) ∧ (W.frozen? ⟨w.heap.size + 1, 0, none⟩ = false ∧ W.frozen? ⟨w.heap.size + 1, 1, none⟩ = false) ∧ W.frozen? ⟨w.heap.size + 2, 0, none⟩ = false ∧ W.frozen? ⟨w.heap.size + 2, 1, none⟩ = false :=
  ⟨⟨h.2.2.1.cell rfl, h.2.2.1.cell rfl⟩, ⟨h.2.1.free 0, h.2.1.free 1⟩, h.2.2.1.free 0, h.2.2.1.free 1⟩
theorem F3.resA (h : F3 w W a b d m H o) :
    ((∀ O, (W.alloc O).cell? ⟨w.heap.size + 2, 0, none⟩ = some (.string ⟨#[]⟩)) ∧ (∀ O, (W.alloc O).cell? ⟨w.heap.size + 2, 1, none⟩ = some (.bool false))) ∧ (∀ O, (W.alloc O).frozen? ⟨w.heap.size + 2, 0, none⟩ = false) ∧ (∀ O, (W.alloc O).frozen? ⟨w.heap.size + 2, 1, none⟩ = false) :=
  ⟨⟨fun O => (h.alloc O).res.1.1, fun O => (h.alloc O).res.1.2⟩, fun O => (h.alloc O).res.2.2.1, fun O => (h.alloc O).res.2.2.2⟩
theorem F3.findA (h : F3 w W a b d m H o) :
    ((∀ O, (W.alloc O).cell? ⟨w.heap.size + 1, 0, none⟩ = some (.string H)) ∧ (∀ O, (W.alloc O).cell? ⟨w.heap.size + 1, 1, none⟩ = some (.bool o))) ∧ (∀ O, (W.alloc O).frozen? ⟨w.heap.size + 1, 0, none⟩ = false) ∧ (∀ O, (W.alloc O).frozen? ⟨w.heap.size + 1, 1, none⟩ = false) :=
  ⟨⟨fun O => (h.alloc O).flat.2.1, fun O => (h.alloc O).flat.2.2⟩, fun O => (h.alloc O).res.2.1.1, fun O => (h.alloc O).res.2.1.2⟩
theorem F3.done (h : F3 w W a b d m H o) (x y : Value) : Below w.heap.size w ((W.setCell ⟨w.heap.size + 2, 0, none⟩ x).setCell ⟨w.heap.size + 2, 1, none⟩ y) := (h.2.2.2.setCell (by simp) _).setCell (by simp) _
end
theorem F3.put {w W : World} {a b d m : Int} {H : ByteArray} {o : Bool} (h : F3 w W a b d m H o) (X : ByteArray) : F3 w (W.setCell ⟨w.heap.size + 1, 0, none⟩ (.string X)) a b d m X o :=
  ⟨h.1.far (by omega) _, h.2.1.set 0 (.string X), h.2.2.1.far (by omega) _, h.2.2.2.setCell (by simp) _⟩
theorem F3.put2 {w W : World} {a b d m : Int} {H : ByteArray} {o : Bool} (h : F3 w W a b d m H o) (X : ByteArray) (y : Bool) : F3 w ((W.setCell ⟨w.heap.size + 1, 0, none⟩ (.string X)).setCell ⟨w.heap.size + 1, 1, none⟩ (.bool y)) a b d m X y :=
  ⟨(h.1.far (by omega) _).far (by omega) _, (h.2.1.set 0 (.string X)).set 1 (.bool y), (h.2.2.1.far (by omega) _).far (by omega) _, (h.2.2.2.setCell (by simp) _).setCell (by simp) _⟩
/-- the end of a call: the finder in its box, the events -/
theorem byte_end {w W : World} {a b d m : Int} {H : ByteArray} {o : Bool} (h : F3 w W a b d m H o) {v : Value} {l : List Ev} (hr : RE W (w.heap.size + 3) W.heap.size v l) (x : ByteArray) (y : Bool) {p : Fd × List Ev} (hp : p = (⟨x.data.toList, y⟩, l)) :
    BytePost w p (.returned (.tuple #[fdV x y, v])) ((W.setCell ⟨w.heap.size + 2, 0, none⟩ (.string x)).setCell ⟨w.heap.size + 2, 1, none⟩ (.bool y)) := by
  subst hp
  refine ⟨v, by simp only [fdL], ?_, h.done _ _⟩
  have h1 := (hr.setCell (p := ⟨w.heap.size + 2, 0, none⟩) (by simp) (.string x)).setCell (p := ⟨w.heap.size + 2, 1, none⟩) (by simp) (.bool y)
  exact h1.mono (by omega) (by simp)
set_option maxRecDepth 100000 in
set_option maxHeartbeats 4000000 in
theorem l7Byte_any (a b d m : Int) (H : ByteArray) (o : Bool) (x : UInt8) (w : World) (hok : okF ⟨a, b, d, m⟩ ⟨H.data.toList, o⟩ = true) :
    Calls Try.prog 73 #[cfV a b d m, fdV H o, .int .u8 x.toNat] w (BytePost w ((fstep ⟨a, b, d, m⟩ ⟨H.data.toList, o⟩ x).1, (fstep ⟨a, b, d, m⟩ ⟨H.data.toList, o⟩ x).2.toList)) := by
  obtain ⟨hc, hlen, hne, hov⟩ := okF_yes hok
  obtain ⟨_, hkb, hd, _, _⟩ := confB_yes hc
  simp only at hkb hd hlen hne hov
  have hkb2 := kind_ge hkb
  rw [size_list] at hlen
  have hp := hold_pos hc
  have HC := Lib.hid hc
  have HNE := Lib.hid hne
  have hz := zero_find
  have hze := zero_event
  generalize hend : endOf ⟨a, b, d, m⟩ = c
  have HEnd := Lib.hid hend
  have hxl := x.toNat_lt
  have hcl := c.toNat_lt
  clear hend hc hok hne
  by_cases hxc : x.toNat = c.toNat
  · have hce : x = c := UInt8.toNat_inj.1 hxc
    have hcb : ((x.toNat : Int) == (c.toNat : Int)) = true := by rw [beq_iff_eq, hxc]
    have HS := Lib.hid (show fstep ⟨a, b, d, m⟩ ⟨H.data.toList, o⟩ x = (⟨[], false⟩, endE ⟨a, b, d, m⟩ ⟨H.data.toList, o⟩) by unfold fstep; rw [HEnd.out, if_pos hce])
    clear hxc hce
    cases o with
    | true =>
      go_enter Try.func73, Try.ntmps73
      go_wp2_with fail
      refine (l7End_any a b d m _).mono ?_
      rintro e w1 ⟨rfl, hb1⟩
      have hF := (F3.start w a b d m H true).from hb1
      obtain ⟨⟨c0, c1, c2, c3⟩, e0, e1⟩ := hF.flat
      obtain ⟨⟨r0, r1⟩, f0, f1⟩ := hF.resA
      rw [HEnd.out]
      have HQ := Lib.hid (byte_end (hF.alloc (.cells #[.int .i64 5, .string ⟨#[]⟩] 47)) (v := .slice (some ⟨w1.heap.size, 0, none⟩) 1 1) (l := [⟨5, []⟩]) ((RE_new w1 ⟨5, []⟩).mono hF.size (by simp)) ⟨#[]⟩ false (p := ((fstep ⟨a, b, d, m⟩ ⟨H.data.toList, true⟩ x).1, (fstep ⟨a, b, d, m⟩ ⟨H.data.toList, true⟩ x).2.toList)) (by rw [HS.out]; rfl))
      clear hb1 hF
      go_wp2
      exact bodyPost_ret (v := .tuple #[fdV ⟨#[]⟩ false, .slice (some ⟨w1.heap.size, 0, none⟩) 1 1]) (by simp [results, Try.results73, go_sem, r0, r1]) rfl HQ.out
    | false =>
      go_enter Try.func73, Try.ntmps73
      go_wp2_with fail
      refine (l7End_any a b d m _).mono ?_
      rintro e w1 ⟨rfl, hb1⟩
      have hF := (F3.start w a b d m H false).from hb1
      obtain ⟨⟨c0, c1, c2, c3⟩, e0, e1⟩ := hF.flat
      rw [HEnd.out]
      have HF := Lib.hid hF
      clear hb1 hF
      go_wp2_with fail
      refine (l7Event_any a b d m H _ HC.out (by omega) HNE.out).mono ?_
      rintro e w2 ⟨v2, rfl, hr2, hb2⟩
      have hF := HF.out.from hb2
      obtain ⟨⟨r0, r1⟩, _, f0, f1⟩ := hF.res
      have HQ := Lib.hid (byte_end hF (hr2.mono HF.out.size (Nat.le_refl _)) ⟨#[]⟩ false (p := ((fstep ⟨a, b, d, m⟩ ⟨H.data.toList, false⟩ x).1, (fstep ⟨a, b, d, m⟩ ⟨H.data.toList, false⟩ x).2.toList)) (by rw [HS.out]; rfl))
      clear hb2 hF hr2
      go_wp2
      exact bodyPost_ret (v := .tuple #[fdV ⟨#[]⟩ false, v2]) (by simp [results, Try.results73, go_sem, r0, r1]) rfl HQ.out
  · have hcn : x ≠ c := fun e => hxc (by rw [e])
    have hcb : ((x.toNat : Int) == (c.toNat : Int)) = false := beq_eq_false_iff_ne.2 (by omega)
    cases o with
    | true =>
      have HS := Lib.hid (show fstep ⟨a, b, d, m⟩ ⟨H.data.toList, true⟩ x = (⟨H.data.toList, true⟩, none) by unfold fstep; rw [HEnd.out, if_neg hcn, if_pos rfl])
      go_enter Try.func73, Try.ntmps73
      go_wp2_with fail
      refine (l7End_any a b d m _).mono ?_
      rintro e w1 ⟨rfl, hb1⟩
      have hF := (F3.start w a b d m H true).from hb1
      obtain ⟨⟨c0, c1, c2, c3⟩, e0, e1⟩ := hF.flat
      obtain ⟨⟨r0, r1⟩, _, f0, f1⟩ := hF.res
      rw [HEnd.out]
      have HQ := Lib.hid (byte_end hF (v := .slice none 0 0) (l := []) (RE_nil _ _ _) H true (p := ((fstep ⟨a, b, d, m⟩ ⟨H.data.toList, true⟩ x).1, (fstep ⟨a, b, d, m⟩ ⟨H.data.toList, true⟩ x).2.toList)) (by rw [HS.out]; rfl))
      clear hb1 hF
      go_wp2
      exact bodyPost_ret (v := .tuple #[fdV H true, .slice none 0 0]) (by simp [results, Try.results73, go_sem, r0, r1]) rfl HQ.out
    | false =>
      by_cases hfull : holdN ⟨a, b, d, m⟩ ≤ (H.size : Int)
      · have HS := Lib.hid (show fstep ⟨a, b, d, m⟩ ⟨H.data.toList, false⟩ x = (⟨[], true⟩, none) by unfold fstep; rw [HEnd.out, if_neg hcn, if_neg (by simp), size_list, if_pos hfull])
        generalize hold : holdN ⟨a, b, d, m⟩ = hn at *
        have HO := Lib.hid hold
        clear hold
        go_enter Try.func73, Try.ntmps73
        go_wp2_with fail
        refine (l7End_any a b d m _).mono ?_
        rintro e w1 ⟨rfl, hb1⟩
        have hF := (F3.start w a b d m H false).from hb1
        obtain ⟨⟨c0, c1, c2, c3⟩, e0, e1⟩ := hF.flat
        rw [HEnd.out]
        clear hb1
        go_wp2_with fail
        have hF := hF.drew
        go_region_held3 (fun wx => (wx.cell? ⟨w.heap.size, 0, none⟩ = some (.int .i64 a) ∧ wx.cell? ⟨w.heap.size, 1, none⟩ = some (.int .i64 b) ∧ wx.cell? ⟨w.heap.size, 2, none⟩ = some (.int .i64 d) ∧ wx.cell? ⟨w.heap.size, 3, none⟩ = some (.int .i64 m)) ∧ (wx.cell? ⟨w.heap.size + 1, 0, none⟩ = some (.string H) ∧ wx.cell? ⟨w.heap.size + 1, 1, none⟩ = some (.bool false))) (first | exact hF.flat) (first | (go_at_call 58; refine (l7Hold_any a b d m _ hkb2 hd).mono ?_; rintro e w2 ⟨rfl, hb2⟩; have hF := hF.from hb2; rw [HO.out]))
        obtain ⟨⟨r0, r1⟩, _, f0, f1⟩ := hF.res
        have HQ := Lib.hid (byte_end hF (v := .slice none 0 0) (l := []) (RE_nil _ _ _) ⟨#[]⟩ true (p := ((fstep ⟨a, b, d, m⟩ ⟨H.data.toList, false⟩ x).1, (fstep ⟨a, b, d, m⟩ ⟨H.data.toList, false⟩ x).2.toList)) (by rw [HS.out]; rfl))
        go_wp2
        exact bodyPost_ret (v := .tuple #[fdV ⟨#[]⟩ true, .slice none 0 0]) (by simp [results, Try.results73, go_sem, r0, r1]) rfl HQ.out
      · have HS := Lib.hid (show fstep ⟨a, b, d, m⟩ ⟨H.data.toList, false⟩ x = (⟨H.data.toList ++ [x], false⟩, none) by unfold fstep; rw [HEnd.out, if_neg hcn, if_neg (by simp), size_list, if_neg hfull])
        generalize hold : holdN ⟨a, b, d, m⟩ = hn at *
        have HO := Lib.hid hold
        clear hold
        go_enter Try.func73, Try.ntmps73
        go_wp2_with fail
        refine (l7End_any a b d m _).mono ?_
        rintro e w1 ⟨rfl, hb1⟩
        have hF := (F3.start w a b d m H false).from hb1
        obtain ⟨⟨c0, c1, c2, c3⟩, e0, e1⟩ := hF.flat
        rw [HEnd.out]
        clear hb1
        go_wp2_with fail
        have hF := hF.drew
        go_region_held3 (fun wx => (wx.cell? ⟨w.heap.size, 0, none⟩ = some (.int .i64 a) ∧ wx.cell? ⟨w.heap.size, 1, none⟩ = some (.int .i64 b) ∧ wx.cell? ⟨w.heap.size, 2, none⟩ = some (.int .i64 d) ∧ wx.cell? ⟨w.heap.size, 3, none⟩ = some (.int .i64 m)) ∧ (wx.cell? ⟨w.heap.size + 1, 0, none⟩ = some (.string H) ∧ wx.cell? ⟨w.heap.size + 1, 1, none⟩ = some (.bool false))) (first | exact hF.flat) (first | (go_at_call 58; refine (l7Hold_any a b d m _ hkb2 hd).mono ?_; rintro e w2 ⟨rfl, hb2⟩; have hF := hF.from hb2; rw [HO.out]))
        have hob := OB_one 5 w2 w.heap.size (by have := hF.size; omega) x (.int .u8 x.toNat) rfl
        have HOB := Lib.hid hob
        have hF4 := hF.alloc (.cells #[.int .u8 x.toNat] 5)
        obtain ⟨⟨y0, y1⟩, g0, g1⟩ := hF.findA
        obtain ⟨⟨r0, r1⟩, f0, f1⟩ := hF.resA
        obtain ⟨_, e4, e5⟩ := hF.flat
        have HF4 := Lib.hid hF4
        clear hob hF4
        go_wp2_with (refine wpList_string_of_OB _ rfl 22 9 5 _ rfl w.heap.size _ _ rfl Try.underlying22 Try.underlying5 Try.underlying9 HOB.out ?_)
        exact bodyPost_ret (v := .tuple #[fdV (H ++ ⟨#[x]⟩) false, .slice none 0 0]) (by simp [results, Try.results73, go_sem, r0, r1]) rfl (byte_end (HF4.out.put (H ++ ⟨#[x]⟩)) (v := .slice none 0 0) (l := []) (RE_nil _ _ _) (H ++ ⟨#[x]⟩) false (by rw [HS.out, str_append]; rfl))
end Go.Proofs.Ytfojlpnnhghcbaa
