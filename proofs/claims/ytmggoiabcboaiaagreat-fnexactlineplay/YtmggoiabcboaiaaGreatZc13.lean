/- Parts of a proof, 13: LnG. -/
import Derived.Test.YtmggoiabcboaiaaGreatZc1
import Derived.Test.YtmggoiabcboaiaaGreatZc2
import Derived.Test.YtmggoiabcboaiaaGreatZc3
import Derived.Test.YtmggoiabcboaiaaGreatZc4
import Derived.Test.YtmggoiabcboaiaaGreatZc5
import Derived.Test.YtmggoiabcboaiaaGreatZc6
import Derived.Test.YtmggoiabcboaiaaGreatZc7
import Derived.Test.YtmggoiabcboaiaaGreatZc8
import Derived.Test.YtmggoiabcboaiaaGreatZc9
import Derived.Test.YtmggoiabcboaiaaGreatZc10
import Derived.Test.YtmggoiabcboaiaaGreatZc11
import Derived.Test.YtmggoiabcboaiaaGreatZc12
namespace Go.Proofs.YtmggoiabcboaiaaGreat
open Go.ChangeShapes Go.WideShapes Go.ChangeAt Go.RowKit
def apartV (v u : Value) : Prop := v.ownBlock = none ∨ v.ownBlock ≠ u.ownBlock
def Ap4 (vm vg vt vb : Value) : Prop := (apartV vm vg ∧ apartV vm vt ∧ apartV vm vb) ∧ (apartV vg vm ∧ apartV vg vt ∧ apartV vg vb) ∧ (apartV vt vm ∧ apartV vt vg ∧ apartV vt vb) ∧ (apartV vb vm ∧ apartV vb vg ∧ apartV vb vt)
theorem apart_nil (u : Value) : apartV (.slice none 0 0) u := .inl rfl
def FromB (base : Nat) (w w' : World) : Prop := ∀ B, B ≤ base → B ≤ w.heap.size → Below B w w'
theorem FromB.refl (base : Nat) (w : World) : FromB base w w := fun _ _ _ => Below.refl _ _
theorem FromB.grown {base : Nat} {w w' w'' : World} {v : Value} {ss : List ByteArray} (h : FromB base w w') (ho : OS w' base v ss) (hg : w'.grownBy w'' v.ownBlock) (hs : w.heap.size ≤ w'.heap.size) : FromB base w w'' := fun B hB hw => (h B hB hw).grown hg (Nat.le_trans hw hs) (fun k hk => Nat.le_trans hB (ho.low k hk).1)
theorem FromB.below {base : Nat} {w w' w'' : World} (h : FromB base w w') (hb : Below w'.heap.size w' w'') (hs : w.heap.size ≤ w'.heap.size) : FromB base w w'' := fun B hB hw => (h B hB hw).trans (hb.mono (Nat.le_trans hw hs))
theorem BK.os {w w' : World} {base g : Nat} {cs : Array Value} {t : TypeId} {v : Value} {ss : List ByteArray} (h : BK w g cs t) (ht : t ≠ 9) (ho : OS w base v ss) (hg : w.grownBy w' v.ownBlock) : BK w' g cs t := by
 refine h.grown hg (fun e => ?_)
 rcases ho.2 with ⟨rfl, _⟩ | ⟨g', cap', cur', rfl, _, hg', _⟩
 ·simp [Value.ownBlock] at e
 ·simp [Value.ownBlock] at e
  subst e
  unfold BK at h
  rw [hg'] at h
  injection h with h
  injection h with _ h2 _
  exact ht h2.symm
def KeepB (w w' : World) : Prop := ∀ g cs t, t ≠ 9 → BK w g cs t → BK w' g cs t
theorem OS.under {w w' : World} {base B : Nat} {v : Value} {ss : List ByteArray} (h : OS w base v ss) (hlt : ∀ k, v.ownBlock = some k → k < B) (hb : Below B w w') : OS w' base v ss := by
 obtain ⟨h1, h2⟩ := h
 refine ⟨h1, ?_⟩
 rcases h2 with h2 | ⟨g, cap, cur, rfl, hb', hgg, rest⟩
 ·exact .inl h2
 ·refine .inr ⟨g, cap, cur, rfl, hb', ?_, rest⟩
  rw [hb.block g (hlt g (by simp [Value.ownBlock]))]
  exact hgg
theorem apart_of {w : World} {B : Nat} {v u : Value} {us : List ByteArray} (hv : ∀ k, v.ownBlock = some k → k < B) (hu : OS w B u us) : apartV v u ∧ apartV u v := by
 constructor
 ·unfold apartV
  cases h : v.ownBlock with
  | none => exact .inl rfl
  | some k => exact .inr (fun e => by have h1 := (hu.low k e.symm).1; have h2 := hv k h; omega)
 ·unfold apartV
  cases h : u.ownBlock with
  | none => exact .inl rfl
  | some k => exact .inr (fun e => by have h1 := (hu.low k h).1; have h2 := hv k e.symm; omega)
set_option maxRecDepth 100000 in
set_option maxHeartbeats 4000000 in
theorem markLine_any (a b d m : Int) (vm : Value) (ms : List ByteArray) (nx : Int) (vg : Value) (gs : List ByteArray) (T : ByteArray) (to : Bool) (H : ByteArray) (ho : Bool) (vt : Value) (ts : List ByteArray) (vb : Value) (bs : List ByteArray) (w : World) (base : Nat) (h : OL w base vm ms vg gs vt ts vb bs) (ap : Ap4 vm vg vt vb) (hl : ms.length + gs.length + ts.length + bs.length ≤ 10000000) :
  Calls Tryz.prog 30 #[lnV a b d m vm nx vg T to H ho vt vb, .int .i64 1] w fun e w' => e = .returned (.int .i64 ((1 + ms.length + gs.length + ts.length + bs.length : Nat) : Int)) ∧ OL w' base vm (marksS 1 ms.length) vg (marksS (1 + ms.length) gs.length) vt (marksS (1 + ms.length + gs.length) ts.length) vb (marksS (1 + ms.length + gs.length + ts.length) bs.length) ∧ FromB base w w' ∧ w.heap.size ≤ w'.heap.size ∧ KeepB w w' := by
 have hbx : Below w.heap.size w (w.alloc (.cells #[.int .i64 a, .int .i64 b, .int .i64 d, .int .i64 m, vm, .int .i64 nx, vg, .string T, .bool to, .string H, .bool ho, vt, vb] 32)) := (Below.refl _ w).alloc (Nat.le_refl _) _
 have hk := BK.new w #[.int .i64 a, .int .i64 b, .int .i64 d, .int .i64 m, vm, .int .i64 nx, vg, .string T, .bool to, .string H, .bool ho, vt, vb] 32
 obtain ⟨c0, c1, c2, c3, c4, c5, c6, c7, c8, c9, c10, c11, c12⟩ := cells13 hk
 have HO := Lib.hid (h.below hbx)
 have HF := Lib.hid ((FromB.refl base w).below hbx (Nat.le_refl _))
 have HS := Lib.hid (hbx.size)
 have HKB := Lib.hid (show KeepB w (w.alloc (.cells #[.int .i64 a, .int .i64 b, .int .i64 d, .int .i64 m, vm, .int .i64 nx, vg, .string T, .bool to, .string H, .bool ho, vt, vb] 32)) from fun g cs t _ h => h.alloc _)
 have HK := Lib.hid hk
 have HL1 := Lib.hid (fun k hk => (h.1.low k hk).2)
 have HL2 := Lib.hid (fun k hk => (h.2.1.low k hk).2)
 have HL3 := Lib.hid (fun k hk => (h.2.2.1.low k hk).2)
 have HL4 := Lib.hid (fun k hk => (h.2.2.2.low k hk).2)
 obtain ⟨⟨p1, p2, p3⟩, ⟨p4, p5, p6⟩, ⟨p7, p8, p9⟩, ⟨p10, p11, p12⟩⟩ := ap
 clear h hk hbx
 go_enter Tryz.func30, Tryz.ntmps30
 go_wp2_with fail
 refine (markS_any vm ms 1 _ base HO.out.1 (by omega) (by omega)).mono ?_
 rintro e x1 ⟨rfl, ho, hg⟩
 have hk := HK.out.grown hg (fun e => Nat.lt_irrefl _ (HL1.out _ e))
 obtain ⟨c0, c1, c2, c3, c4, c5, c6, c7, c8, c9, c10, c11, c12⟩ := cells13 hk
 have HKB := Lib.hid (show KeepB w _ from fun g cs t ht h => (HKB.out g cs t ht h).os ht HO.out.1 hg)
 have HF := Lib.hid (HF.out.grown HO.out.1 hg HS.out)
 have HS := Lib.hid (Nat.le_trans HS.out hg.size)
 have HO := Lib.hid (show OL _ base vm _ vg _ vt _ vb _ from ⟨ho, (HO.out.2.1.kept hg p4), (HO.out.2.2.1.kept hg p7), (HO.out.2.2.2.kept hg p10)⟩)
 have HK := Lib.hid hk
 clear hk ho hg
 go_wp2_with fail
 refine (markS_any vg gs (1 + ms.length) _ base HO.out.2.1 (by omega) (by omega)).mono ?_
 rintro e x2 ⟨rfl, ho, hg⟩
 have hk := HK.out.grown hg (fun e => Nat.lt_irrefl _ (HL2.out _ e))
 obtain ⟨c0, c1, c2, c3, c4, c5, c6, c7, c8, c9, c10, c11, c12⟩ := cells13 hk
 have HKB := Lib.hid (show KeepB w _ from fun g cs t ht h => (HKB.out g cs t ht h).os ht HO.out.2.1 hg)
 have HF := Lib.hid (HF.out.grown HO.out.2.1 hg HS.out)
 have HS := Lib.hid (Nat.le_trans HS.out hg.size)
 have HO := Lib.hid (show OL _ base vm _ vg _ vt _ vb _ from ⟨(HO.out.1.kept hg p1), ho, (HO.out.2.2.1.kept hg p8), (HO.out.2.2.2.kept hg p11)⟩)
 have HK := Lib.hid hk
 clear hk ho hg
 go_wp2_with fail
 refine (markS_any vt ts (1 + ms.length + gs.length) _ base HO.out.2.2.1 (by omega) (by omega)).mono ?_
 rintro e x3 ⟨rfl, ho, hg⟩
 have hk := HK.out.grown hg (fun e => Nat.lt_irrefl _ (HL3.out _ e))
 obtain ⟨c0, c1, c2, c3, c4, c5, c6, c7, c8, c9, c10, c11, c12⟩ := cells13 hk
 have HKB := Lib.hid (show KeepB w _ from fun g cs t ht h => (HKB.out g cs t ht h).os ht HO.out.2.2.1 hg)
 have HF := Lib.hid (HF.out.grown HO.out.2.2.1 hg HS.out)
 have HS := Lib.hid (Nat.le_trans HS.out hg.size)
 have HO := Lib.hid (show OL _ base vm _ vg _ vt _ vb _ from ⟨(HO.out.1.kept hg p2), (HO.out.2.1.kept hg p5), ho, (HO.out.2.2.2.kept hg p12)⟩)
 have HK := Lib.hid hk
 clear hk ho hg
 go_wp2_with fail
 refine (markS_any vb bs (1 + ms.length + gs.length + ts.length) _ base HO.out.2.2.2 (by omega) (by omega)).mono ?_
 rintro e x4 ⟨rfl, ho, hg⟩
 have hk := HK.out.grown hg (fun e => Nat.lt_irrefl _ (HL4.out _ e))
 obtain ⟨c0, c1, c2, c3, c4, c5, c6, c7, c8, c9, c10, c11, c12⟩ := cells13 hk
 have HKB := Lib.hid (show KeepB w _ from fun g cs t ht h => (HKB.out g cs t ht h).os ht HO.out.2.2.2 hg)
 have HF := Lib.hid (HF.out.grown HO.out.2.2.2 hg HS.out)
 have HS := Lib.hid (Nat.le_trans HS.out hg.size)
 have HO := Lib.hid (show OL _ base vm _ vg _ vt _ vb _ from ⟨(HO.out.1.kept hg p3), (HO.out.2.1.kept hg p6), (HO.out.2.2.1.kept hg p9), ho⟩)
 have HK := Lib.hid hk
 clear hk ho hg
 go_wp2
 go_ret
 exact ⟨rfl, HO.out, HF.out, HS.out, HKB.out⟩
set_option maxRecDepth 100000 in
set_option maxHeartbeats 4000000 in
theorem heldLine_any (a b d m : Int) (vm : Value) (nx : Int) (vg : Value) (T : ByteArray) (to : Bool) (H : ByteArray) (ho : Bool) (vt vb : Value) (n1 n2 n3 n4 : Nat) (w : World) (B : Nat) (h : RL w B vm (marksS 1 n1) vg (marksS (1 + n1) n2) vt (marksS (1 + n1 + n2) n3) vb (marksS (1 + n1 + n2 + n3) n4)) (hB : B ≤ w.heap.size) (hl : n1 + n2 + n3 + n4 ≤ 10000000) :
  Calls Tryz.prog 31 #[lnV a b d m vm nx vg T to H ho vt vb, .int .i64 1] w fun e w' => e = .returned (.int .i64 ((1 + n1 + n2 + n3 + n4 : Nat) : Int)) ∧ Below w.heap.size w w' := by
 have hbx : Below w.heap.size w (w.alloc (.cells #[.int .i64 a, .int .i64 b, .int .i64 d, .int .i64 m, vm, .int .i64 nx, vg, .string T, .bool to, .string H, .bool ho, vt, vb] 32)) := (Below.refl _ w).alloc (Nat.le_refl _) _
 have hk := BK.new w #[.int .i64 a, .int .i64 b, .int .i64 d, .int .i64 m, vm, .int .i64 nx, vg, .string T, .bool to, .string H, .bool ho, vt, vb] 32
 obtain ⟨c0, c1, c2, c3, c4, c5, c6, c7, c8, c9, c10, c11, c12⟩ := cells13 hk
 have HR := Lib.hid (h.below (hbx.mono hB))
 have HB := Lib.hid hbx
 have HK := Lib.hid hk
 clear h hk hbx
 go_enter Tryz.func31, Tryz.ntmps31
 go_wp2_with fail
 refine (heldS_any vm 1 n1 _ B HR.out.1 (Nat.le_trans hB HB.out.size) (by omega) (by omega)).mono ?_
 rintro e x1 ⟨rfl, hbx⟩
 have hk := HK.out.from hbx
 obtain ⟨c0, c1, c2, c3, c4, c5, c6, c7, c8, c9, c10, c11, c12⟩ := cells13 hk
 have HR := Lib.hid (HR.out.below (hbx.mono (Nat.le_trans hB HB.out.size)))
 have HB := Lib.hid (HB.out.trans (hbx.mono HB.out.size))
 have HK := Lib.hid hk
 clear hk hbx
 go_wp2_with fail
 refine (heldS_any vg (1 + n1) n2 _ B HR.out.2.1 (Nat.le_trans hB HB.out.size) (by omega) (by omega)).mono ?_
 rintro e x2 ⟨rfl, hbx⟩
 have hk := HK.out.from hbx
 obtain ⟨c0, c1, c2, c3, c4, c5, c6, c7, c8, c9, c10, c11, c12⟩ := cells13 hk
 have HR := Lib.hid (HR.out.below (hbx.mono (Nat.le_trans hB HB.out.size)))
 have HB := Lib.hid (HB.out.trans (hbx.mono HB.out.size))
 have HK := Lib.hid hk
 clear hk hbx
 go_wp2_with fail
 refine (heldS_any vt (1 + n1 + n2) n3 _ B HR.out.2.2.1 (Nat.le_trans hB HB.out.size) (by omega) (by omega)).mono ?_
 rintro e x3 ⟨rfl, hbx⟩
 have hk := HK.out.from hbx
 obtain ⟨c0, c1, c2, c3, c4, c5, c6, c7, c8, c9, c10, c11, c12⟩ := cells13 hk
 have HR := Lib.hid (HR.out.below (hbx.mono (Nat.le_trans hB HB.out.size)))
 have HB := Lib.hid (HB.out.trans (hbx.mono HB.out.size))
 have HK := Lib.hid hk
 clear hk hbx
 go_wp2_with fail
 refine (heldS_any vb (1 + n1 + n2 + n3) n4 _ B HR.out.2.2.2 (Nat.le_trans hB HB.out.size) (by omega) (by omega)).mono ?_
 rintro e x4 ⟨rfl, hbx⟩
 have hk := HK.out.from hbx
 obtain ⟨c0, c1, c2, c3, c4, c5, c6, c7, c8, c9, c10, c11, c12⟩ := cells13 hk
 have HR := Lib.hid (HR.out.below (hbx.mono (Nat.le_trans hB HB.out.size)))
 have HB := Lib.hid (HB.out.trans (hbx.mono HB.out.size))
 have HK := Lib.hid hk
 clear hk hbx
 go_wp2
 go_ret
 exact ⟨rfl, HB.out⟩
end Go.Proofs.YtmggoiabcboaiaaGreat
