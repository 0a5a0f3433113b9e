/- Parts of a proof, 14: LnI. -/
import Derived.Test.YtmggoiabcboaiaaGreatZc1
import Derived.Test.YtmggoiabcboaiaaGreatZc2
import Derived.Test.YtmggoiabcboaiaaGreatZc3
import Derived.Test.YtmggoiabcboaiaaGreatZc4
import Derived.Test.YtmggoiabcboaiaaGreatZc5
import Derived.Test.YtmggoiabcboaiaaGreatZc6
import Derived.Test.YtmggoiabcboaiaaGreatZc7
import Derived.Test.YtmggoiabcboaiaaGreatZc8
import Derived.Test.YtmggoiabcboaiaaGreatZc9
import Derived.Test.YtmggoiabcboaiaaGreatZc10
import Derived.Test.YtmggoiabcboaiaaGreatZc11
import Derived.Test.YtmggoiabcboaiaaGreatZc12
import Derived.Test.YtmggoiabcboaiaaGreatZc13
namespace Go.Proofs.YtmggoiabcboaiaaGreat
open Go.ChangeShapes Go.WideShapes Go.ChangeAt Go.RowKit
def ToLnA (w : World) (a b d m : Int) (ms : List ByteArray) (nx : Int) (gs : List ByteArray) (T : ByteArray) (to : Bool) (H : ByteArray) (ho : Bool) (ts bs : List ByteArray) (e : Ending) (w' : World) : Prop :=
 ∃ vm vg vt vb, e = .returned (lnV a b d m vm nx vg T to H ho vt vb) ∧ OL w' w.heap.size vm ms vg gs vt ts vb bs ∧ Below w.heap.size w w' ∧ Ap4 vm vg vt vb
set_option maxRecDepth 100000 in
set_option maxHeartbeats 8000000 in
theorem toLineA_any (a b d m : Int) (vm : Value) (ms : List ByteArray) (nx : Int) (vg : Value) (gs : List ByteArray) (T : ByteArray) (to : Bool) (H : ByteArray) (ho : Bool) (vt : Value) (ts : List ByteArray) (vb : Value) (bs : List ByteArray) (w : World) (B : Nat) (h : RL w B vm ms vg gs vt ts vb bs) (hB : B ≤ w.heap.size) (hs : smallLn ms gs T H ts bs) :
  Calls Tryz.prog 33 #[lnV a b d m vm nx vg T to H ho vt vb] w (ToLnA w a b d m ms nx gs T to H ho ts bs) := by
 have hzl := zero_line
 obtain ⟨h1, h2, h3, h4, h5, h6⟩ := hs
 have hbl : Below w.heap.size w (((w.alloc (.cells #[.int .i64 a, .int .i64 b, .int .i64 d, .int .i64 m, vm, .int .i64 nx, vg, .string T, .bool to, .string H, .bool ho, vt, vb] 55)).alloc (.cells #[.int .i64 0, .int .i64 0, .int .i64 0, .int .i64 0, .slice none 0 0, .int .i64 0, .slice none 0 0, .string ⟨#[]⟩, .bool false, .string ⟨#[]⟩, .bool false, .slice none 0 0, .slice none 0 0] 32)).alloc (.cells #[.int .i64 0, .int .i64 0, .int .i64 0, .int .i64 0, .slice none 0 0, .int .i64 0, .slice none 0 0, .string ⟨#[]⟩, .bool false, .string ⟨#[]⟩, .bool false, .slice none 0 0, .slice none 0 0] 32)) := ((((Below.refl _ w).alloc (Nat.le_refl _) _).alloc (by simp) _).alloc (by simp; omega) _)
 have hk := ((BK.new w #[.int .i64 a, .int .i64 b, .int .i64 d, .int .i64 m, vm, .int .i64 nx, vg, .string T, .bool to, .string H, .bool ho, vt, vb] 55).alloc (.cells #[.int .i64 0, .int .i64 0, .int .i64 0, .int .i64 0, .slice none 0 0, .int .i64 0, .slice none 0 0, .string ⟨#[]⟩, .bool false, .string ⟨#[]⟩, .bool false, .slice none 0 0, .slice none 0 0] 32)).alloc (.cells #[.int .i64 0, .int .i64 0, .int .i64 0, .int .i64 0, .slice none 0 0, .int .i64 0, .slice none 0 0, .string ⟨#[]⟩, .bool false, .string ⟨#[]⟩, .bool false, .slice none 0 0, .slice none 0 0] 32)
 have hr := (BK.new (w.alloc (.cells #[.int .i64 a, .int .i64 b, .int .i64 d, .int .i64 m, vm, .int .i64 nx, vg, .string T, .bool to, .string H, .bool ho, vt, vb] 55)) #[.int .i64 0, .int .i64 0, .int .i64 0, .int .i64 0, .slice none 0 0, .int .i64 0, .slice none 0 0, .string ⟨#[]⟩, .bool false, .string ⟨#[]⟩, .bool false, .slice none 0 0, .slice none 0 0] 32).alloc (.cells #[.int .i64 0, .int .i64 0, .int .i64 0, .int .i64 0, .slice none 0 0, .int .i64 0, .slice none 0 0, .string ⟨#[]⟩, .bool false, .string ⟨#[]⟩, .bool false, .slice none 0 0, .slice none 0 0] 32)
 have hj := BK.new ((w.alloc (.cells #[.int .i64 a, .int .i64 b, .int .i64 d, .int .i64 m, vm, .int .i64 nx, vg, .string T, .bool to, .string H, .bool ho, vt, vb] 55)).alloc (.cells #[.int .i64 0, .int .i64 0, .int .i64 0, .int .i64 0, .slice none 0 0, .int .i64 0, .slice none 0 0, .string ⟨#[]⟩, .bool false, .string ⟨#[]⟩, .bool false, .slice none 0 0, .slice none 0 0] 32)) #[.int .i64 0, .int .i64 0, .int .i64 0, .int .i64 0, .slice none 0 0, .int .i64 0, .slice none 0 0, .string ⟨#[]⟩, .bool false, .string ⟨#[]⟩, .bool false, .slice none 0 0, .slice none 0 0] 32
 rw [World.size_alloc] at hr hj
 rw [World.size_alloc] at hj
 have hsz : w.heap.size + 3 ≤ (((w.alloc (.cells #[.int .i64 a, .int .i64 b, .int .i64 d, .int .i64 m, vm, .int .i64 nx, vg, .string T, .bool to, .string H, .bool ho, vt, vb] 55)).alloc (.cells #[.int .i64 0, .int .i64 0, .int .i64 0, .int .i64 0, .slice none 0 0, .int .i64 0, .slice none 0 0, .string ⟨#[]⟩, .bool false, .string ⟨#[]⟩, .bool false, .slice none 0 0, .slice none 0 0] 32)).alloc (.cells #[.int .i64 0, .int .i64 0, .int .i64 0, .int .i64 0, .slice none 0 0, .int .i64 0, .slice none 0 0, .string ⟨#[]⟩, .bool false, .string ⟨#[]⟩, .bool false, .slice none 0 0, .slice none 0 0] 32)).heap.size := by simp
 obtain ⟨c0, c1, c2, c3, c4, c5, c6, c7, c8, c9, c10, c11, c12⟩ := cells13 hk
 obtain ⟨e0, e1, e2, e3, e4, e5, e6, e7, e8, e9, e10, e11, e12⟩ := cells13 hj
 obtain ⟨f0, f1, f2, f3, f4, f5, f6, f7, f8, f9, f10, f11, f12⟩ := free13 hj
 have HR := Lib.hid (h.below (hbl.mono hB))
 have HB := Lib.hid hbl
 have HK := Lib.hid hk
 have HQ := Lib.hid hr
 have HJ := Lib.hid hj
 have HSZ := Lib.hid hsz
 clear h hk hj hr hbl hsz
 go_enter Tryz.func33, Tryz.ntmps33
 go_wp2_with fail
 refine (toConf_any a b d m _).mono ?_
 rintro e x1 ⟨rfl, hbx⟩
 have hk := HK.out.from hbx
 have hr := HQ.out.from hbx
 have hj0 := HJ.out.from hbx
 obtain ⟨c0, c1, c2, c3, c4, c5, c6, c7, c8, c9, c10, c11, c12⟩ := cells13 hk
 obtain ⟨e0, e1, e2, e3, e4, e5, e6, e7, e8, e9, e10, e11, e12⟩ := cells13 hj0
 obtain ⟨f0, f1, f2, f3, f4, f5, f6, f7, f8, f9, f10, f11, f12⟩ := free13 hj0
 have hj : BK ((((x1.setCell ⟨w.heap.size + 2, 0, none⟩ (.int .i64 a)).setCell ⟨w.heap.size + 2, 1, none⟩ (.int .i64 b)).setCell ⟨w.heap.size + 2, 2, none⟩ (.int .i64 d)).setCell ⟨w.heap.size + 2, 3, none⟩ (.int .i64 m)) (w.heap.size + 2) #[.int .i64 a, .int .i64 b, .int .i64 d, .int .i64 m, .slice none 0 0, .int .i64 0, .slice none 0 0, .string ⟨#[]⟩, .bool false, .string ⟨#[]⟩, .bool false, .slice none 0 0, .slice none 0 0] 32 := ((((hj0.set 0 (.int .i64 a)).set 1 (.int .i64 b)).set 2 (.int .i64 d)).set 3 (.int .i64 m))
 have HJ := Lib.hid hj
 have HK := Lib.hid (show BK ((((x1.setCell ⟨w.heap.size + 2, 0, none⟩ (.int .i64 a)).setCell ⟨w.heap.size + 2, 1, none⟩ (.int .i64 b)).setCell ⟨w.heap.size + 2, 2, none⟩ (.int .i64 d)).setCell ⟨w.heap.size + 2, 3, none⟩ (.int .i64 m)) w.heap.size #[.int .i64 a, .int .i64 b, .int .i64 d, .int .i64 m, vm, .int .i64 nx, vg, .string T, .bool to, .string H, .bool ho, vt, vb] 55 from ((((hk.far (j := w.heap.size + 2) (o := 0) (by omega) (.int .i64 a)).far (j := w.heap.size + 2) (o := 1) (by omega) (.int .i64 b)).far (j := w.heap.size + 2) (o := 2) (by omega) (.int .i64 d)).far (j := w.heap.size + 2) (o := 3) (by omega) (.int .i64 m)))
 have HQ := Lib.hid (show BK ((((x1.setCell ⟨w.heap.size + 2, 0, none⟩ (.int .i64 a)).setCell ⟨w.heap.size + 2, 1, none⟩ (.int .i64 b)).setCell ⟨w.heap.size + 2, 2, none⟩ (.int .i64 d)).setCell ⟨w.heap.size + 2, 3, none⟩ (.int .i64 m)) (w.heap.size + 1) #[.int .i64 0, .int .i64 0, .int .i64 0, .int .i64 0, .slice none 0 0, .int .i64 0, .slice none 0 0, .string ⟨#[]⟩, .bool false, .string ⟨#[]⟩, .bool false, .slice none 0 0, .slice none 0 0] 32 from ((((hr.far (j := w.heap.size + 2) (o := 0) (by omega) (.int .i64 a)).far (j := w.heap.size + 2) (o := 1) (by omega) (.int .i64 b)).far (j := w.heap.size + 2) (o := 2) (by omega) (.int .i64 d)).far (j := w.heap.size + 2) (o := 3) (by omega) (.int .i64 m)))
 have HSZ := Lib.hid (show w.heap.size + 3 ≤ ((((x1.setCell ⟨w.heap.size + 2, 0, none⟩ (.int .i64 a)).setCell ⟨w.heap.size + 2, 1, none⟩ (.int .i64 b)).setCell ⟨w.heap.size + 2, 2, none⟩ (.int .i64 d)).setCell ⟨w.heap.size + 2, 3, none⟩ (.int .i64 m)).heap.size by have h8 := HSZ.out; have h9 := hbx.size; (try simp at h8); (try simp at h9); (try simp); omega)
 have HR := Lib.hid (show RL ((((x1.setCell ⟨w.heap.size + 2, 0, none⟩ (.int .i64 a)).setCell ⟨w.heap.size + 2, 1, none⟩ (.int .i64 b)).setCell ⟨w.heap.size + 2, 2, none⟩ (.int .i64 d)).setCell ⟨w.heap.size + 2, 3, none⟩ (.int .i64 m)) B vm ms vg gs vt ts vb bs from (HR.out.below (hbx.mono (Nat.le_trans hB HB.out.size))).below (((((Below.refl B x1).setCell (p := ⟨w.heap.size + 2, 0, none⟩) (by simp; omega) (.int .i64 a)).setCell (p := ⟨w.heap.size + 2, 1, none⟩) (by simp; omega) (.int .i64 b)).setCell (p := ⟨w.heap.size + 2, 2, none⟩) (by simp; omega) (.int .i64 d)).setCell (p := ⟨w.heap.size + 2, 3, none⟩) (by simp; omega) (.int .i64 m)))
 have HB := Lib.hid (show Below w.heap.size w ((((x1.setCell ⟨w.heap.size + 2, 0, none⟩ (.int .i64 a)).setCell ⟨w.heap.size + 2, 1, none⟩ (.int .i64 b)).setCell ⟨w.heap.size + 2, 2, none⟩ (.int .i64 d)).setCell ⟨w.heap.size + 2, 3, none⟩ (.int .i64 m)) from (((((HB.out.trans (hbx.mono HB.out.size)).setCell (p := ⟨w.heap.size + 2, 0, none⟩) (by simp) (.int .i64 a)).setCell (p := ⟨w.heap.size + 2, 1, none⟩) (by simp) (.int .i64 b)).setCell (p := ⟨w.heap.size + 2, 2, none⟩) (by simp) (.int .i64 d)).setCell (p := ⟨w.heap.size + 2, 3, none⟩) (by simp) (.int .i64 m)))
 clear hk hr hj0 hj hbx
 go_wp2_with fail
 have HSZ0 := HSZ
 refine (copy_any vm ms _ B HR.out.1 (Nat.le_trans hB HB.out.size) h1.1).mono ?_
 rintro e x2 ⟨⟨um, rfl, hown⟩, hbx⟩
 obtain ⟨Am, capm, hum⟩ := (RS.of_own hown).shape
 subst hum
 have hk := HK.out.from hbx
 have hr := HQ.out.from hbx
 have hj0 := HJ.out.from hbx
 obtain ⟨c0, c1, c2, c3, c4, c5, c6, c7, c8, c9, c10, c11, c12⟩ := cells13 hk
 obtain ⟨e0, e1, e2, e3, e4, e5, e6, e7, e8, e9, e10, e11, e12⟩ := cells13 hj0
 obtain ⟨f0, f1, f2, f3, f4, f5, f6, f7, f8, f9, f10, f11, f12⟩ := free13 hj0
 have hj : BK ((x2.setCell ⟨w.heap.size + 2, 4, none⟩ (.slice Am ms.length capm)).setCell ⟨w.heap.size + 2, 5, none⟩ (.int .i64 nx)) (w.heap.size + 2) #[.int .i64 a, .int .i64 b, .int .i64 d, .int .i64 m, .slice Am ms.length capm, .int .i64 nx, .slice none 0 0, .string ⟨#[]⟩, .bool false, .string ⟨#[]⟩, .bool false, .slice none 0 0, .slice none 0 0] 32 := ((hj0.set 4 (.slice Am ms.length capm)).set 5 (.int .i64 nx))
 have HJ := Lib.hid hj
 have HK := Lib.hid (show BK ((x2.setCell ⟨w.heap.size + 2, 4, none⟩ (.slice Am ms.length capm)).setCell ⟨w.heap.size + 2, 5, none⟩ (.int .i64 nx)) w.heap.size #[.int .i64 a, .int .i64 b, .int .i64 d, .int .i64 m, vm, .int .i64 nx, vg, .string T, .bool to, .string H, .bool ho, vt, vb] 55 from ((hk.far (j := w.heap.size + 2) (o := 4) (by omega) (.slice Am ms.length capm)).far (j := w.heap.size + 2) (o := 5) (by omega) (.int .i64 nx)))
 have HQ := Lib.hid (show BK ((x2.setCell ⟨w.heap.size + 2, 4, none⟩ (.slice Am ms.length capm)).setCell ⟨w.heap.size + 2, 5, none⟩ (.int .i64 nx)) (w.heap.size + 1) #[.int .i64 0, .int .i64 0, .int .i64 0, .int .i64 0, .slice none 0 0, .int .i64 0, .slice none 0 0, .string ⟨#[]⟩, .bool false, .string ⟨#[]⟩, .bool false, .slice none 0 0, .slice none 0 0] 32 from ((hr.far (j := w.heap.size + 2) (o := 4) (by omega) (.slice Am ms.length capm)).far (j := w.heap.size + 2) (o := 5) (by omega) (.int .i64 nx)))
 have HSZ := Lib.hid (show w.heap.size + 3 ≤ ((x2.setCell ⟨w.heap.size + 2, 4, none⟩ (.slice Am ms.length capm)).setCell ⟨w.heap.size + 2, 5, none⟩ (.int .i64 nx)).heap.size by have h8 := HSZ.out; have h9 := hbx.size; (try simp at h8); (try simp at h9); (try simp); omega)
 have HOum := Lib.hid (show OS ((x2.setCell ⟨w.heap.size + 2, 4, none⟩ (.slice Am ms.length capm)).setCell ⟨w.heap.size + 2, 5, none⟩ (.int .i64 nx)) (w.heap.size + 3) (.slice Am ms.length capm) ms from (OS.put (OS.put (OS.mono (base' := w.heap.size + 3) hown (by have h9 := HSZ0.out; simp at h9 ⊢; omega)) (p := ⟨w.heap.size + 2, 4, none⟩) (by simp) (.slice Am ms.length capm)) (p := ⟨w.heap.size + 2, 5, none⟩) (by simp) (.int .i64 nx)))
 have HR := Lib.hid (show RL ((x2.setCell ⟨w.heap.size + 2, 4, none⟩ (.slice Am ms.length capm)).setCell ⟨w.heap.size + 2, 5, none⟩ (.int .i64 nx)) B vm ms vg gs vt ts vb bs from (HR.out.below (hbx.mono (Nat.le_trans hB HB.out.size))).below (((Below.refl B x2).setCell (p := ⟨w.heap.size + 2, 4, none⟩) (by simp; omega) (.slice Am ms.length capm)).setCell (p := ⟨w.heap.size + 2, 5, none⟩) (by simp; omega) (.int .i64 nx)))
 have HB := Lib.hid (show Below w.heap.size w ((x2.setCell ⟨w.heap.size + 2, 4, none⟩ (.slice Am ms.length capm)).setCell ⟨w.heap.size + 2, 5, none⟩ (.int .i64 nx)) from (((HB.out.trans (hbx.mono HB.out.size)).setCell (p := ⟨w.heap.size + 2, 4, none⟩) (by simp) (.slice Am ms.length capm)).setCell (p := ⟨w.heap.size + 2, 5, none⟩) (by simp) (.int .i64 nx)))
 clear hk hr hj0 hj hbx hown
 go_wp2_with fail
 have HSZ0 := HSZ
 refine (copy_any vg gs _ B HR.out.2.1 (Nat.le_trans hB HB.out.size) h2.1).mono ?_
 rintro e x3 ⟨⟨ug, rfl, hown⟩, hbx⟩
 have HAmg := Lib.hid (apart_of (fun k hk => (HOum.out.low k hk).2) hown)
 obtain ⟨Ag, capg, hug⟩ := (RS.of_own hown).shape
 subst hug
 have hk := HK.out.from hbx
 have hr := HQ.out.from hbx
 have hj0 := HJ.out.from hbx
 obtain ⟨c0, c1, c2, c3, c4, c5, c6, c7, c8, c9, c10, c11, c12⟩ := cells13 hk
 obtain ⟨e0, e1, e2, e3, e4, e5, e6, e7, e8, e9, e10, e11, e12⟩ := cells13 hj0
 obtain ⟨f0, f1, f2, f3, f4, f5, f6, f7, f8, f9, f10, f11, f12⟩ := free13 hj0
 have hj : BK (x3.setCell ⟨w.heap.size + 2, 6, none⟩ (.slice Ag gs.length capg)) (w.heap.size + 2) #[.int .i64 a, .int .i64 b, .int .i64 d, .int .i64 m, .slice Am ms.length capm, .int .i64 nx, .slice Ag gs.length capg, .string ⟨#[]⟩, .bool false, .string ⟨#[]⟩, .bool false, .slice none 0 0, .slice none 0 0] 32 := (hj0.set 6 (.slice Ag gs.length capg))
 have HJ := Lib.hid hj
 have HK := Lib.hid (show BK (x3.setCell ⟨w.heap.size + 2, 6, none⟩ (.slice Ag gs.length capg)) w.heap.size #[.int .i64 a, .int .i64 b, .int .i64 d, .int .i64 m, vm, .int .i64 nx, vg, .string T, .bool to, .string H, .bool ho, vt, vb] 55 from (hk.far (j := w.heap.size + 2) (o := 6) (by omega) (.slice Ag gs.length capg)))
 have HQ := Lib.hid (show BK (x3.setCell ⟨w.heap.size + 2, 6, none⟩ (.slice Ag gs.length capg)) (w.heap.size + 1) #[.int .i64 0, .int .i64 0, .int .i64 0, .int .i64 0, .slice none 0 0, .int .i64 0, .slice none 0 0, .string ⟨#[]⟩, .bool false, .string ⟨#[]⟩, .bool false, .slice none 0 0, .slice none 0 0] 32 from (hr.far (j := w.heap.size + 2) (o := 6) (by omega) (.slice Ag gs.length capg)))
 have HSZ := Lib.hid (show w.heap.size + 3 ≤ (x3.setCell ⟨w.heap.size + 2, 6, none⟩ (.slice Ag gs.length capg)).heap.size by have h8 := HSZ.out; have h9 := hbx.size; (try simp at h8); (try simp at h9); (try simp); omega)
 have HOum := Lib.hid (show OS (x3.setCell ⟨w.heap.size + 2, 6, none⟩ (.slice Ag gs.length capg)) (w.heap.size + 3) (.slice Am ms.length capm) ms from ((HOum.out.below hbx).put (p := ⟨w.heap.size + 2, 6, none⟩) (by simp) (.slice Ag gs.length capg)))
 have HOug := Lib.hid (show OS (x3.setCell ⟨w.heap.size + 2, 6, none⟩ (.slice Ag gs.length capg)) (w.heap.size + 3) (.slice Ag gs.length capg) gs from (OS.put (OS.mono (base' := w.heap.size + 3) hown (by have h9 := HSZ0.out; simp at h9 ⊢; omega)) (p := ⟨w.heap.size + 2, 6, none⟩) (by simp) (.slice Ag gs.length capg)))
 have HR := Lib.hid (show RL (x3.setCell ⟨w.heap.size + 2, 6, none⟩ (.slice Ag gs.length capg)) B vm ms vg gs vt ts vb bs from (HR.out.below (hbx.mono (Nat.le_trans hB HB.out.size))).below ((Below.refl B x3).setCell (p := ⟨w.heap.size + 2, 6, none⟩) (by simp; omega) (.slice Ag gs.length capg)))
 have HB := Lib.hid (show Below w.heap.size w (x3.setCell ⟨w.heap.size + 2, 6, none⟩ (.slice Ag gs.length capg)) from ((HB.out.trans (hbx.mono HB.out.size)).setCell (p := ⟨w.heap.size + 2, 6, none⟩) (by simp) (.slice Ag gs.length capg)))
 clear hk hr hj0 hj hbx hown
 go_wp2_with fail
 refine (toFind_any T to _).mono ?_
 rintro e x4 ⟨rfl, hbx⟩
 have hk := HK.out.from hbx
 have hr := HQ.out.from hbx
 have hj0 := HJ.out.from hbx
 obtain ⟨c0, c1, c2, c3, c4, c5, c6, c7, c8, c9, c10, c11, c12⟩ := cells13 hk
 obtain ⟨e0, e1, e2, e3, e4, e5, e6, e7, e8, e9, e10, e11, e12⟩ := cells13 hj0
 obtain ⟨f0, f1, f2, f3, f4, f5, f6, f7, f8, f9, f10, f11, f12⟩ := free13 hj0
 have hj : BK ((x4.setCell ⟨w.heap.size + 2, 7, none⟩ (.string T)).setCell ⟨w.heap.size + 2, 8, none⟩ (.bool to)) (w.heap.size + 2) #[.int .i64 a, .int .i64 b, .int .i64 d, .int .i64 m, .slice Am ms.length capm, .int .i64 nx, .slice Ag gs.length capg, .string T, .bool to, .string ⟨#[]⟩, .bool false, .slice none 0 0, .slice none 0 0] 32 := ((hj0.set 7 (.string T)).set 8 (.bool to))
 have HJ := Lib.hid hj
 have HK := Lib.hid (show BK ((x4.setCell ⟨w.heap.size + 2, 7, none⟩ (.string T)).setCell ⟨w.heap.size + 2, 8, none⟩ (.bool to)) w.heap.size #[.int .i64 a, .int .i64 b, .int .i64 d, .int .i64 m, vm, .int .i64 nx, vg, .string T, .bool to, .string H, .bool ho, vt, vb] 55 from ((hk.far (j := w.heap.size + 2) (o := 7) (by omega) (.string T)).far (j := w.heap.size + 2) (o := 8) (by omega) (.bool to)))
 have HQ := Lib.hid (show BK ((x4.setCell ⟨w.heap.size + 2, 7, none⟩ (.string T)).setCell ⟨w.heap.size + 2, 8, none⟩ (.bool to)) (w.heap.size + 1) #[.int .i64 0, .int .i64 0, .int .i64 0, .int .i64 0, .slice none 0 0, .int .i64 0, .slice none 0 0, .string ⟨#[]⟩, .bool false, .string ⟨#[]⟩, .bool false, .slice none 0 0, .slice none 0 0] 32 from ((hr.far (j := w.heap.size + 2) (o := 7) (by omega) (.string T)).far (j := w.heap.size + 2) (o := 8) (by omega) (.bool to)))
 have HSZ := Lib.hid (show w.heap.size + 3 ≤ ((x4.setCell ⟨w.heap.size + 2, 7, none⟩ (.string T)).setCell ⟨w.heap.size + 2, 8, none⟩ (.bool to)).heap.size by have h8 := HSZ.out; have h9 := hbx.size; (try simp at h8); (try simp at h9); (try simp); omega)
 have HOum := Lib.hid (show OS ((x4.setCell ⟨w.heap.size + 2, 7, none⟩ (.string T)).setCell ⟨w.heap.size + 2, 8, none⟩ (.bool to)) (w.heap.size + 3) (.slice Am ms.length capm) ms from (((HOum.out.below hbx).put (p := ⟨w.heap.size + 2, 7, none⟩) (by simp) (.string T)).put (p := ⟨w.heap.size + 2, 8, none⟩) (by simp) (.bool to)))
 have HOug := Lib.hid (show OS ((x4.setCell ⟨w.heap.size + 2, 7, none⟩ (.string T)).setCell ⟨w.heap.size + 2, 8, none⟩ (.bool to)) (w.heap.size + 3) (.slice Ag gs.length capg) gs from (((HOug.out.below hbx).put (p := ⟨w.heap.size + 2, 7, none⟩) (by simp) (.string T)).put (p := ⟨w.heap.size + 2, 8, none⟩) (by simp) (.bool to)))
 have HR := Lib.hid (show RL ((x4.setCell ⟨w.heap.size + 2, 7, none⟩ (.string T)).setCell ⟨w.heap.size + 2, 8, none⟩ (.bool to)) B vm ms vg gs vt ts vb bs from (HR.out.below (hbx.mono (Nat.le_trans hB HB.out.size))).below (((Below.refl B x4).setCell (p := ⟨w.heap.size + 2, 7, none⟩) (by simp; omega) (.string T)).setCell (p := ⟨w.heap.size + 2, 8, none⟩) (by simp; omega) (.bool to)))
 have HB := Lib.hid (show Below w.heap.size w ((x4.setCell ⟨w.heap.size + 2, 7, none⟩ (.string T)).setCell ⟨w.heap.size + 2, 8, none⟩ (.bool to)) from (((HB.out.trans (hbx.mono HB.out.size)).setCell (p := ⟨w.heap.size + 2, 7, none⟩) (by simp) (.string T)).setCell (p := ⟨w.heap.size + 2, 8, none⟩) (by simp) (.bool to)))
 clear hk hr hj0 hj hbx
 go_wp2_with fail
 refine (toFind_any H ho _).mono ?_
 rintro e x5 ⟨rfl, hbx⟩
 have hk := HK.out.from hbx
 have hr := HQ.out.from hbx
 have hj0 := HJ.out.from hbx
 obtain ⟨c0, c1, c2, c3, c4, c5, c6, c7, c8, c9, c10, c11, c12⟩ := cells13 hk
 obtain ⟨e0, e1, e2, e3, e4, e5, e6, e7, e8, e9, e10, e11, e12⟩ := cells13 hj0
 obtain ⟨f0, f1, f2, f3, f4, f5, f6, f7, f8, f9, f10, f11, f12⟩ := free13 hj0
 have hj : BK ((x5.setCell ⟨w.heap.size + 2, 9, none⟩ (.string H)).setCell ⟨w.heap.size + 2, 10, none⟩ (.bool ho)) (w.heap.size + 2) #[.int .i64 a, .int .i64 b, .int .i64 d, .int .i64 m, .slice Am ms.length capm, .int .i64 nx, .slice Ag gs.length capg, .string T, .bool to, .string H, .bool ho, .slice none 0 0, .slice none 0 0] 32 := ((hj0.set 9 (.string H)).set 10 (.bool ho))
 have HJ := Lib.hid hj
 have HK := Lib.hid (show BK ((x5.setCell ⟨w.heap.size + 2, 9, none⟩ (.string H)).setCell ⟨w.heap.size + 2, 10, none⟩ (.bool ho)) w.heap.size #[.int .i64 a, .int .i64 b, .int .i64 d, .int .i64 m, vm, .int .i64 nx, vg, .string T, .bool to, .string H, .bool ho, vt, vb] 55 from ((hk.far (j := w.heap.size + 2) (o := 9) (by omega) (.string H)).far (j := w.heap.size + 2) (o := 10) (by omega) (.bool ho)))
 have HQ := Lib.hid (show BK ((x5.setCell ⟨w.heap.size + 2, 9, none⟩ (.string H)).setCell ⟨w.heap.size + 2, 10, none⟩ (.bool ho)) (w.heap.size + 1) #[.int .i64 0, .int .i64 0, .int .i64 0, .int .i64 0, .slice none 0 0, .int .i64 0, .slice none 0 0, .string ⟨#[]⟩, .bool false, .string ⟨#[]⟩, .bool false, .slice none 0 0, .slice none 0 0] 32 from ((hr.far (j := w.heap.size + 2) (o := 9) (by omega) (.string H)).far (j := w.heap.size + 2) (o := 10) (by omega) (.bool ho)))
 have HSZ := Lib.hid (show w.heap.size + 3 ≤ ((x5.setCell ⟨w.heap.size + 2, 9, none⟩ (.string H)).setCell ⟨w.heap.size + 2, 10, none⟩ (.bool ho)).heap.size by have h8 := HSZ.out; have h9 := hbx.size; (try simp at h8); (try simp at h9); (try simp); omega)
 have HOum := Lib.hid (show OS ((x5.setCell ⟨w.heap.size + 2, 9, none⟩ (.string H)).setCell ⟨w.heap.size + 2, 10, none⟩ (.bool ho)) (w.heap.size + 3) (.slice Am ms.length capm) ms from (((HOum.out.below hbx).put (p := ⟨w.heap.size + 2, 9, none⟩) (by simp) (.string H)).put (p := ⟨w.heap.size + 2, 10, none⟩) (by simp) (.bool ho)))
 have HOug := Lib.hid (show OS ((x5.setCell ⟨w.heap.size + 2, 9, none⟩ (.string H)).setCell ⟨w.heap.size + 2, 10, none⟩ (.bool ho)) (w.heap.size + 3) (.slice Ag gs.length capg) gs from (((HOug.out.below hbx).put (p := ⟨w.heap.size + 2, 9, none⟩) (by simp) (.string H)).put (p := ⟨w.heap.size + 2, 10, none⟩) (by simp) (.bool ho)))
 have HR := Lib.hid (show RL ((x5.setCell ⟨w.heap.size + 2, 9, none⟩ (.string H)).setCell ⟨w.heap.size + 2, 10, none⟩ (.bool ho)) B vm ms vg gs vt ts vb bs from (HR.out.below (hbx.mono (Nat.le_trans hB HB.out.size))).below (((Below.refl B x5).setCell (p := ⟨w.heap.size + 2, 9, none⟩) (by simp; omega) (.string H)).setCell (p := ⟨w.heap.size + 2, 10, none⟩) (by simp; omega) (.bool ho)))
 have HB := Lib.hid (show Below w.heap.size w ((x5.setCell ⟨w.heap.size + 2, 9, none⟩ (.string H)).setCell ⟨w.heap.size + 2, 10, none⟩ (.bool ho)) from (((HB.out.trans (hbx.mono HB.out.size)).setCell (p := ⟨w.heap.size + 2, 9, none⟩) (by simp) (.string H)).setCell (p := ⟨w.heap.size + 2, 10, none⟩) (by simp) (.bool ho)))
 clear hk hr hj0 hj hbx
 go_wp2_with fail
 have HSZ0 := HSZ
 refine (copy_any vt ts _ B HR.out.2.2.1 (Nat.le_trans hB HB.out.size) h5.1).mono ?_
 rintro e x6 ⟨⟨ut, rfl, hown⟩, hbx⟩
 have HAmt := Lib.hid (apart_of (fun k hk => (HOum.out.low k hk).2) hown)
 have HAgt := Lib.hid (apart_of (fun k hk => (HOug.out.low k hk).2) hown)
 obtain ⟨At, capt, hut⟩ := (RS.of_own hown).shape
 subst hut
 have hk := HK.out.from hbx
 have hr := HQ.out.from hbx
 have hj0 := HJ.out.from hbx
 obtain ⟨c0, c1, c2, c3, c4, c5, c6, c7, c8, c9, c10, c11, c12⟩ := cells13 hk
 obtain ⟨e0, e1, e2, e3, e4, e5, e6, e7, e8, e9, e10, e11, e12⟩ := cells13 hj0
 obtain ⟨f0, f1, f2, f3, f4, f5, f6, f7, f8, f9, f10, f11, f12⟩ := free13 hj0
 have hj : BK (x6.setCell ⟨w.heap.size + 2, 11, none⟩ (.slice At ts.length capt)) (w.heap.size + 2) #[.int .i64 a, .int .i64 b, .int .i64 d, .int .i64 m, .slice Am ms.length capm, .int .i64 nx, .slice Ag gs.length capg, .string T, .bool to, .string H, .bool ho, .slice At ts.length capt, .slice none 0 0] 32 := (hj0.set 11 (.slice At ts.length capt))
 have HJ := Lib.hid hj
 have HK := Lib.hid (show BK (x6.setCell ⟨w.heap.size + 2, 11, none⟩ (.slice At ts.length capt)) w.heap.size #[.int .i64 a, .int .i64 b, .int .i64 d, .int .i64 m, vm, .int .i64 nx, vg, .string T, .bool to, .string H, .bool ho, vt, vb] 55 from (hk.far (j := w.heap.size + 2) (o := 11) (by omega) (.slice At ts.length capt)))
 have HQ := Lib.hid (show BK (x6.setCell ⟨w.heap.size + 2, 11, none⟩ (.slice At ts.length capt)) (w.heap.size + 1) #[.int .i64 0, .int .i64 0, .int .i64 0, .int .i64 0, .slice none 0 0, .int .i64 0, .slice none 0 0, .string ⟨#[]⟩, .bool false, .string ⟨#[]⟩, .bool false, .slice none 0 0, .slice none 0 0] 32 from (hr.far (j := w.heap.size + 2) (o := 11) (by omega) (.slice At ts.length capt)))
 have HSZ := Lib.hid (show w.heap.size + 3 ≤ (x6.setCell ⟨w.heap.size + 2, 11, none⟩ (.slice At ts.length capt)).heap.size by have h8 := HSZ.out; have h9 := hbx.size; (try simp at h8); (try simp at h9); (try simp); omega)
 have HOum := Lib.hid (show OS (x6.setCell ⟨w.heap.size + 2, 11, none⟩ (.slice At ts.length capt)) (w.heap.size + 3) (.slice Am ms.length capm) ms from ((HOum.out.below hbx).put (p := ⟨w.heap.size + 2, 11, none⟩) (by simp) (.slice At ts.length capt)))
 have HOug := Lib.hid (show OS (x6.setCell ⟨w.heap.size + 2, 11, none⟩ (.slice At ts.length capt)) (w.heap.size + 3) (.slice Ag gs.length capg) gs from ((HOug.out.below hbx).put (p := ⟨w.heap.size + 2, 11, none⟩) (by simp) (.slice At ts.length capt)))
 have HOut := Lib.hid (show OS (x6.setCell ⟨w.heap.size + 2, 11, none⟩ (.slice At ts.length capt)) (w.heap.size + 3) (.slice At ts.length capt) ts from (OS.put (OS.mono (base' := w.heap.size + 3) hown (by have h9 := HSZ0.out; simp at h9 ⊢; omega)) (p := ⟨w.heap.size + 2, 11, none⟩) (by simp) (.slice At ts.length capt)))
 have HR := Lib.hid (show RL (x6.setCell ⟨w.heap.size + 2, 11, none⟩ (.slice At ts.length capt)) B vm ms vg gs vt ts vb bs from (HR.out.below (hbx.mono (Nat.le_trans hB HB.out.size))).below ((Below.refl B x6).setCell (p := ⟨w.heap.size + 2, 11, none⟩) (by simp; omega) (.slice At ts.length capt)))
 have HB := Lib.hid (show Below w.heap.size w (x6.setCell ⟨w.heap.size + 2, 11, none⟩ (.slice At ts.length capt)) from ((HB.out.trans (hbx.mono HB.out.size)).setCell (p := ⟨w.heap.size + 2, 11, none⟩) (by simp) (.slice At ts.length capt)))
 clear hk hr hj0 hj hbx hown
 go_wp2_with fail
 have HSZ0 := HSZ
 refine (copy_any vb bs _ B HR.out.2.2.2 (Nat.le_trans hB HB.out.size) h6.1).mono ?_
 rintro e x7 ⟨⟨ub, rfl, hown⟩, hbx⟩
 have HAmb := Lib.hid (apart_of (fun k hk => (HOum.out.low k hk).2) hown)
 have HAgb := Lib.hid (apart_of (fun k hk => (HOug.out.low k hk).2) hown)
 have HAtb := Lib.hid (apart_of (fun k hk => (HOut.out.low k hk).2) hown)
 obtain ⟨Ab, capb, hub⟩ := (RS.of_own hown).shape
 subst hub
 have hk := HK.out.from hbx
 have hr := HQ.out.from hbx
 have hj0 := HJ.out.from hbx
 obtain ⟨c0, c1, c2, c3, c4, c5, c6, c7, c8, c9, c10, c11, c12⟩ := cells13 hk
 obtain ⟨e0, e1, e2, e3, e4, e5, e6, e7, e8, e9, e10, e11, e12⟩ := cells13 hj0
 obtain ⟨f0, f1, f2, f3, f4, f5, f6, f7, f8, f9, f10, f11, f12⟩ := free13 hj0
 obtain ⟨q0, q1, q2, q3, q4, q5, q6, q7, q8, q9, q10, q11, q12⟩ := cells13 hr
 obtain ⟨g0, g1, g2, g3, g4, g5, g6, g7, g8, g9, g10, g11, g12⟩ := free13 hr
 have HR7 := Lib.hid hr
 have hj : BK (x7.setCell ⟨w.heap.size + 2, 12, none⟩ (.slice Ab bs.length capb)) (w.heap.size + 2) #[.int .i64 a, .int .i64 b, .int .i64 d, .int .i64 m, .slice Am ms.length capm, .int .i64 nx, .slice Ag gs.length capg, .string T, .bool to, .string H, .bool ho, .slice At ts.length capt, .slice Ab bs.length capb] 32 := (hj0.set 12 (.slice Ab bs.length capb))
 have HJ := Lib.hid hj
 have HK := Lib.hid (show BK (x7.setCell ⟨w.heap.size + 2, 12, none⟩ (.slice Ab bs.length capb)) w.heap.size #[.int .i64 a, .int .i64 b, .int .i64 d, .int .i64 m, vm, .int .i64 nx, vg, .string T, .bool to, .string H, .bool ho, vt, vb] 55 from (hk.far (j := w.heap.size + 2) (o := 12) (by omega) (.slice Ab bs.length capb)))
 have HQ := Lib.hid (show BK (x7.setCell ⟨w.heap.size + 2, 12, none⟩ (.slice Ab bs.length capb)) (w.heap.size + 1) #[.int .i64 0, .int .i64 0, .int .i64 0, .int .i64 0, .slice none 0 0, .int .i64 0, .slice none 0 0, .string ⟨#[]⟩, .bool false, .string ⟨#[]⟩, .bool false, .slice none 0 0, .slice none 0 0] 32 from (hr.far (j := w.heap.size + 2) (o := 12) (by omega) (.slice Ab bs.length capb)))
 have HSZ := Lib.hid (show w.heap.size + 3 ≤ (x7.setCell ⟨w.heap.size + 2, 12, none⟩ (.slice Ab bs.length capb)).heap.size by have h8 := HSZ.out; have h9 := hbx.size; (try simp at h8); (try simp at h9); (try simp); omega)
 have HOum := Lib.hid (show OS (x7.setCell ⟨w.heap.size + 2, 12, none⟩ (.slice Ab bs.length capb)) (w.heap.size + 3) (.slice Am ms.length capm) ms from ((HOum.out.below hbx).put (p := ⟨w.heap.size + 2, 12, none⟩) (by simp) (.slice Ab bs.length capb)))
 have HOug := Lib.hid (show OS (x7.setCell ⟨w.heap.size + 2, 12, none⟩ (.slice Ab bs.length capb)) (w.heap.size + 3) (.slice Ag gs.length capg) gs from ((HOug.out.below hbx).put (p := ⟨w.heap.size + 2, 12, none⟩) (by simp) (.slice Ab bs.length capb)))
 have HOut := Lib.hid (show OS (x7.setCell ⟨w.heap.size + 2, 12, none⟩ (.slice Ab bs.length capb)) (w.heap.size + 3) (.slice At ts.length capt) ts from ((HOut.out.below hbx).put (p := ⟨w.heap.size + 2, 12, none⟩) (by simp) (.slice Ab bs.length capb)))
 have HOub := Lib.hid (show OS (x7.setCell ⟨w.heap.size + 2, 12, none⟩ (.slice Ab bs.length capb)) (w.heap.size + 3) (.slice Ab bs.length capb) bs from (OS.put (OS.mono (base' := w.heap.size + 3) hown (by have h9 := HSZ0.out; simp at h9 ⊢; omega)) (p := ⟨w.heap.size + 2, 12, none⟩) (by simp) (.slice Ab bs.length capb)))
 have HR := Lib.hid (show RL (x7.setCell ⟨w.heap.size + 2, 12, none⟩ (.slice Ab bs.length capb)) B vm ms vg gs vt ts vb bs from (HR.out.below (hbx.mono (Nat.le_trans hB HB.out.size))).below ((Below.refl B x7).setCell (p := ⟨w.heap.size + 2, 12, none⟩) (by simp; omega) (.slice Ab bs.length capb)))
 have HB := Lib.hid (show Below w.heap.size w (x7.setCell ⟨w.heap.size + 2, 12, none⟩ (.slice Ab bs.length capb)) from ((HB.out.trans (hbx.mono HB.out.size)).setCell (p := ⟨w.heap.size + 2, 12, none⟩) (by simp) (.slice Ab bs.length capb)))
 clear hk hr hj0 hj hbx hown
 go_wp2
 have hq := HR7.out.far (j := w.heap.size + 1 + 1) (o := 12) (by omega) (.slice Ab bs.length capb)
 have hq : BK _ (w.heap.size + 1) #[.int .i64 a, .int .i64 0, .int .i64 0, .int .i64 0, .slice none 0 0, .int .i64 0, .slice none 0 0, .string ⟨#[]⟩, .bool false, .string ⟨#[]⟩, .bool false, .slice none 0 0, .slice none 0 0] 32 := hq.set 0 (.int .i64 a)
 have hq : BK _ (w.heap.size + 1) #[.int .i64 a, .int .i64 b, .int .i64 0, .int .i64 0, .slice none 0 0, .int .i64 0, .slice none 0 0, .string ⟨#[]⟩, .bool false, .string ⟨#[]⟩, .bool false, .slice none 0 0, .slice none 0 0] 32 := hq.set 1 (.int .i64 b)
 have hq : BK _ (w.heap.size + 1) #[.int .i64 a, .int .i64 b, .int .i64 d, .int .i64 0, .slice none 0 0, .int .i64 0, .slice none 0 0, .string ⟨#[]⟩, .bool false, .string ⟨#[]⟩, .bool false, .slice none 0 0, .slice none 0 0] 32 := hq.set 2 (.int .i64 d)
 have hq : BK _ (w.heap.size + 1) #[.int .i64 a, .int .i64 b, .int .i64 d, .int .i64 m, .slice none 0 0, .int .i64 0, .slice none 0 0, .string ⟨#[]⟩, .bool false, .string ⟨#[]⟩, .bool false, .slice none 0 0, .slice none 0 0] 32 := hq.set 3 (.int .i64 m)
 have hq : BK _ (w.heap.size + 1) #[.int .i64 a, .int .i64 b, .int .i64 d, .int .i64 m, .slice Am ms.length capm, .int .i64 0, .slice none 0 0, .string ⟨#[]⟩, .bool false, .string ⟨#[]⟩, .bool false, .slice none 0 0, .slice none 0 0] 32 := hq.set 4 (.slice Am ms.length capm)
 have hq : BK _ (w.heap.size + 1) #[.int .i64 a, .int .i64 b, .int .i64 d, .int .i64 m, .slice Am ms.length capm, .int .i64 nx, .slice none 0 0, .string ⟨#[]⟩, .bool false, .string ⟨#[]⟩, .bool false, .slice none 0 0, .slice none 0 0] 32 := hq.set 5 (.int .i64 nx)
 have hq : BK _ (w.heap.size + 1) #[.int .i64 a, .int .i64 b, .int .i64 d, .int .i64 m, .slice Am ms.length capm, .int .i64 nx, .slice Ag gs.length capg, .string ⟨#[]⟩, .bool false, .string ⟨#[]⟩, .bool false, .slice none 0 0, .slice none 0 0] 32 := hq.set 6 (.slice Ag gs.length capg)
 have hq : BK _ (w.heap.size + 1) #[.int .i64 a, .int .i64 b, .int .i64 d, .int .i64 m, .slice Am ms.length capm, .int .i64 nx, .slice Ag gs.length capg, .string T, .bool false, .string ⟨#[]⟩, .bool false, .slice none 0 0, .slice none 0 0] 32 := hq.set 7 (.string T)
 have hq : BK _ (w.heap.size + 1) #[.int .i64 a, .int .i64 b, .int .i64 d, .int .i64 m, .slice Am ms.length capm, .int .i64 nx, .slice Ag gs.length capg, .string T, .bool to, .string ⟨#[]⟩, .bool false, .slice none 0 0, .slice none 0 0] 32 := hq.set 8 (.bool to)
 have hq : BK _ (w.heap.size + 1) #[.int .i64 a, .int .i64 b, .int .i64 d, .int .i64 m, .slice Am ms.length capm, .int .i64 nx, .slice Ag gs.length capg, .string T, .bool to, .string H, .bool false, .slice none 0 0, .slice none 0 0] 32 := hq.set 9 (.string H)
 have hq : BK _ (w.heap.size + 1) #[.int .i64 a, .int .i64 b, .int .i64 d, .int .i64 m, .slice Am ms.length capm, .int .i64 nx, .slice Ag gs.length capg, .string T, .bool to, .string H, .bool ho, .slice none 0 0, .slice none 0 0] 32 := hq.set 10 (.bool ho)
 have hq : BK _ (w.heap.size + 1) #[.int .i64 a, .int .i64 b, .int .i64 d, .int .i64 m, .slice Am ms.length capm, .int .i64 nx, .slice Ag gs.length capg, .string T, .bool to, .string H, .bool ho, .slice At ts.length capt, .slice none 0 0] 32 := hq.set 11 (.slice At ts.length capt)
 have hq : BK _ (w.heap.size + 1) #[.int .i64 a, .int .i64 b, .int .i64 d, .int .i64 m, .slice Am ms.length capm, .int .i64 nx, .slice Ag gs.length capg, .string T, .bool to, .string H, .bool ho, .slice At ts.length capt, .slice Ab bs.length capb] 32 := hq.set 12 (.slice Ab bs.length capb)
 refine line_ret Tryz.results33 hq rfl rfl ⟨_, _, _, _, rfl, ⟨?_, ?_, ?_, ?_⟩, ?_, ⟨⟨HAmg.out.1, HAmt.out.1, HAmb.out.1⟩, ⟨HAmg.out.2, HAgt.out.1, HAgb.out.1⟩, ⟨HAmt.out.2, HAgt.out.2, HAtb.out.1⟩, ⟨HAmb.out.2, HAgb.out.2, HAtb.out.2⟩⟩⟩
 ·exact ((((((((((((((HOum.out.put (p := ⟨w.heap.size + 1, 0, none⟩) (by simp) (.int .i64 a)).put (p := ⟨w.heap.size + 1, 1, none⟩) (by simp) (.int .i64 b)).put (p := ⟨w.heap.size + 1, 2, none⟩) (by simp) (.int .i64 d)).put (p := ⟨w.heap.size + 1, 3, none⟩) (by simp) (.int .i64 m)).put (p := ⟨w.heap.size + 1, 4, none⟩) (by simp) (.slice Am ms.length capm)).put (p := ⟨w.heap.size + 1, 5, none⟩) (by simp) (.int .i64 nx)).put (p := ⟨w.heap.size + 1, 6, none⟩) (by simp) (.slice Ag gs.length capg)).put (p := ⟨w.heap.size + 1, 7, none⟩) (by simp) (.string T)).put (p := ⟨w.heap.size + 1, 8, none⟩) (by simp) (.bool to)).put (p := ⟨w.heap.size + 1, 9, none⟩) (by simp) (.string H)).put (p := ⟨w.heap.size + 1, 10, none⟩) (by simp) (.bool ho)).put (p := ⟨w.heap.size + 1, 11, none⟩) (by simp) (.slice At ts.length capt)).put (p := ⟨w.heap.size + 1, 12, none⟩) (by simp) (.slice Ab bs.length capb)).mono (by omega))
 ·exact ((((((((((((((HOug.out.put (p := ⟨w.heap.size + 1, 0, none⟩) (by simp) (.int .i64 a)).put (p := ⟨w.heap.size + 1, 1, none⟩) (by simp) (.int .i64 b)).put (p := ⟨w.heap.size + 1, 2, none⟩) (by simp) (.int .i64 d)).put (p := ⟨w.heap.size + 1, 3, none⟩) (by simp) (.int .i64 m)).put (p := ⟨w.heap.size + 1, 4, none⟩) (by simp) (.slice Am ms.length capm)).put (p := ⟨w.heap.size + 1, 5, none⟩) (by simp) (.int .i64 nx)).put (p := ⟨w.heap.size + 1, 6, none⟩) (by simp) (.slice Ag gs.length capg)).put (p := ⟨w.heap.size + 1, 7, none⟩) (by simp) (.string T)).put (p := ⟨w.heap.size + 1, 8, none⟩) (by simp) (.bool to)).put (p := ⟨w.heap.size + 1, 9, none⟩) (by simp) (.string H)).put (p := ⟨w.heap.size + 1, 10, none⟩) (by simp) (.bool ho)).put (p := ⟨w.heap.size + 1, 11, none⟩) (by simp) (.slice At ts.length capt)).put (p := ⟨w.heap.size + 1, 12, none⟩) (by simp) (.slice Ab bs.length capb)).mono (by omega))
 ·exact ((((((((((((((HOut.out.put (p := ⟨w.heap.size + 1, 0, none⟩) (by simp) (.int .i64 a)).put (p := ⟨w.heap.size + 1, 1, none⟩) (by simp) (.int .i64 b)).put (p := ⟨w.heap.size + 1, 2, none⟩) (by simp) (.int .i64 d)).put (p := ⟨w.heap.size + 1, 3, none⟩) (by simp) (.int .i64 m)).put (p := ⟨w.heap.size + 1, 4, none⟩) (by simp) (.slice Am ms.length capm)).put (p := ⟨w.heap.size + 1, 5, none⟩) (by simp) (.int .i64 nx)).put (p := ⟨w.heap.size + 1, 6, none⟩) (by simp) (.slice Ag gs.length capg)).put (p := ⟨w.heap.size + 1, 7, none⟩) (by simp) (.string T)).put (p := ⟨w.heap.size + 1, 8, none⟩) (by simp) (.bool to)).put (p := ⟨w.heap.size + 1, 9, none⟩) (by simp) (.string H)).put (p := ⟨w.heap.size + 1, 10, none⟩) (by simp) (.bool ho)).put (p := ⟨w.heap.size + 1, 11, none⟩) (by simp) (.slice At ts.length capt)).put (p := ⟨w.heap.size + 1, 12, none⟩) (by simp) (.slice Ab bs.length capb)).mono (by omega))
 ·exact ((((((((((((((HOub.out.put (p := ⟨w.heap.size + 1, 0, none⟩) (by simp) (.int .i64 a)).put (p := ⟨w.heap.size + 1, 1, none⟩) (by simp) (.int .i64 b)).put (p := ⟨w.heap.size + 1, 2, none⟩) (by simp) (.int .i64 d)).put (p := ⟨w.heap.size + 1, 3, none⟩) (by simp) (.int .i64 m)).put (p := ⟨w.heap.size + 1, 4, none⟩) (by simp) (.slice Am ms.length capm)).put (p := ⟨w.heap.size + 1, 5, none⟩) (by simp) (.int .i64 nx)).put (p := ⟨w.heap.size + 1, 6, none⟩) (by simp) (.slice Ag gs.length capg)).put (p := ⟨w.heap.size + 1, 7, none⟩) (by simp) (.string T)).put (p := ⟨w.heap.size + 1, 8, none⟩) (by simp) (.bool to)).put (p := ⟨w.heap.size + 1, 9, none⟩) (by simp) (.string H)).put (p := ⟨w.heap.size + 1, 10, none⟩) (by simp) (.bool ho)).put (p := ⟨w.heap.size + 1, 11, none⟩) (by simp) (.slice At ts.length capt)).put (p := ⟨w.heap.size + 1, 12, none⟩) (by simp) (.slice Ab bs.length capb)).mono (by omega))
 ·exact (((((((((((((HB.out.setCell (p := ⟨w.heap.size + 1, 0, none⟩) (by simp) (.int .i64 a)).setCell (p := ⟨w.heap.size + 1, 1, none⟩) (by simp) (.int .i64 b)).setCell (p := ⟨w.heap.size + 1, 2, none⟩) (by simp) (.int .i64 d)).setCell (p := ⟨w.heap.size + 1, 3, none⟩) (by simp) (.int .i64 m)).setCell (p := ⟨w.heap.size + 1, 4, none⟩) (by simp) (.slice Am ms.length capm)).setCell (p := ⟨w.heap.size + 1, 5, none⟩) (by simp) (.int .i64 nx)).setCell (p := ⟨w.heap.size + 1, 6, none⟩) (by simp) (.slice Ag gs.length capg)).setCell (p := ⟨w.heap.size + 1, 7, none⟩) (by simp) (.string T)).setCell (p := ⟨w.heap.size + 1, 8, none⟩) (by simp) (.bool to)).setCell (p := ⟨w.heap.size + 1, 9, none⟩) (by simp) (.string H)).setCell (p := ⟨w.heap.size + 1, 10, none⟩) (by simp) (.bool ho)).setCell (p := ⟨w.heap.size + 1, 11, none⟩) (by simp) (.slice At ts.length capt)).setCell (p := ⟨w.heap.size + 1, 12, none⟩) (by simp) (.slice Ab bs.length capb))
end Go.Proofs.YtmggoiabcboaiaaGreat
