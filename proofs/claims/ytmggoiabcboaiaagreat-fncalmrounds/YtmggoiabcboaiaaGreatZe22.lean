/- Parts of a proof, 22: LnFN LnV LkU. -/
import Derived.RegionTactic
import Derived.Laws.Tables
import Derived.Test.YtmggoiabcboaiaaGreatZe1
import Derived.Test.YtmggoiabcboaiaaGreatZe2
import Derived.Test.YtmggoiabcboaiaaGreatZe3
import Derived.Test.YtmggoiabcboaiaaGreatZe4
import Derived.Test.YtmggoiabcboaiaaGreatZe5
import Derived.Test.YtmggoiabcboaiaaGreatZe6
import Derived.Test.YtmggoiabcboaiaaGreatZe7
import Derived.Test.YtmggoiabcboaiaaGreatZe8
import Derived.Test.YtmggoiabcboaiaaGreatZe9
import Derived.Test.YtmggoiabcboaiaaGreatZe10
import Derived.Test.YtmggoiabcboaiaaGreatZe11
import Derived.Test.YtmggoiabcboaiaaGreatZe12
import Derived.Test.YtmggoiabcboaiaaGreatZe13
import Derived.Test.YtmggoiabcboaiaaGreatZe14
import Derived.Test.YtmggoiabcboaiaaGreatZe15
import Derived.Test.YtmggoiabcboaiaaGreatZe16
import Derived.Test.YtmggoiabcboaiaaGreatZe17
import Derived.Test.YtmggoiabcboaiaaGreatZe18
import Derived.Test.YtmggoiabcboaiaaGreatZe19
import Derived.Test.YtmggoiabcboaiaaGreatZe20
import Derived.Test.YtmggoiabcboaiaaGreatZe21
namespace Go.Proofs.YtmggoiabcboaiaaGreat
open Go.ChangeShapes Go.WideShapes Go.ChangeAt Go.RowKit
set_option maxRecDepth 100000 in
set_option maxHeartbeats 2000000 in
def newB (c : Cf) (ms : List ByteArray) : Bool := confB c && msgsB c.most ms
theorem lineB_new (c : Cf) (ms : List ByteArray) : lineB c ms 0 0 ⟨[], false⟩ ⟨[], false⟩ 0 0 = newB c ms := by
 unfold lineB newB
 cases hc : confB c with
 | false => simp [okF, hc]
 | true => rw [new_ok hc]; simp
def NewPost (w : World) (a b d m : Int) (ms : List ByteArray) (e : Ending) (w' : World) : Prop :=
 (newB ⟨a, b, d, m⟩ ms = true ∧ ∃ v, e = .returned (lnV a b d m v 0 (.slice none 0 0) ⟨#[]⟩ false ⟨#[]⟩ false (.slice none 0 0) (.slice none 0 0)) ∧ OS w' w.heap.size v ms ∧ Below w.heap.size w w') ∨
 (newB ⟨a, b, d, m⟩ ms = false ∧ e = .returned (lnV 0 0 0 0 (.slice none 0 0) 0 (.slice none 0 0) ⟨#[]⟩ false ⟨#[]⟩ false (.slice none 0 0) (.slice none 0 0)) ∧ Below w.heap.size w w')
set_option maxRecDepth 100000 in
set_option maxHeartbeats 4000000 in
theorem implLineNew_any (a b d m : Int) (v : Value) (ms : List ByteArray) (w : World) (B : Nat) (h : RS w B v ms) (hB : B ≤ w.heap.size) (wa : (Lit.int .i64 a).wf = true) (hl : ms.length ≤ 1048576) (hz : ∀ s ∈ ms, s.size ≤ 1048576) :
  Calls Tryz.prog 14 #[cfV a b d m, v] w (NewPost w a b d m ms) := by
 have hzl := zero_line
 obtain ⟨A, cap, rfl⟩ := h.shape
 have hbl : Below w.heap.size w (((w.alloc (.cells #[.int .i64 a, .int .i64 b, .int .i64 d, .int .i64 m] 24)).alloc (.cells #[.int .i64 0, .int .i64 0, .int .i64 0, .int .i64 0, .slice none 0 0, .int .i64 0, .slice none 0 0, .string ⟨#[]⟩, .bool false, .string ⟨#[]⟩, .bool false, .slice none 0 0, .slice none 0 0] 32)).alloc (.cells #[.int .i64 a, .int .i64 b, .int .i64 d, .int .i64 m, .slice A ms.length cap, .int .i64 0, .slice none 0 0, .string ⟨#[]⟩, .bool false, .string ⟨#[]⟩, .bool false, .slice none 0 0, .slice none 0 0] 32)) := (((Below.refl _ w).alloc (Nat.le_refl _) _).alloc (by simp) _).alloc (by simp; omega) _
 have hr := (BK.new (w.alloc (.cells #[.int .i64 a, .int .i64 b, .int .i64 d, .int .i64 m] 24)) #[.int .i64 0, .int .i64 0, .int .i64 0, .int .i64 0, .slice none 0 0, .int .i64 0, .slice none 0 0, .string ⟨#[]⟩, .bool false, .string ⟨#[]⟩, .bool false, .slice none 0 0, .slice none 0 0] 32).alloc (.cells #[.int .i64 a, .int .i64 b, .int .i64 d, .int .i64 m, .slice A ms.length cap, .int .i64 0, .slice none 0 0, .string ⟨#[]⟩, .bool false, .string ⟨#[]⟩, .bool false, .slice none 0 0, .slice none 0 0] 32)
 have hj := BK.new ((w.alloc (.cells #[.int .i64 a, .int .i64 b, .int .i64 d, .int .i64 m] 24)).alloc (.cells #[.int .i64 0, .int .i64 0, .int .i64 0, .int .i64 0, .slice none 0 0, .int .i64 0, .slice none 0 0, .string ⟨#[]⟩, .bool false, .string ⟨#[]⟩, .bool false, .slice none 0 0, .slice none 0 0] 32)) #[.int .i64 a, .int .i64 b, .int .i64 d, .int .i64 m, .slice A ms.length cap, .int .i64 0, .slice none 0 0, .string ⟨#[]⟩, .bool false, .string ⟨#[]⟩, .bool false, .slice none 0 0, .slice none 0 0] 32
 rw [World.size_alloc] at hr hj
 rw [World.size_alloc] at hj
 obtain ⟨e0, e1, e2, e3, e4, e5, e6, e7, e8, e9, e10, e11, e12⟩ := cells13 hj
 have HM := Lib.hid (h.below (hbl.mono hB))
 have HB := Lib.hid hbl
 have HQ := Lib.hid hr
 have HJ := Lib.hid hj
 have HZ := Lib.hid hz
 have HNB := Lib.hid (lineB_new ⟨a, b, d, m⟩ ms)
 clear h hr hj hbl hz
 go_enter Tryz.func14, Tryz.ntmps14
 go_wp2_with fail
 refine (implLineOk_any a b d m 0 _ ms none none none 0 0 0 0 0 0 ⟨#[]⟩ ⟨#[]⟩ false false _ B HM.out (Nat.le_trans hB HB.out.size) wa (by show 0 ≤ maxLen; exact Nat.zero_le _) (by show 0 ≤ maxLen; exact Nat.zero_le _) (by unfold maxLen; omega) (fun s hs => by have := HZ.out s hs; unfold maxLen; omega)).mono ?_
 rintro e x1 ⟨rfl, hbx⟩
 rw [show lineB ⟨a, b, d, m⟩ ms 0 0 ⟨(⟨#[]⟩ : ByteArray).data.toList, false⟩ ⟨(⟨#[]⟩ : ByteArray).data.toList, false⟩ 0 0 = newB ⟨a, b, d, m⟩ ms from HNB.out]
 have hr := HQ.out.from hbx
 have hj := HJ.out.from hbx
 obtain ⟨e0, e1, e2, e3, e4, e5, e6, e7, e8, e9, e10, e11, e12⟩ := cells13 hj
 obtain ⟨h0, h1, h2, h3, h4, h5, h6, h7, h8, h9, h10, h11, h12⟩ := free13 hj
 obtain ⟨q0, q1, q2, q3, q4, q5, q6, q7, q8, q9, q10, q11, q12⟩ := cells13 hr
 obtain ⟨g0, g1, g2, g3, g4, g5, g6, g7, g8, g9, g10, g11, g12⟩ := free13 hr
 have HM := Lib.hid (HM.out.below (hbx.mono (Nat.le_trans hB HB.out.size)))
 have HB := Lib.hid (HB.out.trans (hbx.mono HB.out.size))
 have HQ := Lib.hid hr
 have HJ := Lib.hid hj
 clear hr hj hbx
 cases hn : newB ⟨a, b, d, m⟩ ms with
 | false =>
  go_wp2
  have hq := HQ.out
  have hq : BK _ (w.heap.size + 1) #[.int .i64 0, .int .i64 0, .int .i64 0, .int .i64 0, .slice none 0 0, .int .i64 0, .slice none 0 0, .string ⟨#[]⟩, .bool false, .string ⟨#[]⟩, .bool false, .slice none 0 0, .slice none 0 0] 32 := hq.set 0 (.int .i64 0)
  have hq : BK _ (w.heap.size + 1) #[.int .i64 0, .int .i64 0, .int .i64 0, .int .i64 0, .slice none 0 0, .int .i64 0, .slice none 0 0, .string ⟨#[]⟩, .bool false, .string ⟨#[]⟩, .bool false, .slice none 0 0, .slice none 0 0] 32 := hq.set 1 (.int .i64 0)
  have hq : BK _ (w.heap.size + 1) #[.int .i64 0, .int .i64 0, .int .i64 0, .int .i64 0, .slice none 0 0, .int .i64 0, .slice none 0 0, .string ⟨#[]⟩, .bool false, .string ⟨#[]⟩, .bool false, .slice none 0 0, .slice none 0 0] 32 := hq.set 2 (.int .i64 0)
  have hq : BK _ (w.heap.size + 1) #[.int .i64 0, .int .i64 0, .int .i64 0, .int .i64 0, .slice none 0 0, .int .i64 0, .slice none 0 0, .string ⟨#[]⟩, .bool false, .string ⟨#[]⟩, .bool false, .slice none 0 0, .slice none 0 0] 32 := hq.set 3 (.int .i64 0)
  have hq : BK _ (w.heap.size + 1) #[.int .i64 0, .int .i64 0, .int .i64 0, .int .i64 0, .slice none 0 0, .int .i64 0, .slice none 0 0, .string ⟨#[]⟩, .bool false, .string ⟨#[]⟩, .bool false, .slice none 0 0, .slice none 0 0] 32 := hq.set 4 (.slice none 0 0)
  have hq : BK _ (w.heap.size + 1) #[.int .i64 0, .int .i64 0, .int .i64 0, .int .i64 0, .slice none 0 0, .int .i64 0, .slice none 0 0, .string ⟨#[]⟩, .bool false, .string ⟨#[]⟩, .bool false, .slice none 0 0, .slice none 0 0] 32 := hq.set 5 (.int .i64 0)
  have hq : BK _ (w.heap.size + 1) #[.int .i64 0, .int .i64 0, .int .i64 0, .int .i64 0, .slice none 0 0, .int .i64 0, .slice none 0 0, .string ⟨#[]⟩, .bool false, .string ⟨#[]⟩, .bool false, .slice none 0 0, .slice none 0 0] 32 := hq.set 6 (.slice none 0 0)
  have hq : BK _ (w.heap.size + 1) #[.int .i64 0, .int .i64 0, .int .i64 0, .int .i64 0, .slice none 0 0, .int .i64 0, .slice none 0 0, .string ⟨#[]⟩, .bool false, .string ⟨#[]⟩, .bool false, .slice none 0 0, .slice none 0 0] 32 := hq.set 7 (.string ⟨#[]⟩)
  have hq : BK _ (w.heap.size + 1) #[.int .i64 0, .int .i64 0, .int .i64 0, .int .i64 0, .slice none 0 0, .int .i64 0, .slice none 0 0, .string ⟨#[]⟩, .bool false, .string ⟨#[]⟩, .bool false, .slice none 0 0, .slice none 0 0] 32 := hq.set 8 (.bool false)
  have hq : BK _ (w.heap.size + 1) #[.int .i64 0, .int .i64 0, .int .i64 0, .int .i64 0, .slice none 0 0, .int .i64 0, .slice none 0 0, .string ⟨#[]⟩, .bool false, .string ⟨#[]⟩, .bool false, .slice none 0 0, .slice none 0 0] 32 := hq.set 9 (.string ⟨#[]⟩)
  have hq : BK _ (w.heap.size + 1) #[.int .i64 0, .int .i64 0, .int .i64 0, .int .i64 0, .slice none 0 0, .int .i64 0, .slice none 0 0, .string ⟨#[]⟩, .bool false, .string ⟨#[]⟩, .bool false, .slice none 0 0, .slice none 0 0] 32 := hq.set 10 (.bool false)
  have hq : BK _ (w.heap.size + 1) #[.int .i64 0, .int .i64 0, .int .i64 0, .int .i64 0, .slice none 0 0, .int .i64 0, .slice none 0 0, .string ⟨#[]⟩, .bool false, .string ⟨#[]⟩, .bool false, .slice none 0 0, .slice none 0 0] 32 := hq.set 11 (.slice none 0 0)
  have hq : BK _ (w.heap.size + 1) #[.int .i64 0, .int .i64 0, .int .i64 0, .int .i64 0, .slice none 0 0, .int .i64 0, .slice none 0 0, .string ⟨#[]⟩, .bool false, .string ⟨#[]⟩, .bool false, .slice none 0 0, .slice none 0 0] 32 := hq.set 12 (.slice none 0 0)
  exact line_ret Tryz.results14 hq rfl rfl (.inr ⟨hn, rfl, (((((((((((((HB.out.setCell (p := ⟨w.heap.size + 1, 0, none⟩) (by simp) (.int .i64 0)).setCell (p := ⟨w.heap.size + 1, 1, none⟩) (by simp) (.int .i64 0)).setCell (p := ⟨w.heap.size + 1, 2, none⟩) (by simp) (.int .i64 0)).setCell (p := ⟨w.heap.size + 1, 3, none⟩) (by simp) (.int .i64 0)).setCell (p := ⟨w.heap.size + 1, 4, none⟩) (by simp) (.slice none 0 0)).setCell (p := ⟨w.heap.size + 1, 5, none⟩) (by simp) (.int .i64 0)).setCell (p := ⟨w.heap.size + 1, 6, none⟩) (by simp) (.slice none 0 0)).setCell (p := ⟨w.heap.size + 1, 7, none⟩) (by simp) (.string ⟨#[]⟩)).setCell (p := ⟨w.heap.size + 1, 8, none⟩) (by simp) (.bool false)).setCell (p := ⟨w.heap.size + 1, 9, none⟩) (by simp) (.string ⟨#[]⟩)).setCell (p := ⟨w.heap.size + 1, 10, none⟩) (by simp) (.bool false)).setCell (p := ⟨w.heap.size + 1, 11, none⟩) (by simp) (.slice none 0 0)).setCell (p := ⟨w.heap.size + 1, 12, none⟩) (by simp) (.slice none 0 0))⟩)
 | true =>
  go_wp2_with fail
  refine (copied_any _ ms _ B HM.out (Nat.le_trans hB HB.out.size) hl HZ.out).mono ?_
  rintro e x2 ⟨⟨u, rfl, hown⟩, hbx⟩
  obtain ⟨Au, capu, hsh⟩ := hown.reads.shape
  subst hsh
  have hr := HQ.out.from hbx
  have hj := HJ.out.from hbx
  obtain ⟨e0, e1, e2, e3, e4, e5, e6, e7, e8, e9, e10, e11, e12⟩ := cells13 hj
  obtain ⟨h0, h1, h2, h3, h4, h5, h6, h7, h8, h9, h10, h11, h12⟩ := free13 hj
  obtain ⟨q0, q1, q2, q3, q4, q5, q6, q7, q8, q9, q10, q11, q12⟩ := cells13 hr
  obtain ⟨g0, g1, g2, g3, g4, g5, g6, g7, g8, g9, g10, g11, g12⟩ := free13 hr
  have HO := Lib.hid (OS.mono (base' := w.heap.size + 3) hown (by have := HJ.out.lt; omega))
  have HB := Lib.hid (HB.out.trans (hbx.mono HB.out.size))
  have HQ := Lib.hid hr
  clear hr hj hbx hown
  go_wp2
  have hq := HQ.out.far (j := w.heap.size + 1 + 1) (o := 4) (by omega) (.slice Au ms.length capu)
  have hq : BK _ (w.heap.size + 1) #[.int .i64 a, .int .i64 0, .int .i64 0, .int .i64 0, .slice none 0 0, .int .i64 0, .slice none 0 0, .string ⟨#[]⟩, .bool false, .string ⟨#[]⟩, .bool false, .slice none 0 0, .slice none 0 0] 32 := hq.set 0 (.int .i64 a)
  have hq : BK _ (w.heap.size + 1) #[.int .i64 a, .int .i64 b, .int .i64 0, .int .i64 0, .slice none 0 0, .int .i64 0, .slice none 0 0, .string ⟨#[]⟩, .bool false, .string ⟨#[]⟩, .bool false, .slice none 0 0, .slice none 0 0] 32 := hq.set 1 (.int .i64 b)
  have hq : BK _ (w.heap.size + 1) #[.int .i64 a, .int .i64 b, .int .i64 d, .int .i64 0, .slice none 0 0, .int .i64 0, .slice none 0 0, .string ⟨#[]⟩, .bool false, .string ⟨#[]⟩, .bool false, .slice none 0 0, .slice none 0 0] 32 := hq.set 2 (.int .i64 d)
  have hq : BK _ (w.heap.size + 1) #[.int .i64 a, .int .i64 b, .int .i64 d, .int .i64 m, .slice none 0 0, .int .i64 0, .slice none 0 0, .string ⟨#[]⟩, .bool false, .string ⟨#[]⟩, .bool false, .slice none 0 0, .slice none 0 0] 32 := hq.set 3 (.int .i64 m)
  have hq : BK _ (w.heap.size + 1) #[.int .i64 a, .int .i64 b, .int .i64 d, .int .i64 m, .slice Au ms.length capu, .int .i64 0, .slice none 0 0, .string ⟨#[]⟩, .bool false, .string ⟨#[]⟩, .bool false, .slice none 0 0, .slice none 0 0] 32 := hq.set 4 (.slice Au ms.length capu)
  have hq : BK _ (w.heap.size + 1) #[.int .i64 a, .int .i64 b, .int .i64 d, .int .i64 m, .slice Au ms.length capu, .int .i64 0, .slice none 0 0, .string ⟨#[]⟩, .bool false, .string ⟨#[]⟩, .bool false, .slice none 0 0, .slice none 0 0] 32 := hq.set 5 (.int .i64 0)
  have hq : BK _ (w.heap.size + 1) #[.int .i64 a, .int .i64 b, .int .i64 d, .int .i64 m, .slice Au ms.length capu, .int .i64 0, .slice none 0 0, .string ⟨#[]⟩, .bool false, .string ⟨#[]⟩, .bool false, .slice none 0 0, .slice none 0 0] 32 := hq.set 6 (.slice none 0 0)
  have hq : BK _ (w.heap.size + 1) #[.int .i64 a, .int .i64 b, .int .i64 d, .int .i64 m, .slice Au ms.length capu, .int .i64 0, .slice none 0 0, .string ⟨#[]⟩, .bool false, .string ⟨#[]⟩, .bool false, .slice none 0 0, .slice none 0 0] 32 := hq.set 7 (.string ⟨#[]⟩)
  have hq : BK _ (w.heap.size + 1) #[.int .i64 a, .int .i64 b, .int .i64 d, .int .i64 m, .slice Au ms.length capu, .int .i64 0, .slice none 0 0, .string ⟨#[]⟩, .bool false, .string ⟨#[]⟩, .bool false, .slice none 0 0, .slice none 0 0] 32 := hq.set 8 (.bool false)
  have hq : BK _ (w.heap.size + 1) #[.int .i64 a, .int .i64 b, .int .i64 d, .int .i64 m, .slice Au ms.length capu, .int .i64 0, .slice none 0 0, .string ⟨#[]⟩, .bool false, .string ⟨#[]⟩, .bool false, .slice none 0 0, .slice none 0 0] 32 := hq.set 9 (.string ⟨#[]⟩)
  have hq : BK _ (w.heap.size + 1) #[.int .i64 a, .int .i64 b, .int .i64 d, .int .i64 m, .slice Au ms.length capu, .int .i64 0, .slice none 0 0, .string ⟨#[]⟩, .bool false, .string ⟨#[]⟩, .bool false, .slice none 0 0, .slice none 0 0] 32 := hq.set 10 (.bool false)
  have hq : BK _ (w.heap.size + 1) #[.int .i64 a, .int .i64 b, .int .i64 d, .int .i64 m, .slice Au ms.length capu, .int .i64 0, .slice none 0 0, .string ⟨#[]⟩, .bool false, .string ⟨#[]⟩, .bool false, .slice none 0 0, .slice none 0 0] 32 := hq.set 11 (.slice none 0 0)
  have hq : BK _ (w.heap.size + 1) #[.int .i64 a, .int .i64 b, .int .i64 d, .int .i64 m, .slice Au ms.length capu, .int .i64 0, .slice none 0 0, .string ⟨#[]⟩, .bool false, .string ⟨#[]⟩, .bool false, .slice none 0 0, .slice none 0 0] 32 := hq.set 12 (.slice none 0 0)
  refine line_ret Tryz.results14 hq rfl rfl (.inl ⟨hn, _, rfl, ?_, ?_⟩)
  ·exact ((((((((((((((HO.out.put (p := ⟨w.heap.size + 1 + 1, 4, none⟩) (by simp) (.slice Au ms.length capu)).put (p := ⟨w.heap.size + 1, 0, none⟩) (by simp) (.int .i64 a)).put (p := ⟨w.heap.size + 1, 1, none⟩) (by simp) (.int .i64 b)).put (p := ⟨w.heap.size + 1, 2, none⟩) (by simp) (.int .i64 d)).put (p := ⟨w.heap.size + 1, 3, none⟩) (by simp) (.int .i64 m)).put (p := ⟨w.heap.size + 1, 4, none⟩) (by simp) (.slice Au ms.length capu)).put (p := ⟨w.heap.size + 1, 5, none⟩) (by simp) (.int .i64 0)).put (p := ⟨w.heap.size + 1, 6, none⟩) (by simp) (.slice none 0 0)).put (p := ⟨w.heap.size + 1, 7, none⟩) (by simp) (.string ⟨#[]⟩)).put (p := ⟨w.heap.size + 1, 8, none⟩) (by simp) (.bool false)).put (p := ⟨w.heap.size + 1, 9, none⟩) (by simp) (.string ⟨#[]⟩)).put (p := ⟨w.heap.size + 1, 10, none⟩) (by simp) (.bool false)).put (p := ⟨w.heap.size + 1, 11, none⟩) (by simp) (.slice none 0 0)).put (p := ⟨w.heap.size + 1, 12, none⟩) (by simp) (.slice none 0 0)).mono (by omega)
  ·exact ((((((((((((((HB.out.setCell (p := ⟨w.heap.size + 1 + 1, 4, none⟩) (by simp; omega) (.slice Au ms.length capu)).setCell (p := ⟨w.heap.size + 1, 0, none⟩) (by simp) (.int .i64 a)).setCell (p := ⟨w.heap.size + 1, 1, none⟩) (by simp) (.int .i64 b)).setCell (p := ⟨w.heap.size + 1, 2, none⟩) (by simp) (.int .i64 d)).setCell (p := ⟨w.heap.size + 1, 3, none⟩) (by simp) (.int .i64 m)).setCell (p := ⟨w.heap.size + 1, 4, none⟩) (by simp) (.slice Au ms.length capu)).setCell (p := ⟨w.heap.size + 1, 5, none⟩) (by simp) (.int .i64 0)).setCell (p := ⟨w.heap.size + 1, 6, none⟩) (by simp) (.slice none 0 0)).setCell (p := ⟨w.heap.size + 1, 7, none⟩) (by simp) (.string ⟨#[]⟩)).setCell (p := ⟨w.heap.size + 1, 8, none⟩) (by simp) (.bool false)).setCell (p := ⟨w.heap.size + 1, 9, none⟩) (by simp) (.string ⟨#[]⟩)).setCell (p := ⟨w.heap.size + 1, 10, none⟩) (by simp) (.bool false)).setCell (p := ⟨w.heap.size + 1, 11, none⟩) (by simp) (.slice none 0 0)).setCell (p := ⟨w.heap.size + 1, 12, none⟩) (by simp) (.slice none 0 0))
set_option maxRecDepth 100000 in
set_option maxHeartbeats 4000000 in
theorem specLineNew_any (a b d m : Int) (v : Value) (ms : List ByteArray) (w : World) (B : Nat) (h : RS w B v ms) (hB : B ≤ w.heap.size) (hl : ms.length ≤ 1048576) (hz : ∀ s ∈ ms, s.size ≤ 1048576) :
  Calls Tryz.prog 41 #[cfV a b d m, v] w (NewPost w a b d m ms) := by
 obtain ⟨i0, hi, hz0, hz1, hz2⟩ := info_parts info_str
 have HI := Lib.hid hi
 have HZ0 := Lib.hid hz0
 have HZ1 := Lib.hid hz1
 have HZ2 := Lib.hid hz2
 have hzl := zero_line
 obtain ⟨A, cap, rfl⟩ := h.shape
 have hbl : Below w.heap.size w ((w.alloc (.cells #[.int .i64 a, .int .i64 b, .int .i64 d, .int .i64 m] 24)).alloc (.cells #[.int .i64 0, .int .i64 0, .int .i64 0, .int .i64 0, .slice none 0 0, .int .i64 0, .slice none 0 0, .string ⟨#[]⟩, .bool false, .string ⟨#[]⟩, .bool false, .slice none 0 0, .slice none 0 0] 32)) := ((Below.refl _ w).alloc (Nat.le_refl _) _).alloc (by simp) _
 have hk := (BK.new w #[.int .i64 a, .int .i64 b, .int .i64 d, .int .i64 m] 24).alloc (.cells #[.int .i64 0, .int .i64 0, .int .i64 0, .int .i64 0, .slice none 0 0, .int .i64 0, .slice none 0 0, .string ⟨#[]⟩, .bool false, .string ⟨#[]⟩, .bool false, .slice none 0 0, .slice none 0 0] 32)
 have hr := BK.new (w.alloc (.cells #[.int .i64 a, .int .i64 b, .int .i64 d, .int .i64 m] 24)) #[.int .i64 0, .int .i64 0, .int .i64 0, .int .i64 0, .slice none 0 0, .int .i64 0, .slice none 0 0, .string ⟨#[]⟩, .bool false, .string ⟨#[]⟩, .bool false, .slice none 0 0, .slice none 0 0] 32
 rw [World.size_alloc] at hr
 have HM := Lib.hid (h.below (hbl.mono hB))
 have HB := Lib.hid hbl
 have HQ := Lib.hid hr
 have HK := Lib.hid hk
 have HZ := Lib.hid (show ∀ s ∈ ms, s.size ≤ maxLen from fun s hs => by have := hz s hs; unfold maxLen; omega)
 clear h hr hk hbl hz hi hz0 hz1 hz2
 go_enter Tryz.func41, Tryz.ntmps41
 go_wp2_with fail
 refine (l7ConfOk_any a b d m _).mono ?_
 rintro e x1 ⟨rfl, hbx⟩
 have hk := HK.out.from hbx
 have hr := HQ.out.from hbx
 have c0 := hk.cell (i := 0) rfl
 have c1 := hk.cell (i := 1) rfl
 have c2 := hk.cell (i := 2) rfl
 have c3 := hk.cell (i := 3) rfl
 obtain ⟨q0, q1, q2, q3, q4, q5, q6, q7, q8, q9, q10, q11, q12⟩ := cells13 hr
 obtain ⟨g0, g1, g2, g3, g4, g5, g6, g7, g8, g9, g10, g11, g12⟩ := free13 hr
 have HM := Lib.hid (HM.out.below (hbx.mono (Nat.le_trans hB HB.out.size)))
 have HB := Lib.hid (HB.out.trans (hbx.mono HB.out.size))
 have HQ := Lib.hid hr
 have HK := Lib.hid hk
 clear hr hk hbx
 cases hc : confB ⟨a, b, d, m⟩ with
 | false =>
  have HN := Lib.hid (show newB ⟨a, b, d, m⟩ ms = false by simp [newB, hc])
  go_wp2
  have hq := HQ.out
  have hq : BK _ (w.heap.size + 1) #[.int .i64 0, .int .i64 0, .int .i64 0, .int .i64 0, .slice none 0 0, .int .i64 0, .slice none 0 0, .string ⟨#[]⟩, .bool false, .string ⟨#[]⟩, .bool false, .slice none 0 0, .slice none 0 0] 32 := hq.set 0 (.int .i64 0)
  have hq : BK _ (w.heap.size + 1) #[.int .i64 0, .int .i64 0, .int .i64 0, .int .i64 0, .slice none 0 0, .int .i64 0, .slice none 0 0, .string ⟨#[]⟩, .bool false, .string ⟨#[]⟩, .bool false, .slice none 0 0, .slice none 0 0] 32 := hq.set 1 (.int .i64 0)
  have hq : BK _ (w.heap.size + 1) #[.int .i64 0, .int .i64 0, .int .i64 0, .int .i64 0, .slice none 0 0, .int .i64 0, .slice none 0 0, .string ⟨#[]⟩, .bool false, .string ⟨#[]⟩, .bool false, .slice none 0 0, .slice none 0 0] 32 := hq.set 2 (.int .i64 0)
  have hq : BK _ (w.heap.size + 1) #[.int .i64 0, .int .i64 0, .int .i64 0, .int .i64 0, .slice none 0 0, .int .i64 0, .slice none 0 0, .string ⟨#[]⟩, .bool false, .string ⟨#[]⟩, .bool false, .slice none 0 0, .slice none 0 0] 32 := hq.set 3 (.int .i64 0)
  have hq : BK _ (w.heap.size + 1) #[.int .i64 0, .int .i64 0, .int .i64 0, .int .i64 0, .slice none 0 0, .int .i64 0, .slice none 0 0, .string ⟨#[]⟩, .bool false, .string ⟨#[]⟩, .bool false, .slice none 0 0, .slice none 0 0] 32 := hq.set 4 (.slice none 0 0)
  have hq : BK _ (w.heap.size + 1) #[.int .i64 0, .int .i64 0, .int .i64 0, .int .i64 0, .slice none 0 0, .int .i64 0, .slice none 0 0, .string ⟨#[]⟩, .bool false, .string ⟨#[]⟩, .bool false, .slice none 0 0, .slice none 0 0] 32 := hq.set 5 (.int .i64 0)
  have hq : BK _ (w.heap.size + 1) #[.int .i64 0, .int .i64 0, .int .i64 0, .int .i64 0, .slice none 0 0, .int .i64 0, .slice none 0 0, .string ⟨#[]⟩, .bool false, .string ⟨#[]⟩, .bool false, .slice none 0 0, .slice none 0 0] 32 := hq.set 6 (.slice none 0 0)
  have hq : BK _ (w.heap.size + 1) #[.int .i64 0, .int .i64 0, .int .i64 0, .int .i64 0, .slice none 0 0, .int .i64 0, .slice none 0 0, .string ⟨#[]⟩, .bool false, .string ⟨#[]⟩, .bool false, .slice none 0 0, .slice none 0 0] 32 := hq.set 7 (.string ⟨#[]⟩)
  have hq : BK _ (w.heap.size + 1) #[.int .i64 0, .int .i64 0, .int .i64 0, .int .i64 0, .slice none 0 0, .int .i64 0, .slice none 0 0, .string ⟨#[]⟩, .bool false, .string ⟨#[]⟩, .bool false, .slice none 0 0, .slice none 0 0] 32 := hq.set 8 (.bool false)
  have hq : BK _ (w.heap.size + 1) #[.int .i64 0, .int .i64 0, .int .i64 0, .int .i64 0, .slice none 0 0, .int .i64 0, .slice none 0 0, .string ⟨#[]⟩, .bool false, .string ⟨#[]⟩, .bool false, .slice none 0 0, .slice none 0 0] 32 := hq.set 9 (.string ⟨#[]⟩)
  have hq : BK _ (w.heap.size + 1) #[.int .i64 0, .int .i64 0, .int .i64 0, .int .i64 0, .slice none 0 0, .int .i64 0, .slice none 0 0, .string ⟨#[]⟩, .bool false, .string ⟨#[]⟩, .bool false, .slice none 0 0, .slice none 0 0] 32 := hq.set 10 (.bool false)
  have hq : BK _ (w.heap.size + 1) #[.int .i64 0, .int .i64 0, .int .i64 0, .int .i64 0, .slice none 0 0, .int .i64 0, .slice none 0 0, .string ⟨#[]⟩, .bool false, .string ⟨#[]⟩, .bool false, .slice none 0 0, .slice none 0 0] 32 := hq.set 11 (.slice none 0 0)
  have hq : BK _ (w.heap.size + 1) #[.int .i64 0, .int .i64 0, .int .i64 0, .int .i64 0, .slice none 0 0, .int .i64 0, .slice none 0 0, .string ⟨#[]⟩, .bool false, .string ⟨#[]⟩, .bool false, .slice none 0 0, .slice none 0 0] 32 := hq.set 12 (.slice none 0 0)
  exact line_ret Tryz.results41 hq rfl rfl (.inr ⟨HN.out, rfl, (((((((((((((HB.out.setCell (p := ⟨w.heap.size + 1, 0, none⟩) (by simp) (.int .i64 0)).setCell (p := ⟨w.heap.size + 1, 1, none⟩) (by simp) (.int .i64 0)).setCell (p := ⟨w.heap.size + 1, 2, none⟩) (by simp) (.int .i64 0)).setCell (p := ⟨w.heap.size + 1, 3, none⟩) (by simp) (.int .i64 0)).setCell (p := ⟨w.heap.size + 1, 4, none⟩) (by simp) (.slice none 0 0)).setCell (p := ⟨w.heap.size + 1, 5, none⟩) (by simp) (.int .i64 0)).setCell (p := ⟨w.heap.size + 1, 6, none⟩) (by simp) (.slice none 0 0)).setCell (p := ⟨w.heap.size + 1, 7, none⟩) (by simp) (.string ⟨#[]⟩)).setCell (p := ⟨w.heap.size + 1, 8, none⟩) (by simp) (.bool false)).setCell (p := ⟨w.heap.size + 1, 9, none⟩) (by simp) (.string ⟨#[]⟩)).setCell (p := ⟨w.heap.size + 1, 10, none⟩) (by simp) (.bool false)).setCell (p := ⟨w.heap.size + 1, 11, none⟩) (by simp) (.slice none 0 0)).setCell (p := ⟨w.heap.size + 1, 12, none⟩) (by simp) (.slice none 0 0))⟩)
 | true =>
  have hd := (confB_yes hc).2.2.1
  go_wp2_with fail
  refine (l8MsgsOk_any a b d m _ ms _ B HM.out (Nat.le_trans hB HB.out.size) (by unfold maxLen; omega) HZ.out hd).mono ?_
  rintro e x2 ⟨rfl, hbx⟩
  have hk := HK.out.from hbx
  have hr := HQ.out.from hbx
  have c0 := hk.cell (i := 0) rfl
  have c1 := hk.cell (i := 1) rfl
  have c2 := hk.cell (i := 2) rfl
  have c3 := hk.cell (i := 3) rfl
  obtain ⟨q0, q1, q2, q3, q4, q5, q6, q7, q8, q9, q10, q11, q12⟩ := cells13 hr
  obtain ⟨g0, g1, g2, g3, g4, g5, g6, g7, g8, g9, g10, g11, g12⟩ := free13 hr
  have HM := Lib.hid (HM.out.below (hbx.mono (Nat.le_trans hB HB.out.size)))
  have HB := Lib.hid (HB.out.trans (hbx.mono HB.out.size))
  have HQ := Lib.hid hr
  have HK := Lib.hid hk
  clear hr hk hbx
  cases hm : msgsB d ms with
  | false =>
   have HN := Lib.hid (show newB ⟨a, b, d, m⟩ ms = false by simp [newB, hc, hm])
   go_wp2
   have hq := HQ.out
   have hq : BK _ (w.heap.size + 1) #[.int .i64 0, .int .i64 0, .int .i64 0, .int .i64 0, .slice none 0 0, .int .i64 0, .slice none 0 0, .string ⟨#[]⟩, .bool false, .string ⟨#[]⟩, .bool false, .slice none 0 0, .slice none 0 0] 32 := hq.set 0 (.int .i64 0)
   have hq : BK _ (w.heap.size + 1) #[.int .i64 0, .int .i64 0, .int .i64 0, .int .i64 0, .slice none 0 0, .int .i64 0, .slice none 0 0, .string ⟨#[]⟩, .bool false, .string ⟨#[]⟩, .bool false, .slice none 0 0, .slice none 0 0] 32 := hq.set 1 (.int .i64 0)
   have hq : BK _ (w.heap.size + 1) #[.int .i64 0, .int .i64 0, .int .i64 0, .int .i64 0, .slice none 0 0, .int .i64 0, .slice none 0 0, .string ⟨#[]⟩, .bool false, .string ⟨#[]⟩, .bool false, .slice none 0 0, .slice none 0 0] 32 := hq.set 2 (.int .i64 0)
   have hq : BK _ (w.heap.size + 1) #[.int .i64 0, .int .i64 0, .int .i64 0, .int .i64 0, .slice none 0 0, .int .i64 0, .slice none 0 0, .string ⟨#[]⟩, .bool false, .string ⟨#[]⟩, .bool false, .slice none 0 0, .slice none 0 0] 32 := hq.set 3 (.int .i64 0)
   have hq : BK _ (w.heap.size + 1) #[.int .i64 0, .int .i64 0, .int .i64 0, .int .i64 0, .slice none 0 0, .int .i64 0, .slice none 0 0, .string ⟨#[]⟩, .bool false, .string ⟨#[]⟩, .bool false, .slice none 0 0, .slice none 0 0] 32 := hq.set 4 (.slice none 0 0)
   have hq : BK _ (w.heap.size + 1) #[.int .i64 0, .int .i64 0, .int .i64 0, .int .i64 0, .slice none 0 0, .int .i64 0, .slice none 0 0, .string ⟨#[]⟩, .bool false, .string ⟨#[]⟩, .bool false, .slice none 0 0, .slice none 0 0] 32 := hq.set 5 (.int .i64 0)
   have hq : BK _ (w.heap.size + 1) #[.int .i64 0, .int .i64 0, .int .i64 0, .int .i64 0, .slice none 0 0, .int .i64 0, .slice none 0 0, .string ⟨#[]⟩, .bool false, .string ⟨#[]⟩, .bool false, .slice none 0 0, .slice none 0 0] 32 := hq.set 6 (.slice none 0 0)
   have hq : BK _ (w.heap.size + 1) #[.int .i64 0, .int .i64 0, .int .i64 0, .int .i64 0, .slice none 0 0, .int .i64 0, .slice none 0 0, .string ⟨#[]⟩, .bool false, .string ⟨#[]⟩, .bool false, .slice none 0 0, .slice none 0 0] 32 := hq.set 7 (.string ⟨#[]⟩)
   have hq : BK _ (w.heap.size + 1) #[.int .i64 0, .int .i64 0, .int .i64 0, .int .i64 0, .slice none 0 0, .int .i64 0, .slice none 0 0, .string ⟨#[]⟩, .bool false, .string ⟨#[]⟩, .bool false, .slice none 0 0, .slice none 0 0] 32 := hq.set 8 (.bool false)
   have hq : BK _ (w.heap.size + 1) #[.int .i64 0, .int .i64 0, .int .i64 0, .int .i64 0, .slice none 0 0, .int .i64 0, .slice none 0 0, .string ⟨#[]⟩, .bool false, .string ⟨#[]⟩, .bool false, .slice none 0 0, .slice none 0 0] 32 := hq.set 9 (.string ⟨#[]⟩)
   have hq : BK _ (w.heap.size + 1) #[.int .i64 0, .int .i64 0, .int .i64 0, .int .i64 0, .slice none 0 0, .int .i64 0, .slice none 0 0, .string ⟨#[]⟩, .bool false, .string ⟨#[]⟩, .bool false, .slice none 0 0, .slice none 0 0] 32 := hq.set 10 (.bool false)
   have hq : BK _ (w.heap.size + 1) #[.int .i64 0, .int .i64 0, .int .i64 0, .int .i64 0, .slice none 0 0, .int .i64 0, .slice none 0 0, .string ⟨#[]⟩, .bool false, .string ⟨#[]⟩, .bool false, .slice none 0 0, .slice none 0 0] 32 := hq.set 11 (.slice none 0 0)
   have hq : BK _ (w.heap.size + 1) #[.int .i64 0, .int .i64 0, .int .i64 0, .int .i64 0, .slice none 0 0, .int .i64 0, .slice none 0 0, .string ⟨#[]⟩, .bool false, .string ⟨#[]⟩, .bool false, .slice none 0 0, .slice none 0 0] 32 := hq.set 12 (.slice none 0 0)
   exact line_ret Tryz.results41 hq rfl rfl (.inr ⟨HN.out, rfl, (((((((((((((HB.out.setCell (p := ⟨w.heap.size + 1, 0, none⟩) (by simp) (.int .i64 0)).setCell (p := ⟨w.heap.size + 1, 1, none⟩) (by simp) (.int .i64 0)).setCell (p := ⟨w.heap.size + 1, 2, none⟩) (by simp) (.int .i64 0)).setCell (p := ⟨w.heap.size + 1, 3, none⟩) (by simp) (.int .i64 0)).setCell (p := ⟨w.heap.size + 1, 4, none⟩) (by simp) (.slice none 0 0)).setCell (p := ⟨w.heap.size + 1, 5, none⟩) (by simp) (.int .i64 0)).setCell (p := ⟨w.heap.size + 1, 6, none⟩) (by simp) (.slice none 0 0)).setCell (p := ⟨w.heap.size + 1, 7, none⟩) (by simp) (.string ⟨#[]⟩)).setCell (p := ⟨w.heap.size + 1, 8, none⟩) (by simp) (.bool false)).setCell (p := ⟨w.heap.size + 1, 9, none⟩) (by simp) (.string ⟨#[]⟩)).setCell (p := ⟨w.heap.size + 1, 10, none⟩) (by simp) (.bool false)).setCell (p := ⟨w.heap.size + 1, 11, none⟩) (by simp) (.slice none 0 0)).setCell (p := ⟨w.heap.size + 1, 12, none⟩) (by simp) (.slice none 0 0))⟩)
  | true =>
   have HN := Lib.hid (show newB ⟨a, b, d, m⟩ ms = true by simp [newB, hc, hm])
   clear hc hm
   go_wp2_with fail
   have hKb := HK.out.drew
   have hRb := HQ.out.drew
   have hBb := HB.out.drew
   have hMb := HM.out.below (Below.refl _ _).drew
   have hlt : w.heap.size + 1 < x2.heap.size := hRb.lt
   have hne0 : (some x2.heap.size : Option Nat) ≠ some w.heap.size := fun e => by injection e with e; omega
   have hne1 : (some x2.heap.size : Option Nat) ≠ some (w.heap.size + 1) := fun e => by injection e with e; omega
   have hlow : ∀ k, (some x2.heap.size : Option Nat) = some k → w.heap.size ≤ k := fun k e => by injection e with e; omega
   have hS := And.intro (hKb.cell (i := 0) rfl) (And.intro (hKb.cell (i := 1) rfl) (And.intro (hKb.cell (i := 2) rfl) (hKb.cell (i := 3) rfl)))
   refine wp_region_held_drew (S := (fun wx => wx.cell? ⟨w.heap.size, 0, none⟩ = some (.int .i64 a) ∧ wx.cell? ⟨w.heap.size, 1, none⟩ = some (.int .i64 b) ∧ wx.cell? ⟨w.heap.size, 2, none⟩ = some (.int .i64 d) ∧ wx.cell? ⟨w.heap.size, 3, none⟩ = some (.int .i64 m))) (by kernel_rfl) hS (fun hHeld => ?_)
   refine tkH 0 ?_ rfl (Or.inl ⟨by rfl, ?_⟩) ?_; rotate_left
   ·intro wq hSw; (try dsimp only at hSw); (try simp only [gT, gZ]); go_simp; (try with_reducible rfl)
   simp only [Act.put, gT, gZ, sT, sZ, sS]
   refine tkH 2 ?_ rfl (Or.inl ⟨by rfl, ?_⟩) ?_; rotate_left
   ·intro wq hSw; (try dsimp only at hSw); (try simp only [gT, gS, gZ]); go_simp; (try with_reducible rfl)
   simp only [Act.put, gT, gS, gZ, sT, sZ, sS]
   have hKb := hKb.alloc (.cells #[] 9)
   have hRb := hRb.alloc (.cells #[] 9)
   have hOb := OS_made x2.drew (base := x2.drew.heap.size) rfl (Nat.le_refl _)
   have hMb := hMb.below ((Below.refl B _).alloc (Nat.le_trans hB hBb.size) (.cells #[] 9))
   have hBb := hBb.alloc hBb.size (.cells #[] 9)
   have hS := And.intro (hKb.cell (i := 0) rfl) (And.intro (hKb.cell (i := 1) rfl) (And.intro (hKb.cell (i := 2) rfl) (hKb.cell (i := 3) rfl)))
   refine wpAnyH_ready (rs := [1]) (by kernel_rfl) (by simp) ?_
   refine AllReadyH.cons rfl (fun K hK => ?_) AllReadyH.nil
   (try simp only [gT, gS, gZ])
   skip
   go_simp
   skip
   refine hK.out _ _ hS (fun hHeld => ?_)
   clear hK K
   refine wpAnyH_ready (rs := [3]) (by kernel_rfl) (by simp) ?_
   refine AllReadyH.cons rfl (fun K hK => ?_) AllReadyH.nil
   (try simp only [gT, gS, gZ])
   rw [if_pos (by rfl)]
   refine opwp_append_os _ _ 25 rfl x2.drew.heap.size i0 Tryz.underlying25 HI.out HZ0.out HZ1.out HZ2.out _ [] rfl hOb _ _ ms rfl hMb (by simp; omega) (by simp) ?_
   intro u x3 hown hg3
   rw [List.nil_append] at hown
   obtain ⟨Au, capu, hsh⟩ := hown.reads.shape
   subst hsh
   have hBb := hBb.grown hg3 (by simp; omega) (fun k hk => hlow k hk)
   have hKb := hKb.grown hg3 hne0
   have hRb := hRb.grown hg3 hne1
   have hS := And.intro (hKb.cell (i := 0) rfl) (And.intro (hKb.cell (i := 1) rfl) (And.intro (hKb.cell (i := 2) rfl) (hKb.cell (i := 3) rfl)))
   refine hK.out _ _ hS (fun hHeld => ?_)
   clear hK K
   simp only [Act.put, sT, sZ, sS]
   obtain ⟨q0, q1, q2, q3, q4, q5, q6, q7, q8, q9, q10, q11, q12⟩ := cells13 hRb
   obtain ⟨g0, g1, g2, g3, g4, g5, g6, g7, g8, g9, g10, g11, g12⟩ := free13 hRb
   refine tkH 4 ?_ rfl (Or.inl ⟨by rfl, ?_⟩) ?_; rotate_left
   ·intro wq hSw; (try dsimp only at hSw); (try simp only [gT, gS, gZ]); go_simp; (try with_reducible rfl)
   simp only [Act.put, gT, gS, gZ, sT, sZ, sS]
   have hX := hKb
   have hX := hX.far (j := w.heap.size + 1) (o := 0) (by omega) (.int .i64 a)
   have hX := hX.far (j := w.heap.size + 1) (o := 1) (by omega) (.int .i64 b)
   have hX := hX.far (j := w.heap.size + 1) (o := 2) (by omega) (.int .i64 d)
   have hX := hX.far (j := w.heap.size + 1) (o := 3) (by omega) (.int .i64 m)
   have hX := hX.far (j := w.heap.size + 1) (o := 4) (by omega) (.slice Au ms.length capu)
   have hX := hX.far (j := w.heap.size + 1) (o := 5) (by omega) (.int .i64 0)
   have hX := hX.far (j := w.heap.size + 1) (o := 6) (by omega) (.slice none 0 0)
   have hX := hX.far (j := w.heap.size + 1) (o := 7) (by omega) (.string ⟨#[]⟩)
   have hX := hX.far (j := w.heap.size + 1) (o := 8) (by omega) (.bool false)
   have hX := hX.far (j := w.heap.size + 1) (o := 9) (by omega) (.string ⟨#[]⟩)
   have hX := hX.far (j := w.heap.size + 1) (o := 10) (by omega) (.bool false)
   have hX := hX.far (j := w.heap.size + 1) (o := 11) (by omega) (.slice none 0 0)
   have hX := hX.far (j := w.heap.size + 1) (o := 12) (by omega) (.slice none 0 0)
   have hS := And.intro (hX.cell (i := 0) rfl) (And.intro (hX.cell (i := 1) rfl) (And.intro (hX.cell (i := 2) rfl) (hX.cell (i := 3) rfl)))
   refine wpAnyH_ready (rs := [5]) (by kernel_rfl) (by simp) ?_
   refine AllReadyH.cons rfl (fun K hK => ?_) AllReadyH.nil
   (try simp only [gT, gS, gZ])
   skip
   go_simp
   skip
   refine hK.out _ _ hS (fun hHeld => ?_)
   clear hK K
   refine wpAnyH_done (by kernel_rfl) ?_ _
   have hq := hRb
   have hq : BK _ (w.heap.size + 1) #[.int .i64 a, .int .i64 0, .int .i64 0, .int .i64 0, .slice none 0 0, .int .i64 0, .slice none 0 0, .string ⟨#[]⟩, .bool false, .string ⟨#[]⟩, .bool false, .slice none 0 0, .slice none 0 0] 32 := hq.set 0 (.int .i64 a)
   have hq : BK _ (w.heap.size + 1) #[.int .i64 a, .int .i64 b, .int .i64 0, .int .i64 0, .slice none 0 0, .int .i64 0, .slice none 0 0, .string ⟨#[]⟩, .bool false, .string ⟨#[]⟩, .bool false, .slice none 0 0, .slice none 0 0] 32 := hq.set 1 (.int .i64 b)
   have hq : BK _ (w.heap.size + 1) #[.int .i64 a, .int .i64 b, .int .i64 d, .int .i64 0, .slice none 0 0, .int .i64 0, .slice none 0 0, .string ⟨#[]⟩, .bool false, .string ⟨#[]⟩, .bool false, .slice none 0 0, .slice none 0 0] 32 := hq.set 2 (.int .i64 d)
   have hq : BK _ (w.heap.size + 1) #[.int .i64 a, .int .i64 b, .int .i64 d, .int .i64 m, .slice none 0 0, .int .i64 0, .slice none 0 0, .string ⟨#[]⟩, .bool false, .string ⟨#[]⟩, .bool false, .slice none 0 0, .slice none 0 0] 32 := hq.set 3 (.int .i64 m)
   have hq : BK _ (w.heap.size + 1) #[.int .i64 a, .int .i64 b, .int .i64 d, .int .i64 m, .slice Au ms.length capu, .int .i64 0, .slice none 0 0, .string ⟨#[]⟩, .bool false, .string ⟨#[]⟩, .bool false, .slice none 0 0, .slice none 0 0] 32 := hq.set 4 (.slice Au ms.length capu)
   have hq : BK _ (w.heap.size + 1) #[.int .i64 a, .int .i64 b, .int .i64 d, .int .i64 m, .slice Au ms.length capu, .int .i64 0, .slice none 0 0, .string ⟨#[]⟩, .bool false, .string ⟨#[]⟩, .bool false, .slice none 0 0, .slice none 0 0] 32 := hq.set 5 (.int .i64 0)
   have hq : BK _ (w.heap.size + 1) #[.int .i64 a, .int .i64 b, .int .i64 d, .int .i64 m, .slice Au ms.length capu, .int .i64 0, .slice none 0 0, .string ⟨#[]⟩, .bool false, .string ⟨#[]⟩, .bool false, .slice none 0 0, .slice none 0 0] 32 := hq.set 6 (.slice none 0 0)
   have hq : BK _ (w.heap.size + 1) #[.int .i64 a, .int .i64 b, .int .i64 d, .int .i64 m, .slice Au ms.length capu, .int .i64 0, .slice none 0 0, .string ⟨#[]⟩, .bool false, .string ⟨#[]⟩, .bool false, .slice none 0 0, .slice none 0 0] 32 := hq.set 7 (.string ⟨#[]⟩)
   have hq : BK _ (w.heap.size + 1) #[.int .i64 a, .int .i64 b, .int .i64 d, .int .i64 m, .slice Au ms.length capu, .int .i64 0, .slice none 0 0, .string ⟨#[]⟩, .bool false, .string ⟨#[]⟩, .bool false, .slice none 0 0, .slice none 0 0] 32 := hq.set 8 (.bool false)
   have hq : BK _ (w.heap.size + 1) #[.int .i64 a, .int .i64 b, .int .i64 d, .int .i64 m, .slice Au ms.length capu, .int .i64 0, .slice none 0 0, .string ⟨#[]⟩, .bool false, .string ⟨#[]⟩, .bool false, .slice none 0 0, .slice none 0 0] 32 := hq.set 9 (.string ⟨#[]⟩)
   have hq : BK _ (w.heap.size + 1) #[.int .i64 a, .int .i64 b, .int .i64 d, .int .i64 m, .slice Au ms.length capu, .int .i64 0, .slice none 0 0, .string ⟨#[]⟩, .bool false, .string ⟨#[]⟩, .bool false, .slice none 0 0, .slice none 0 0] 32 := hq.set 10 (.bool false)
   have hq : BK _ (w.heap.size + 1) #[.int .i64 a, .int .i64 b, .int .i64 d, .int .i64 m, .slice Au ms.length capu, .int .i64 0, .slice none 0 0, .string ⟨#[]⟩, .bool false, .string ⟨#[]⟩, .bool false, .slice none 0 0, .slice none 0 0] 32 := hq.set 11 (.slice none 0 0)
   have hq : BK _ (w.heap.size + 1) #[.int .i64 a, .int .i64 b, .int .i64 d, .int .i64 m, .slice Au ms.length capu, .int .i64 0, .slice none 0 0, .string ⟨#[]⟩, .bool false, .string ⟨#[]⟩, .bool false, .slice none 0 0, .slice none 0 0] 32 := hq.set 12 (.slice none 0 0)
   have HO := Lib.hid hown
   have HB := Lib.hid hBb
   have HX := Lib.hid hq
   clear hKb hRb hMb hX hS hown hg3 hOb hBb hq
   go_wp2
   refine line_ret Tryz.results41 HX.out rfl rfl (.inl ⟨HN.out, _, rfl, ?_, ?_⟩)
   ·exact (((((((((((((HO.out.put (p := ⟨w.heap.size + 1, 0, none⟩) (by simp; omega) (.int .i64 a)).put (p := ⟨w.heap.size + 1, 1, none⟩) (by simp; omega) (.int .i64 b)).put (p := ⟨w.heap.size + 1, 2, none⟩) (by simp; omega) (.int .i64 d)).put (p := ⟨w.heap.size + 1, 3, none⟩) (by simp; omega) (.int .i64 m)).put (p := ⟨w.heap.size + 1, 4, none⟩) (by simp; omega) (.slice Au ms.length capu)).put (p := ⟨w.heap.size + 1, 5, none⟩) (by simp; omega) (.int .i64 0)).put (p := ⟨w.heap.size + 1, 6, none⟩) (by simp; omega) (.slice none 0 0)).put (p := ⟨w.heap.size + 1, 7, none⟩) (by simp; omega) (.string ⟨#[]⟩)).put (p := ⟨w.heap.size + 1, 8, none⟩) (by simp; omega) (.bool false)).put (p := ⟨w.heap.size + 1, 9, none⟩) (by simp; omega) (.string ⟨#[]⟩)).put (p := ⟨w.heap.size + 1, 10, none⟩) (by simp; omega) (.bool false)).put (p := ⟨w.heap.size + 1, 11, none⟩) (by simp; omega) (.slice none 0 0)).put (p := ⟨w.heap.size + 1, 12, none⟩) (by simp; omega) (.slice none 0 0)).mono (by simp; omega)
   ·exact (((((((((((((HB.out.setCell (p := ⟨w.heap.size + 1, 0, none⟩) (by simp) (.int .i64 a)).setCell (p := ⟨w.heap.size + 1, 1, none⟩) (by simp) (.int .i64 b)).setCell (p := ⟨w.heap.size + 1, 2, none⟩) (by simp) (.int .i64 d)).setCell (p := ⟨w.heap.size + 1, 3, none⟩) (by simp) (.int .i64 m)).setCell (p := ⟨w.heap.size + 1, 4, none⟩) (by simp) (.slice Au ms.length capu)).setCell (p := ⟨w.heap.size + 1, 5, none⟩) (by simp) (.int .i64 0)).setCell (p := ⟨w.heap.size + 1, 6, none⟩) (by simp) (.slice none 0 0)).setCell (p := ⟨w.heap.size + 1, 7, none⟩) (by simp) (.string ⟨#[]⟩)).setCell (p := ⟨w.heap.size + 1, 8, none⟩) (by simp) (.bool false)).setCell (p := ⟨w.heap.size + 1, 9, none⟩) (by simp) (.string ⟨#[]⟩)).setCell (p := ⟨w.heap.size + 1, 10, none⟩) (by simp) (.bool false)).setCell (p := ⟨w.heap.size + 1, 11, none⟩) (by simp) (.slice none 0 0)).setCell (p := ⟨w.heap.size + 1, 12, none⟩) (by simp) (.slice none 0 0))
end Go.Proofs.YtmggoiabcboaiaaGreat
namespace Go.Proofs.YtmggoiabcboaiaaGreat
open Go.ChangeShapes Go.WideShapes Go.ChangeAt Go.RowKit
def RZ (w : World) (B : Nat) (v : Value) (zs : List Int) : Prop :=
 ∃ a cap, v = .slice a zs.length cap ∧ zs.length ≤ cap ∧ (0 < zs.length → ∃ x : Addr, a = some x ∧ x.block < B ∧ ∀ j (h : j < zs.length), w.cell? (x.add j) = some (.int .i64 zs[j]))
section
variable {w w' : World} {B B' : Nat} {v : Value} {zs : List Int}
theorem RZ.below (h : RZ w B v zs) (hb : Below B w w') : RZ w' B v zs := by
 obtain ⟨a, cap, hv, hc0, h2⟩ := h
 refine ⟨a, cap, hv, hc0, fun h0 => ?_⟩
 obtain ⟨x, hx, hB, hc⟩ := h2 h0
 exact ⟨x, hx, hB, fun j hj => (hb.cell (p := x.add j) (by rw [add_block]; exact hB)).trans (hc j hj)⟩
theorem RZ.drew (h : RZ w B v zs) : RZ w.drew B v zs := h
theorem RZ.shape (h : RZ w B v zs) : ∃ a cap, v = .slice a zs.length cap := by
 obtain ⟨a, cap, hv, _⟩ := h
 exact ⟨a, cap, hv⟩
theorem RZ.mono (h : RZ w B v zs) (hB : B ≤ B') : RZ w B' v zs := by
 obtain ⟨a, cap, hv, hc0, h2⟩ := h
 refine ⟨a, cap, hv, hc0, fun h0 => ?_⟩
 obtain ⟨x, hx, hb, hc⟩ := h2 h0
 exact ⟨x, hx, Nat.lt_of_lt_of_le hb hB, hc⟩
theorem RZ.at_ {a : Option Addr} {cap : Nat} (h : RZ w B (.slice a zs.length cap) zs) {k : Nat} (hk : k < zs.length) : ∃ x : Addr, a = some x ∧ x.block < B ∧ w.cell? (x.add k) = some (.int .i64 zs[k]) := by
 obtain ⟨a', cap', hv, _, h2⟩ := h
 injection hv with h1 _ _
 subst h1
 obtain ⟨x, hx, hB, hc⟩ := h2 (by omega)
 exact ⟨x, hx, hB, hc k hk⟩
end
def zzV (b : Int) : Value := .int .i64 b
def OZ (w : World) (base : Nat) (v : Value) (zs : List Int) : Prop := w.ownsRow base 3 1 v zs.length (zs.map zzV)
theorem OZ.reads {w : World} {base : Nat} {v : Value} {zs : List Int} (h : OZ w base v zs) : RZ w w.heap.size v zs := by
 rcases h.2 with ⟨rfl, h0⟩ | ⟨g, cap, cur, rfl, _, hg, hcap, _, _, htake⟩
 ·rw [List.eq_nil_of_length_eq_zero h0]; exact ⟨none, 0, rfl, Nat.le_refl _, fun h => by simp at h⟩
 ·refine ⟨_, cap, rfl, hcap, fun _ => ⟨⟨g, 0, none⟩, rfl, (Array.getElem?_eq_some_iff.1 hg).1, fun j hj => ?_⟩⟩
  rw [slit_add, cell_of_row w g j cur _ _ hg]
  have h5 : (cur.toList.take (zs.length * 1))[j]? = some (zzV zs[j]) := by rw [htake]; simp [hj]
  rw [List.getElem?_take] at h5
  split at h5
  ·simpa [zzV] using h5
  ·cases h5
theorem OZ.low {w : World} {base : Nat} {v : Value} {zs : List Int} (h : OZ w base v zs) : ∀ k, v.ownBlock = some k → base ≤ k ∧ k < w.heap.size := World.ownsRow.lt h
theorem OZ.kept {w w' : World} {base : Nat} {v : Value} {zs : List Int} {row : Option Nat} (h : OZ w base v zs) (hg : w.grownBy w' row) (hne : v.ownBlock = none ∨ v.ownBlock ≠ row) : OZ w' base v zs := World.ownsRow.kept h hg hne
theorem OZ.below {w w' : World} {base : Nat} {v : Value} {zs : List Int} (h : OZ w base v zs) (hb : Below w.heap.size w w') : OZ w' base v zs := own_below h hb
theorem OZ.drew {w : World} {base : Nat} {v : Value} {zs : List Int} (h : OZ w base v zs) : OZ w.drew base v zs := h
theorem OZ.mono {w : World} {base base' : Nat} {v : Value} {zs : List Int} (h : OZ w base v zs) (hb : base' ≤ base) : OZ w base' v zs := by
 refine ⟨h.1, ?_⟩
 rcases h.2 with hn | ⟨g, cap, cur, h1, h2, h3⟩
 ·exact .inl hn
 ·exact .inr ⟨g, cap, cur, h1, Nat.le_trans hb h2, h3⟩
theorem info_int : (Tryz.prog.info? 3).map (fun i => (i.zero, i.size, i.bytes)) = some (some (.int .i64 0), 1, 8) := by kernel_rfl
end Go.Proofs.YtmggoiabcboaiaaGreat
namespace Go.Proofs.YtmggoiabcboaiaaGreat
open Go.ChangeShapes Go.WideShapes Go.ChangeAt Go.RowKit
set_option linter.unusedVariables false
def newLs (c : Cf) (ms : List ByteArray) : Ls := ⟨c, ms, 0, [], ⟨[], false⟩, ⟨[], false⟩, [], []⟩
def playRes (c : Cf) (ms : List ByteArray) (zs : List Int) : Ls := if newB c ms = true then (zs.take 80).foldl Ls.doP (newLs c ms) else zeroLs
theorem newLs_ok {c : Cf} {ms : List ByteArray} (h : newB c ms = true) : (newLs c ms).Ok := by
 have h0 := (lineB_new c ms).trans h
 unfold lineB at h0
 simp only [Bool.and_eq_true, decide_eq_true_eq] at h0
 obtain ⟨h1, h2, h3, -⟩ := h0
 have h3' := h3
 simp only [msgsB, Bool.and_eq_true, decide_eq_true_eq, List.all_eq_true] at h3'
 exact ⟨(okF_yes h1).1, h1, h2, h3'.2, fun x hx => h3'.1 x hx, Nat.zero_le _, Nat.zero_le _, fun _ h => (by cases h), Nat.zero_le _, fun _ h => (by cases h), Nat.zero_le _, fun _ h => (by cases h)⟩
theorem Ls.Ok.plays (l : List Int) : ∀ {s : Ls}, s.Ok → (l.foldl Ls.doP s).Ok := by
 induction l with
 | nil => intro s h; exact h
 | cons z r ih => intro s h; exact ih (h.doP z)
end Go.Proofs.YtmggoiabcboaiaaGreat
