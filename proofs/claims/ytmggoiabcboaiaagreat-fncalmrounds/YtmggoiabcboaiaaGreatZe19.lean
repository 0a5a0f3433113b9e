/- Parts of a proof, 19: LkH LkI. -/
import Derived.Test.YtmggoiabcboaiaaGreatZe1
import Derived.Test.YtmggoiabcboaiaaGreatZe2
import Derived.Test.YtmggoiabcboaiaaGreatZe3
import Derived.Test.YtmggoiabcboaiaaGreatZe4
import Derived.Test.YtmggoiabcboaiaaGreatZe5
import Derived.Test.YtmggoiabcboaiaaGreatZe6
import Derived.Test.YtmggoiabcboaiaaGreatZe7
import Derived.Test.YtmggoiabcboaiaaGreatZe8
import Derived.Test.YtmggoiabcboaiaaGreatZe9
import Derived.Test.YtmggoiabcboaiaaGreatZe10
import Derived.Test.YtmggoiabcboaiaaGreatZe11
import Derived.Test.YtmggoiabcboaiaaGreatZe12
import Derived.Test.YtmggoiabcboaiaaGreatZe13
import Derived.Test.YtmggoiabcboaiaaGreatZe14
import Derived.Test.YtmggoiabcboaiaaGreatZe15
import Derived.Test.YtmggoiabcboaiaaGreatZe16
import Derived.Test.YtmggoiabcboaiaaGreatZe17
import Derived.Test.YtmggoiabcboaiaaGreatZe18
namespace Go.Proofs.YtmggoiabcboaiaaGreat
open Go.ChangeShapes Go.WideShapes Go.ChangeAt Go.RowKit Go.WideMaps Go.Maps
set_option linter.unusedVariables false
def stepF (k : Int) : Value := if k = 1 then .func (.func 65) #[] #[] else if k = 2 then .func (.func 66) #[] #[] else if k = 3 then .func (.func 67) #[] #[] else if k = 4 then .func (.func 68) #[] #[] else if k = 5 then .func (.func 69) #[] #[] else if k = 6 then .func (.func 70) #[] #[] else if k = 7 then .func (.func 71) #[] #[] else .nilFunc
def stepsD : DataW Value := ((((((((DataW.map []).put (.int .i64 1) (.held (.func (.func 65) #[] #[]))).put (.int .i64 2) (.held (.func (.func 66) #[] #[]))).put (.int .i64 3) (.held (.func (.func 67) #[] #[]))).put (.int .i64 4) (.held (.func (.func 68) #[] #[]))).put (.int .i64 5) (.held (.func (.func 69) #[] #[]))).put (.int .i64 6) (.held (.func (.func 70) #[] #[]))).put (.int .i64 7) (.held (.func (.func 71) #[] #[])))
theorem zero_step (w : World) : (zeroValue 93).run Tryz.prog w = .ok .nilFunc w := by kernel_rfl
theorem steps_at (k : Int) : stepsD.atKey (.int .i64 k) (.held .nilFunc) = .held (stepF k) ∧ Maps.has stepsD (.int .i64 k) = inB k 1 7 := by
 by_cases h1 : k = 1
 ·subst h1; exact ⟨rfl, rfl⟩
 by_cases h2 : k = 2
 ·subst h2; exact ⟨rfl, rfl⟩
 by_cases h3 : k = 3
 ·subst h3; exact ⟨rfl, rfl⟩
 by_cases h4 : k = 4
 ·subst h4; exact ⟨rfl, rfl⟩
 by_cases h5 : k = 5
 ·subst h5; exact ⟨rfl, rfl⟩
 by_cases h6 : k = 6
 ·subst h6; exact ⟨rfl, rfl⟩
 by_cases h7 : k = 7
 ·subst h7; exact ⟨rfl, rfl⟩
 have n1 : (Lit.int .i64 k) ≠ .int .i64 1 := fun e => h1 (by injection e)
 have n2 : (Lit.int .i64 k) ≠ .int .i64 2 := fun e => h2 (by injection e)
 have n3 : (Lit.int .i64 k) ≠ .int .i64 3 := fun e => h3 (by injection e)
 have n4 : (Lit.int .i64 k) ≠ .int .i64 4 := fun e => h4 (by injection e)
 have n5 : (Lit.int .i64 k) ≠ .int .i64 5 := fun e => h5 (by injection e)
 have n6 : (Lit.int .i64 k) ≠ .int .i64 6 := fun e => h6 (by injection e)
 have n7 : (Lit.int .i64 k) ≠ .int .i64 7 := fun e => h7 (by injection e)
 constructor
 ·unfold stepsD
  rw [atKey_put_other n7, atKey_put_other n6, atKey_put_other n5, atKey_put_other n4, atKey_put_other n3, atKey_put_other n2, atKey_put_other n1, stepF, if_neg h1, if_neg h2, if_neg h3, if_neg h4, if_neg h5, if_neg h6, if_neg h7]
  rfl
 ·unfold stepsD
  rw [has_put_other n7, has_put_other n6, has_put_other n5, has_put_other n4, has_put_other n3, has_put_other n2, has_put_other n1]
  symm
  show inB k 1 7 = false
  simp only [inB, Bool.and_eq_false_iff, decide_eq_false_iff_not]
  omega
set_option maxRecDepth 100000 in
theorem steps_laid (k : Int) (w0 : World) (wk : (Lit.int .i64 k).wf = true) :
  ∃ w1 w2 w3 w4 w5 w6 w7, (Instr.mapUpdate 95 (.map (some w0.heap.size)) (.int .i64 1) (.func (.func 65) #[] #[])).run Tryz.prog (w0.alloc (.map #[] 0)) = .ok () w1 ∧
   (Instr.mapUpdate 95 (.map (some w0.heap.size)) (.int .i64 2) (.func (.func 66) #[] #[])).run Tryz.prog w1 = .ok () w2 ∧
   (Instr.mapUpdate 95 (.map (some w0.heap.size)) (.int .i64 3) (.func (.func 67) #[] #[])).run Tryz.prog w2 = .ok () w3 ∧
   (Instr.mapUpdate 95 (.map (some w0.heap.size)) (.int .i64 4) (.func (.func 68) #[] #[])).run Tryz.prog w3 = .ok () w4 ∧
   (Instr.mapUpdate 95 (.map (some w0.heap.size)) (.int .i64 5) (.func (.func 69) #[] #[])).run Tryz.prog w4 = .ok () w5 ∧
   (Instr.mapUpdate 95 (.map (some w0.heap.size)) (.int .i64 6) (.func (.func 70) #[] #[])).run Tryz.prog w5 = .ok () w6 ∧
   (Instr.mapUpdate 95 (.map (some w0.heap.size)) (.int .i64 7) (.func (.func 71) #[] #[])).run Tryz.prog w6 = .ok () w7 ∧
   (Instr.lookup 95 (.map (some w0.heap.size)) (.int .i64 k) true).run Tryz.prog w7 = .ok (.tuple #[stepF k, .bool (inB k 1 7)]) w7 ∧ Below w0.heap.size w0 w7 := by
 have h0 := World.ownsMap_made w0 Tryz.prog 3 selfElem
 obtain ⟨w1, r1, h1, g1⟩ := h0.update int_keys Tryz.underlying95 (by unfold maxLen; omega) (key_int 1 (by decide)) (val := .func (.func 65) #[] #[]) rfl
 obtain ⟨w2, r2, h2, g2⟩ := h1.update int_keys Tryz.underlying95 (by unfold maxLen; omega) (key_int 2 (by decide)) (val := .func (.func 66) #[] #[]) rfl
 obtain ⟨w3, r3, h3, g3⟩ := h2.update int_keys Tryz.underlying95 (by unfold maxLen; omega) (key_int 3 (by decide)) (val := .func (.func 67) #[] #[]) rfl
 obtain ⟨w4, r4, h4, g4⟩ := h3.update int_keys Tryz.underlying95 (by unfold maxLen; omega) (key_int 4 (by decide)) (val := .func (.func 68) #[] #[]) rfl
 obtain ⟨w5, r5, h5, g5⟩ := h4.update int_keys Tryz.underlying95 (by unfold maxLen; omega) (key_int 5 (by decide)) (val := .func (.func 69) #[] #[]) rfl
 obtain ⟨w6, r6, h6, g6⟩ := h5.update int_keys Tryz.underlying95 (by unfold maxLen; omega) (key_int 6 (by decide)) (val := .func (.func 70) #[] #[]) rfl
 obtain ⟨w7, r7, h7, g7⟩ := h6.update int_keys Tryz.underlying95 (by unfold maxLen; omega) (key_int 7 (by decide)) (val := .func (.func 71) #[] #[]) rfl
 obtain ⟨v, ps, hl, hv⟩ := h7.look_ok int_keys Tryz.underlying95 (zero_step _) (zd := .held .nilFunc) (zp := []) rfl (key_int k wk)
 obtain ⟨e1, e2⟩ := steps_at k
 have ev : v = stepF k := by
  have e3 := selfElem_inv hv
  have e4 : stepsD.atKey (.int .i64 k) (.held .nilFunc) = .held v := e3
  rw [e1] at e4
  injection e4 with e4
  exact e4.symm
 refine ⟨w1, w2, w3, w4, w5, w6, w7, r1, r2, r3, r4, r5, r6, r7, ?_, ?_⟩
 ·rw [hl, ev]
  show Result.ok (Value.tuple #[stepF k, .bool (Maps.has stepsD (.int .i64 k))]) w7 = _
  rw [e2]
 ·have b0 : Below w0.heap.size w0 (w0.alloc (.map #[] 0)) := (Below.refl _ _).alloc (Nat.le_refl _) _
  have b1 := b0.grown g1 b0.size (fun k hk => by cases hk; exact Nat.le_refl _)
  have b2 := b1.grown g2 b1.size (fun k hk => by cases hk; exact Nat.le_refl _)
  have b3 := b2.grown g3 b2.size (fun k hk => by cases hk; exact Nat.le_refl _)
  have b4 := b3.grown g4 b3.size (fun k hk => by cases hk; exact Nat.le_refl _)
  have b5 := b4.grown g5 b4.size (fun k hk => by cases hk; exact Nat.le_refl _)
  have b6 := b5.grown g6 b5.size (fun k hk => by cases hk; exact Nat.le_refl _)
  have b7 := b6.grown g7 b6.size (fun k hk => by cases hk; exact Nat.le_refl _)
  exact b7
def DoPost (w : World) (base g : Nat) (s : Ls) (k : Int) (e : Ending) (w' : World) : Prop := (∃ b, e = .returned (.bool b) ∧ (k = 2 → b = !s.ts.isEmpty) ∧ (k = 3 → b = !s.bs.isEmpty)) ∧ LK w' base g (s.doP k) ∧ Below base w w'
set_option maxRecDepth 100000 in
set_option maxHeartbeats 2000000 in
theorem do_any (s : Ls) (hs : s.Ok) (k : Int) (wk : (Lit.int .i64 k).wf = true) (w : World) (base g : Nat) (h : LK w base g s) :
  Calls Tryz.prog 39 #[.pointer (some ⟨g, 0, none⟩), .int .i64 k] w (DoPost w base g s k) := by
 have hmm := @run_makeMap Tryz.prog
 obtain ⟨w1, w2, w3, w4, w5, w6, w7, r1, r2, r3, r4, r5, r6, r7, r8, hb⟩ := steps_laid k w wk
 have HK := Lib.hid (h.below hb)
 have HB := Lib.hid (hb.mono (show base ≤ w.heap.size by obtain ⟨_, _, _, _, h⟩ := h; exact h.bw))
 have HS := Lib.hid hs
 clear hb h hs
 by_cases h1 : k = 1
 ·subst h1
  rw [show stepF 1 = .func (.func 65) #[] #[] from rfl, show inB 1 1 7 = true from rfl] at r8
  have HE := Lib.hid (show s.doP 1 = s.sendP from rfl)
  go_enter Tryz.func39, Tryz.ntmps39
  go_wp2_with fail
  refine (send_any s HS.out _ base g HK.out).mono ?_
  rintro e w8 ⟨⟨b, rfl⟩, hk8, hb8⟩
  have HK8 := Lib.hid hk8
  have HB8 := Lib.hid (HB.out.trans hb8)
  clear hk8 hb8
  go_wp2
  go_ret
  exact ⟨⟨_, rfl, fun h => by omega, fun h => by omega⟩, by rw [HE.out]; exact HK8.out, HB8.out⟩
 by_cases h2 : k = 2
 ·subst h2
  rw [show stepF 2 = .func (.func 66) #[] #[] from rfl, show inB 2 1 7 = true from rfl] at r8
  have HE := Lib.hid (show s.doP 2 = s.there from rfl)
  go_enter Tryz.func39, Tryz.ntmps39
  go_wp2_with fail
  refine (arrive_any s HS.out _ base g HK.out).mono ?_
  rintro e w8 ⟨rfl, hk8, hb8⟩
  have HK8 := Lib.hid hk8
  have HB8 := Lib.hid (HB.out.trans hb8)
  clear hk8 hb8
  go_wp2
  go_ret
  exact ⟨⟨_, rfl, fun _ => rfl, fun h => by omega⟩, by rw [HE.out]; exact HK8.out, HB8.out⟩
 by_cases h3 : k = 3
 ·subst h3
  rw [show stepF 3 = .func (.func 67) #[] #[] from rfl, show inB 3 1 7 = true from rfl] at r8
  have HE := Lib.hid (show s.doP 3 = s.here from rfl)
  go_enter Tryz.func39, Tryz.ntmps39
  go_wp2_with fail
  refine (arriveBack_any s HS.out _ base g HK.out).mono ?_
  rintro e w8 ⟨rfl, hk8, hb8⟩
  have HK8 := Lib.hid hk8
  have HB8 := Lib.hid (HB.out.trans hb8)
  clear hk8 hb8
  go_wp2
  go_ret
  exact ⟨⟨_, rfl, fun h => by omega, fun _ => rfl⟩, by rw [HE.out]; exact HK8.out, HB8.out⟩
 by_cases h4 : k = 4
 ·subst h4
  rw [show stepF 4 = .func (.func 68) #[] #[] from rfl, show inB 4 1 7 = true from rfl] at r8
  have HE := Lib.hid (show s.doP 4 = { s with ts := s.ts.tail } from rfl)
  go_enter Tryz.func39, Tryz.ntmps39
  go_wp2_with fail
  refine (lose_any s HS.out _ base g HK.out).mono ?_
  rintro e w8 ⟨⟨b, rfl⟩, hk8, hb8⟩
  have HK8 := Lib.hid hk8
  have HB8 := Lib.hid (HB.out.trans hb8)
  clear hk8 hb8
  go_wp2
  go_ret
  exact ⟨⟨_, rfl, fun h => by omega, fun h => by omega⟩, by rw [HE.out]; exact HK8.out, HB8.out⟩
 by_cases h5 : k = 5
 ·subst h5
  rw [show stepF 5 = .func (.func 69) #[] #[] from rfl, show inB 5 1 7 = true from rfl] at r8
  have HE := Lib.hid (show s.doP 5 = { s with bs := s.bs.tail } from rfl)
  go_enter Tryz.func39, Tryz.ntmps39
  go_wp2_with fail
  refine (loseBack_any s HS.out _ base g HK.out).mono ?_
  rintro e w8 ⟨⟨b, rfl⟩, hk8, hb8⟩
  have HK8 := Lib.hid hk8
  have HB8 := Lib.hid (HB.out.trans hb8)
  clear hk8 hb8
  go_wp2
  go_ret
  exact ⟨⟨_, rfl, fun h => by omega, fun h => by omega⟩, by rw [HE.out]; exact HK8.out, HB8.out⟩
 by_cases h6 : k = 6
 ·subst h6
  rw [show stepF 6 = .func (.func 70) #[] #[] from rfl, show inB 6 1 7 = true from rfl] at r8
  have HE := Lib.hid (show s.doP 6 = { s with ts := twiceL s.ts } from rfl)
  go_enter Tryz.func39, Tryz.ntmps39
  go_wp2_with fail
  refine (rept_any s HS.out _ base g HK.out).mono ?_
  rintro e w8 ⟨⟨b, rfl⟩, hk8, hb8⟩
  have HK8 := Lib.hid hk8
  have HB8 := Lib.hid (HB.out.trans hb8)
  clear hk8 hb8
  go_wp2
  go_ret
  exact ⟨⟨_, rfl, fun h => by omega, fun h => by omega⟩, by rw [HE.out]; exact HK8.out, HB8.out⟩
 by_cases h7 : k = 7
 ·subst h7
  rw [show stepF 7 = .func (.func 71) #[] #[] from rfl, show inB 7 1 7 = true from rfl] at r8
  have HE := Lib.hid (show s.doP 7 = { s with bs := twiceL s.bs } from rfl)
  go_enter Tryz.func39, Tryz.ntmps39
  go_wp2_with fail
  refine (reptBack_any s HS.out _ base g HK.out).mono ?_
  rintro e w8 ⟨⟨b, rfl⟩, hk8, hb8⟩
  have HK8 := Lib.hid hk8
  have HB8 := Lib.hid (HB.out.trans hb8)
  clear hk8 hb8
  go_wp2
  go_ret
  exact ⟨⟨_, rfl, fun h => by omega, fun h => by omega⟩, by rw [HE.out]; exact HK8.out, HB8.out⟩
 have hin : inB k 1 7 = false := by
  simp only [inB, Bool.and_eq_false_iff, decide_eq_false_iff_not]
  omega
 rw [hin] at r8
 have HE := Lib.hid (show s.doP k = s by unfold Ls.doP; rw [if_neg h1, if_neg h2, if_neg h3, if_neg h4, if_neg h5, if_neg h6, if_neg h7])
 generalize stepF k = u at r8
 go_enter Tryz.func39, Tryz.ntmps39
 go_wp2
 go_ret
 exact ⟨⟨_, rfl, fun h => absurd h h2, fun h => absurd h h3⟩, by rw [HE.out]; exact HK.out, HB.out⟩
end Go.Proofs.YtmggoiabcboaiaaGreat
namespace Go.Proofs.YtmggoiabcboaiaaGreat
open Go.ChangeShapes Go.WideShapes Go.ChangeAt Go.RowKit
set_option linter.unusedVariables false
theorem copiedFind_any (H : ByteArray) (o : Bool) (w : World) (hH : H.size ≤ 1048576) :
  Calls Tryz.prog 64 #[fdV H o] w fun e w' => e = .returned (fdV H o) ∧ Below w.heap.size w w' := by
 have hz := zero_find
 have HB0 := Lib.hid (((Below.refl _ w).alloc (Nat.le_refl _) (.cells #[.string H, .bool o] 30)).alloc (by simp) (.cells #[.string ⟨#[]⟩, .bool false] 30))
 have hk0 := (BK.new w #[.string H, .bool o] 30).alloc (.cells #[.string ⟨#[]⟩, .bool false] 30)
 have hq0 := BK.new (w.alloc (.cells #[.string H, .bool o] 30)) #[.string ⟨#[]⟩, .bool false] 30
 rw [World.size_alloc] at hq0
 have HQ := Lib.hid hq0
 have HK := Lib.hid hk0
 have hS := And.intro (hk0.cell (i := 0) rfl) (hk0.cell (i := 1) rfl)
 go_enter Tryz.func64, Tryz.ntmps64
 go_wp2_with fail
 have hS := (show ((w.alloc (.cells #[.string H, .bool o] 30)).alloc (.cells #[.string ⟨#[]⟩, .bool false] 30)).drew.cell? ⟨w.heap.size, 0, none⟩ = some (.string H) ∧ ((w.alloc (.cells #[.string H, .bool o] 30)).alloc (.cells #[.string ⟨#[]⟩, .bool false] 30)).drew.cell? ⟨w.heap.size, 1, none⟩ = some (.bool o) from hS)
 refine wp_region_held_drew (S := (fun wx => wx.cell? ⟨w.heap.size, 0, none⟩ = some (.string H) ∧ wx.cell? ⟨w.heap.size, 1, none⟩ = some (.bool o))) (by kernel_rfl) hS (fun hHeld => ?_)
 refine tkH 0 ?_ rfl (Or.inl ⟨by rfl, ?_⟩) ?_; rotate_left
 ·intro wq hSw; (try dsimp only at hSw); (try simp only [gT, gZ]); go_simp; (try with_reducible rfl)
 simp only [Act.put, gT, gZ, sT, sZ, sS]
 refine tkH 1 ?_ rfl (Or.inl ⟨by rfl, ?_⟩) ?_; rotate_left
 ·intro wq hSw; (try dsimp only at hSw); (try simp only [gT, gS, gZ]); go_simp; (try with_reducible rfl)
 simp only [Act.put, gT, gS, gZ, sT, sZ, sS]
 refine tkH 3 ?_ rfl (Or.inl ⟨by rfl, ?_⟩) ?_; rotate_left
 ·intro wq hSw; (try dsimp only at hSw); (try simp only [gT, gS, gZ]); go_simp; (try with_reducible rfl)
 simp only [Act.put, gT, gS, gZ, sT, sZ, sS]
 refine tkH 4 ?_ rfl (Or.inl ⟨by rfl, ?_⟩) ?_; rotate_left
 ·intro wq hSw; (try dsimp only at hSw); (try simp only [gT, gS, gZ]); go_simp; (try with_reducible rfl)
 simp only [Act.put, gT, gS, gZ, sT, sZ, sS]
 refine wpAnyH_ready (rs := [2]) (by kernel_rfl) (by simp) ?_
 refine AllReadyH.cons rfl (fun K hK => ?_) AllReadyH.nil
 (try simp only [gT, gS, gZ])
 go_simp
 go_at_call 79
 refine (clone_any H _ (by omega)).mono ?_
 rintro e w2 ⟨rfl, hb⟩
 have hS := And.intro (cell_keep hb hS.1) (cell_keep hb hS.2)
 have HB := Lib.hid (HB0.out.drew.trans (hb.mono (by simp; omega)))
 have HQ := Lib.hid (HQ.out.drew.from hb)
 have HK := Lib.hid (HK.out.drew.from hb)
 refine hK.out _ _ hS (fun hHeld => ?_)
 clear hK K
 refine tkH 5 ?_ rfl (Or.inl ⟨by rfl, ?_⟩) ?_; rotate_left
 ·intro wq hSw; (try dsimp only at hSw); (try simp only [gT, gS, gZ]); go_simp; (try with_reducible rfl)
 simp only [Act.put, gT, gS, gZ, sT, sZ, sS]
 obtain ⟨z0, z1⟩ : _ ∧ _ := ⟨HQ.out.cell (i := 0) rfl, HQ.out.cell (i := 1) rfl⟩
 have f0 := HQ.out.free 0
 have f1 := HQ.out.free 1
 have hk3 := (HK.out.far (j := w.heap.size + 1) (o := 0) (by omega) (.string H)).far (j := w.heap.size + 1) (o := 1) (by omega) (.bool o)
 have hS := (show (((w2.setCell ⟨w.heap.size + 1, 0, none⟩ (.string H)).setCell ⟨w.heap.size + 1, 1, none⟩ (.bool o))).cell? ⟨w.heap.size, 0, none⟩ = some (.string H) ∧ (((w2.setCell ⟨w.heap.size + 1, 0, none⟩ (.string H)).setCell ⟨w.heap.size + 1, 1, none⟩ (.bool o))).cell? ⟨w.heap.size, 1, none⟩ = some (.bool o) from ⟨hk3.cell rfl, hk3.cell rfl⟩)
 refine wpAnyH_ready (rs := [6]) (by kernel_rfl) (by simp) ?_
 refine AllReadyH.cons rfl (fun K hK => ?_) AllReadyH.nil
 (try simp only [gT, gS, gZ])
 skip
 go_simp
 skip
 refine hK.out _ _ hS (fun hHeld => ?_)
 clear hK K
 refine wpAnyH_done (by kernel_rfl) ?_ _
 have hq : BK _ (w.heap.size + 1) #[.string H, .bool false] 30 := HQ.out.set 0 (.string H)
 have hq : BK _ (w.heap.size + 1) #[.string H, .bool o] 30 := hq.set 1 (.bool o)
 obtain ⟨q0, q1⟩ : _ ∧ _ := ⟨hq.cell (i := 0) rfl, hq.cell (i := 1) rfl⟩
 clear hS hk3 z0 z1 f0 f1 hq
 go_wp2
 refine bodyPost_ret (v := fdV H o) (by simp [results, Tryz.results64, go_sem, q0, q1]) rfl ⟨rfl, ?_⟩
 exact (HB.out.setCell (p := ⟨w.heap.size + 1, 0, none⟩) (by simp) _).setCell (p := ⟨w.heap.size + 1, 1, none⟩) (by simp) _
set_option maxRecDepth 100000 in
set_option maxHeartbeats 4000000 in
theorem linkOf_any (a b d m nx : Int) (n : Nat) (hn : nx = (n : Int)) (vm : Value) (ms : List ByteArray) (vg : Value) (gs : List ByteArray) (vt : Value) (ts : List ByteArray) (vb : Value) (bs : List ByteArray) (T H : ByteArray) (tO hO : Bool) (w : World) (B : Nat) (h : RL w B vm ms vg gs vt ts vb bs) (hB : B ≤ w.heap.size)
  (hT : T.size ≤ 1048576) (hH : H.size ≤ 1048576) (hl : ms.length ≤ 1048576 ∧ gs.length ≤ 1048576 ∧ ts.length ≤ 1048576 ∧ bs.length ≤ 1048576) (hz : (∀ s ∈ ms, s.size ≤ 1048576) ∧ (∀ s ∈ gs, s.size ≤ 1048576) ∧ (∀ s ∈ ts, s.size ≤ 1048576) ∧ (∀ s ∈ bs, s.size ≤ 1048576)) :
  Calls Tryz.prog 38 #[lnV a b d m vm nx vg T tO H hO vt vb] w fun e w' => ∃ (g : Nat) (um ub ug ut : Value), e = .returned (.pointer (some ⟨g, 0, none⟩)) ∧ LKat w' w.heap.size g ⟨⟨a, b, d, m⟩, ms, n, gs, ⟨T.data.toList, tO⟩, ⟨H.data.toList, hO⟩, ts, bs⟩ um ub ug ut ∧ Below w.heap.size w w' := by
 subst hn
 have hb0 : Below w.heap.size w (w.alloc (.cells #[.int .i64 a, .int .i64 b, .int .i64 d, .int .i64 m, vm, .int .i64 (n : Int), vg, .string T, .bool tO, .string H, .bool hO, vt, vb] 32)) := (Below.refl _ w).alloc (Nat.le_refl _) _
 have hk := BK.new w #[.int .i64 a, .int .i64 b, .int .i64 d, .int .i64 m, vm, .int .i64 (n : Int), vg, .string T, .bool tO, .string H, .bool hO, vt, vb] 32
 have HR := Lib.hid ((h.mono hB).below hb0)
 have HB := Lib.hid hb0
 have hS := (show (w.alloc (.cells #[.int .i64 a, .int .i64 b, .int .i64 d, .int .i64 m, vm, .int .i64 (n : Int), vg, .string T, .bool tO, .string H, .bool hO, vt, vb] 32)).drew.cell? ⟨w.heap.size, 0, none⟩ = some (.int .i64 a) ∧ (w.alloc (.cells #[.int .i64 a, .int .i64 b, .int .i64 d, .int .i64 m, vm, .int .i64 (n : Int), vg, .string T, .bool tO, .string H, .bool hO, vt, vb] 32)).drew.cell? ⟨w.heap.size, 1, none⟩ = some (.int .i64 b) ∧ (w.alloc (.cells #[.int .i64 a, .int .i64 b, .int .i64 d, .int .i64 m, vm, .int .i64 (n : Int), vg, .string T, .bool tO, .string H, .bool hO, vt, vb] 32)).drew.cell? ⟨w.heap.size, 2, none⟩ = some (.int .i64 d) ∧ (w.alloc (.cells #[.int .i64 a, .int .i64 b, .int .i64 d, .int .i64 m, vm, .int .i64 (n : Int), vg, .string T, .bool tO, .string H, .bool hO, vt, vb] 32)).drew.cell? ⟨w.heap.size, 3, none⟩ = some (.int .i64 m) ∧ (w.alloc (.cells #[.int .i64 a, .int .i64 b, .int .i64 d, .int .i64 m, vm, .int .i64 (n : Int), vg, .string T, .bool tO, .string H, .bool hO, vt, vb] 32)).drew.cell? ⟨w.heap.size, 4, none⟩ = some (vm) ∧ (w.alloc (.cells #[.int .i64 a, .int .i64 b, .int .i64 d, .int .i64 m, vm, .int .i64 (n : Int), vg, .string T, .bool tO, .string H, .bool hO, vt, vb] 32)).drew.cell? ⟨w.heap.size, 5, none⟩ = some (.int .i64 (n : Int)) ∧ (w.alloc (.cells #[.int .i64 a, .int .i64 b, .int .i64 d, .int .i64 m, vm, .int .i64 (n : Int), vg, .string T, .bool tO, .string H, .bool hO, vt, vb] 32)).drew.cell? ⟨w.heap.size, 6, none⟩ = some (vg) ∧ (w.alloc (.cells #[.int .i64 a, .int .i64 b, .int .i64 d, .int .i64 m, vm, .int .i64 (n : Int), vg, .string T, .bool tO, .string H, .bool hO, vt, vb] 32)).drew.cell? ⟨w.heap.size, 7, none⟩ = some (.string T) ∧ (w.alloc (.cells #[.int .i64 a, .int .i64 b, .int .i64 d, .int .i64 m, vm, .int .i64 (n : Int), vg, .string T, .bool tO, .string H, .bool hO, vt, vb] 32)).drew.cell? ⟨w.heap.size, 8, none⟩ = some (.bool tO) ∧ (w.alloc (.cells #[.int .i64 a, .int .i64 b, .int .i64 d, .int .i64 m, vm, .int .i64 (n : Int), vg, .string T, .bool tO, .string H, .bool hO, vt, vb] 32)).drew.cell? ⟨w.heap.size, 9, none⟩ = some (.string H) ∧ (w.alloc (.cells #[.int .i64 a, .int .i64 b, .int .i64 d, .int .i64 m, vm, .int .i64 (n : Int), vg, .string T, .bool tO, .string H, .bool hO, vt, vb] 32)).drew.cell? ⟨w.heap.size, 10, none⟩ = some (.bool hO) ∧ (w.alloc (.cells #[.int .i64 a, .int .i64 b, .int .i64 d, .int .i64 m, vm, .int .i64 (n : Int), vg, .string T, .bool tO, .string H, .bool hO, vt, vb] 32)).drew.cell? ⟨w.heap.size, 11, none⟩ = some (vt) ∧ (w.alloc (.cells #[.int .i64 a, .int .i64 b, .int .i64 d, .int .i64 m, vm, .int .i64 (n : Int), vg, .string T, .bool tO, .string H, .bool hO, vt, vb] 32)).drew.cell? ⟨w.heap.size, 12, none⟩ = some (vb) from cells13 hk)
 have HZ := Lib.hid hz
 clear h hb0 hk hz
 go_enter Tryz.func38, Tryz.ntmps38
 go_wp2_with fail
 refine wp_region_held_drew (S := (fun wx => wx.cell? ⟨w.heap.size, 0, none⟩ = some (.int .i64 a) ∧ wx.cell? ⟨w.heap.size, 1, none⟩ = some (.int .i64 b) ∧ wx.cell? ⟨w.heap.size, 2, none⟩ = some (.int .i64 d) ∧ wx.cell? ⟨w.heap.size, 3, none⟩ = some (.int .i64 m) ∧ wx.cell? ⟨w.heap.size, 4, none⟩ = some (vm) ∧ wx.cell? ⟨w.heap.size, 5, none⟩ = some (.int .i64 (n : Int)) ∧ wx.cell? ⟨w.heap.size, 6, none⟩ = some (vg) ∧ wx.cell? ⟨w.heap.size, 7, none⟩ = some (.string T) ∧ wx.cell? ⟨w.heap.size, 8, none⟩ = some (.bool tO) ∧ wx.cell? ⟨w.heap.size, 9, none⟩ = some (.string H) ∧ wx.cell? ⟨w.heap.size, 10, none⟩ = some (.bool hO) ∧ wx.cell? ⟨w.heap.size, 11, none⟩ = some (vt) ∧ wx.cell? ⟨w.heap.size, 12, none⟩ = some (vb))) (by kernel_rfl) hS (fun hHeld => ?_)
 refine tkH 0 ?_ rfl (Or.inl ⟨by rfl, ?_⟩) ?_; rotate_left
 ·intro wq hSw; (try dsimp only at hSw); (try simp only [gT, gZ]); go_simp; (try with_reducible rfl)
 simp only [Act.put, gT, gZ, sT, sZ, sS]
 refine tkH 1 ?_ rfl (Or.inl ⟨by rfl, ?_⟩) ?_; rotate_left
 ·intro wq hSw; (try dsimp only at hSw); (try simp only [gT, gS, gZ]); go_simp; (try with_reducible rfl)
 simp only [Act.put, gT, gS, gZ, sT, sZ, sS]
 refine tkH 2 ?_ rfl (Or.inl ⟨by rfl, ?_⟩) ?_; rotate_left
 ·intro wq hSw; (try dsimp only at hSw); (try simp only [gT, gS, gZ]); go_simp; (try with_reducible rfl)
 simp only [Act.put, gT, gS, gZ, sT, sZ, sS]
 refine tkH 3 ?_ rfl (Or.inl ⟨by rfl, ?_⟩) ?_; rotate_left
 ·intro wq hSw; (try dsimp only at hSw); (try simp only [gT, gS, gZ]); go_simp; (try with_reducible rfl)
 simp only [Act.put, gT, gS, gZ, sT, sZ, sS]
 refine tkH 5 ?_ rfl (Or.inl ⟨by rfl, ?_⟩) ?_; rotate_left
 ·intro wq hSw; (try dsimp only at hSw); (try simp only [gT, gS, gZ]); go_simp; (try with_reducible rfl)
 simp only [Act.put, gT, gS, gZ, sT, sZ, sS]
 refine tkH 6 ?_ rfl (Or.inl ⟨by rfl, ?_⟩) ?_; rotate_left
 ·intro wq hSw; (try dsimp only at hSw); (try simp only [gT, gS, gZ]); go_simp; (try with_reducible rfl)
 simp only [Act.put, gT, gS, gZ, sT, sZ, sS]
 refine tkH 7 ?_ rfl (Or.inl ⟨by rfl, ?_⟩) ?_; rotate_left
 ·intro wq hSw; (try dsimp only at hSw); (try simp only [gT, gS, gZ]); go_simp; (try with_reducible rfl)
 simp only [Act.put, gT, gS, gZ, sT, sZ, sS]
 refine tkH 8 ?_ rfl (Or.inl ⟨by rfl, ?_⟩) ?_; rotate_left
 ·intro wq hSw; (try dsimp only at hSw); (try simp only [gT, gS, gZ]); go_simp; (try with_reducible rfl)
 simp only [Act.put, gT, gS, gZ, sT, sZ, sS]
 refine tkH 10 ?_ rfl (Or.inl ⟨by rfl, ?_⟩) ?_; rotate_left
 ·intro wq hSw; (try dsimp only at hSw); (try simp only [gT, gS, gZ]); go_simp; (try with_reducible rfl)
 simp only [Act.put, gT, gS, gZ, sT, sZ, sS]
 refine tkH 11 ?_ rfl (Or.inl ⟨by rfl, ?_⟩) ?_; rotate_left
 ·intro wq hSw; (try dsimp only at hSw); (try simp only [gT, gS, gZ]); go_simp; (try with_reducible rfl)
 simp only [Act.put, gT, gS, gZ, sT, sZ, sS]
 refine tkH 14 ?_ rfl (Or.inl ⟨by rfl, ?_⟩) ?_; rotate_left
 ·intro wq hSw; (try dsimp only at hSw); (try simp only [gT, gS, gZ]); go_simp; (try with_reducible rfl)
 simp only [Act.put, gT, gS, gZ, sT, sZ, sS]
 refine tkH 15 ?_ rfl (Or.inl ⟨by rfl, ?_⟩) ?_; rotate_left
 ·intro wq hSw; (try dsimp only at hSw); (try simp only [gT, gS, gZ]); go_simp; (try with_reducible rfl)
 simp only [Act.put, gT, gS, gZ, sT, sZ, sS]
 refine tkH 17 ?_ rfl (Or.inl ⟨by rfl, ?_⟩) ?_; rotate_left
 ·intro wq hSw; (try dsimp only at hSw); (try simp only [gT, gS, gZ]); go_simp; (try with_reducible rfl)
 simp only [Act.put, gT, gS, gZ, sT, sZ, sS]
 refine tkH 18 ?_ rfl (Or.inl ⟨by rfl, ?_⟩) ?_; rotate_left
 ·intro wq hSw; (try dsimp only at hSw); (try simp only [gT, gS, gZ]); go_simp; (try with_reducible rfl)
 simp only [Act.put, gT, gS, gZ, sT, sZ, sS]
 refine tkH 20 ?_ rfl (Or.inl ⟨by rfl, ?_⟩) ?_; rotate_left
 ·intro wq hSw; (try dsimp only at hSw); (try simp only [gT, gS, gZ]); go_simp; (try with_reducible rfl)
 simp only [Act.put, gT, gS, gZ, sT, sZ, sS]
 refine tkH 21 ?_ rfl (Or.inl ⟨by rfl, ?_⟩) ?_; rotate_left
 ·intro wq hSw; (try dsimp only at hSw); (try simp only [gT, gS, gZ]); go_simp; (try with_reducible rfl)
 simp only [Act.put, gT, gS, gZ, sT, sZ, sS]
 obtain ⟨w1, hw1⟩ : ∃ w1 : World, w1 = (w.alloc (.cells #[.int .i64 a, .int .i64 b, .int .i64 d, .int .i64 m, vm, .int .i64 (n : Int), vg, .string T, .bool tO, .string H, .bool hO, vt, vb] 32)).drew := ⟨_, rfl⟩
 rw [← hw1] at hS ⊢
 have HR := Lib.hid (show RL w1 w.heap.size vm ms vg gs vt ts vb bs by rw [hw1]; exact HR.out)
 have HB := Lib.hid (show Below w.heap.size w w1 by rw [hw1]; exact HB.out.drew)
 clear hw1
 refine wpAnyH_ready (rs := [4]) (by kernel_rfl) (by simp) ?_
 refine AllReadyH.cons rfl (fun K hK => ?_) AllReadyH.nil
 (try simp only [gT, gS, gZ])
 go_simp
 go_at_call 46
 refine (copied_any _ ms _ w.heap.size HR.out.1 HB.out.size hl.1 HZ.out.1).mono ?_
 rintro e w2 ⟨⟨um, rfl, hu⟩, hq⟩
 obtain ⟨Am, Cm, hsh⟩ := hu.reads.shape
 subst hsh
 have hS := (show w2.cell? ⟨w.heap.size, 0, none⟩ = some (.int .i64 a) ∧ w2.cell? ⟨w.heap.size, 1, none⟩ = some (.int .i64 b) ∧ w2.cell? ⟨w.heap.size, 2, none⟩ = some (.int .i64 d) ∧ w2.cell? ⟨w.heap.size, 3, none⟩ = some (.int .i64 m) ∧ w2.cell? ⟨w.heap.size, 4, none⟩ = some (vm) ∧ w2.cell? ⟨w.heap.size, 5, none⟩ = some (.int .i64 (n : Int)) ∧ w2.cell? ⟨w.heap.size, 6, none⟩ = some (vg) ∧ w2.cell? ⟨w.heap.size, 7, none⟩ = some (.string T) ∧ w2.cell? ⟨w.heap.size, 8, none⟩ = some (.bool tO) ∧ w2.cell? ⟨w.heap.size, 9, none⟩ = some (.string H) ∧ w2.cell? ⟨w.heap.size, 10, none⟩ = some (.bool hO) ∧ w2.cell? ⟨w.heap.size, 11, none⟩ = some (vt) ∧ w2.cell? ⟨w.heap.size, 12, none⟩ = some (vb) from ⟨cell_keep hq hS.1, cell_keep hq hS.2.1, cell_keep hq hS.2.2.1, cell_keep hq hS.2.2.2.1, cell_keep hq hS.2.2.2.2.1, cell_keep hq hS.2.2.2.2.2.1, cell_keep hq hS.2.2.2.2.2.2.1, cell_keep hq hS.2.2.2.2.2.2.2.1, cell_keep hq hS.2.2.2.2.2.2.2.2.1, cell_keep hq hS.2.2.2.2.2.2.2.2.2.1, cell_keep hq hS.2.2.2.2.2.2.2.2.2.2.1, cell_keep hq hS.2.2.2.2.2.2.2.2.2.2.2.1, cell_keep hq hS.2.2.2.2.2.2.2.2.2.2.2.2⟩)
 have HR := Lib.hid (HR.out.below (hq.mono HB.out.size))
 have HOm := Lib.hid (hu.mono (base' := w.heap.size) HB.out.size)
 have HLm0 := Lib.hid (fun k hk => (hu.low k hk).2)
 have HLm := HLm0
 have HB := Lib.hid (HB.out.trans (hq.mono HB.out.size))
 clear hq hu
 refine hK.out _ _ hS (fun hHeld => ?_)
 clear hK K
 refine wpAnyH_ready (rs := [9]) (by kernel_rfl) (by simp) ?_
 refine AllReadyH.cons rfl (fun K hK => ?_) AllReadyH.nil
 (try simp only [gT, gS, gZ])
 go_simp
 go_at_call 64
 refine (copiedFind_any H hO _ hH).mono ?_
 rintro e w3 ⟨rfl, hq⟩
 have hS := (show w3.cell? ⟨w.heap.size, 0, none⟩ = some (.int .i64 a) ∧ w3.cell? ⟨w.heap.size, 1, none⟩ = some (.int .i64 b) ∧ w3.cell? ⟨w.heap.size, 2, none⟩ = some (.int .i64 d) ∧ w3.cell? ⟨w.heap.size, 3, none⟩ = some (.int .i64 m) ∧ w3.cell? ⟨w.heap.size, 4, none⟩ = some (vm) ∧ w3.cell? ⟨w.heap.size, 5, none⟩ = some (.int .i64 (n : Int)) ∧ w3.cell? ⟨w.heap.size, 6, none⟩ = some (vg) ∧ w3.cell? ⟨w.heap.size, 7, none⟩ = some (.string T) ∧ w3.cell? ⟨w.heap.size, 8, none⟩ = some (.bool tO) ∧ w3.cell? ⟨w.heap.size, 9, none⟩ = some (.string H) ∧ w3.cell? ⟨w.heap.size, 10, none⟩ = some (.bool hO) ∧ w3.cell? ⟨w.heap.size, 11, none⟩ = some (vt) ∧ w3.cell? ⟨w.heap.size, 12, none⟩ = some (vb) from ⟨cell_keep hq hS.1, cell_keep hq hS.2.1, cell_keep hq hS.2.2.1, cell_keep hq hS.2.2.2.1, cell_keep hq hS.2.2.2.2.1, cell_keep hq hS.2.2.2.2.2.1, cell_keep hq hS.2.2.2.2.2.2.1, cell_keep hq hS.2.2.2.2.2.2.2.1, cell_keep hq hS.2.2.2.2.2.2.2.2.1, cell_keep hq hS.2.2.2.2.2.2.2.2.2.1, cell_keep hq hS.2.2.2.2.2.2.2.2.2.2.1, cell_keep hq hS.2.2.2.2.2.2.2.2.2.2.2.1, cell_keep hq hS.2.2.2.2.2.2.2.2.2.2.2.2⟩)
 have HR := Lib.hid (HR.out.below (hq.mono HB.out.size))
 have HOm := Lib.hid (HOm.out.below hq)
 have HLm := Lib.hid (fun k hk => Nat.lt_of_lt_of_le (HLm.out k hk) hq.size)
 have HLm0 := HLm
 have HB := Lib.hid (HB.out.trans (hq.mono HB.out.size))
 clear hq
 refine hK.out _ _ hS (fun hHeld => ?_)
 clear hK K
 refine wpAnyH_ready (rs := [12]) (by kernel_rfl) (by simp) ?_
 refine AllReadyH.cons rfl (fun K hK => ?_) AllReadyH.nil
 (try simp only [gT, gS, gZ])
 go_simp
 go_at_call 46
 refine (copied_any _ bs _ w.heap.size HR.out.2.2.2 HB.out.size hl.2.2.2 HZ.out.2.2.2).mono ?_
 rintro e w4 ⟨⟨ub, rfl, hu⟩, hq⟩
 obtain ⟨Ab, Cb, hsh⟩ := hu.reads.shape
 subst hsh
 have hS := (show w4.cell? ⟨w.heap.size, 0, none⟩ = some (.int .i64 a) ∧ w4.cell? ⟨w.heap.size, 1, none⟩ = some (.int .i64 b) ∧ w4.cell? ⟨w.heap.size, 2, none⟩ = some (.int .i64 d) ∧ w4.cell? ⟨w.heap.size, 3, none⟩ = some (.int .i64 m) ∧ w4.cell? ⟨w.heap.size, 4, none⟩ = some (vm) ∧ w4.cell? ⟨w.heap.size, 5, none⟩ = some (.int .i64 (n : Int)) ∧ w4.cell? ⟨w.heap.size, 6, none⟩ = some (vg) ∧ w4.cell? ⟨w.heap.size, 7, none⟩ = some (.string T) ∧ w4.cell? ⟨w.heap.size, 8, none⟩ = some (.bool tO) ∧ w4.cell? ⟨w.heap.size, 9, none⟩ = some (.string H) ∧ w4.cell? ⟨w.heap.size, 10, none⟩ = some (.bool hO) ∧ w4.cell? ⟨w.heap.size, 11, none⟩ = some (vt) ∧ w4.cell? ⟨w.heap.size, 12, none⟩ = some (vb) from ⟨cell_keep hq hS.1, cell_keep hq hS.2.1, cell_keep hq hS.2.2.1, cell_keep hq hS.2.2.2.1, cell_keep hq hS.2.2.2.2.1, cell_keep hq hS.2.2.2.2.2.1, cell_keep hq hS.2.2.2.2.2.2.1, cell_keep hq hS.2.2.2.2.2.2.2.1, cell_keep hq hS.2.2.2.2.2.2.2.2.1, cell_keep hq hS.2.2.2.2.2.2.2.2.2.1, cell_keep hq hS.2.2.2.2.2.2.2.2.2.2.1, cell_keep hq hS.2.2.2.2.2.2.2.2.2.2.2.1, cell_keep hq hS.2.2.2.2.2.2.2.2.2.2.2.2⟩)
 have HR := Lib.hid (HR.out.below (hq.mono HB.out.size))
 have HOm := Lib.hid (HOm.out.below hq)
 have HLm := Lib.hid (fun k hk => Nat.lt_of_lt_of_le (HLm.out k hk) hq.size)
 have HAmb := Lib.hid (apart_of HLm0.out hu)
 have HOb := Lib.hid (hu.mono (base' := w.heap.size) HB.out.size)
 have HLb0 := Lib.hid (fun k hk => (hu.low k hk).2)
 have HLb := HLb0
 have HLm0 := HLm
 have HB := Lib.hid (HB.out.trans (hq.mono HB.out.size))
 clear hq hu
 refine hK.out _ _ hS (fun hHeld => ?_)
 clear hK K
 refine tkH 13 ?_ rfl (Or.inl ⟨by rfl, ?_⟩) ?_; rotate_left
 ·intro wq hSw; (try dsimp only at hSw); (try simp only [gT, gS, gZ]); go_simp; (try with_reducible rfl)
 simp only [Act.put, gT, gS, gZ, sT, sZ, sS]
 refine wpAnyH_ready (rs := [16]) (by kernel_rfl) (by simp) ?_
 refine AllReadyH.cons rfl (fun K hK => ?_) AllReadyH.nil
 (try simp only [gT, gS, gZ])
 go_simp
 go_at_call 46
 refine (copied_any _ gs _ w.heap.size HR.out.2.1 HB.out.size hl.2.1 HZ.out.2.1).mono ?_
 rintro e w5 ⟨⟨ug, rfl, hu⟩, hq⟩
 obtain ⟨Ag, Cg, hsh⟩ := hu.reads.shape
 subst hsh
 have hS := (show w5.cell? ⟨w.heap.size, 0, none⟩ = some (.int .i64 a) ∧ w5.cell? ⟨w.heap.size, 1, none⟩ = some (.int .i64 b) ∧ w5.cell? ⟨w.heap.size, 2, none⟩ = some (.int .i64 d) ∧ w5.cell? ⟨w.heap.size, 3, none⟩ = some (.int .i64 m) ∧ w5.cell? ⟨w.heap.size, 4, none⟩ = some (vm) ∧ w5.cell? ⟨w.heap.size, 5, none⟩ = some (.int .i64 (n : Int)) ∧ w5.cell? ⟨w.heap.size, 6, none⟩ = some (vg) ∧ w5.cell? ⟨w.heap.size, 7, none⟩ = some (.string T) ∧ w5.cell? ⟨w.heap.size, 8, none⟩ = some (.bool tO) ∧ w5.cell? ⟨w.heap.size, 9, none⟩ = some (.string H) ∧ w5.cell? ⟨w.heap.size, 10, none⟩ = some (.bool hO) ∧ w5.cell? ⟨w.heap.size, 11, none⟩ = some (vt) ∧ w5.cell? ⟨w.heap.size, 12, none⟩ = some (vb) from ⟨cell_keep hq hS.1, cell_keep hq hS.2.1, cell_keep hq hS.2.2.1, cell_keep hq hS.2.2.2.1, cell_keep hq hS.2.2.2.2.1, cell_keep hq hS.2.2.2.2.2.1, cell_keep hq hS.2.2.2.2.2.2.1, cell_keep hq hS.2.2.2.2.2.2.2.1, cell_keep hq hS.2.2.2.2.2.2.2.2.1, cell_keep hq hS.2.2.2.2.2.2.2.2.2.1, cell_keep hq hS.2.2.2.2.2.2.2.2.2.2.1, cell_keep hq hS.2.2.2.2.2.2.2.2.2.2.2.1, cell_keep hq hS.2.2.2.2.2.2.2.2.2.2.2.2⟩)
 have HR := Lib.hid (HR.out.below (hq.mono HB.out.size))
 have HOm := Lib.hid (HOm.out.below hq)
 have HLm := Lib.hid (fun k hk => Nat.lt_of_lt_of_le (HLm.out k hk) hq.size)
 have HOb := Lib.hid (HOb.out.below hq)
 have HLb := Lib.hid (fun k hk => Nat.lt_of_lt_of_le (HLb.out k hk) hq.size)
 have HAmg := Lib.hid (apart_of HLm0.out hu)
 have HAbg := Lib.hid (apart_of HLb0.out hu)
 have HOg := Lib.hid (hu.mono (base' := w.heap.size) HB.out.size)
 have HLg0 := Lib.hid (fun k hk => (hu.low k hk).2)
 have HLg := HLg0
 have HLm0 := HLm
 have HLb0 := HLb
 have HB := Lib.hid (HB.out.trans (hq.mono HB.out.size))
 clear hq hu
 refine hK.out _ _ hS (fun hHeld => ?_)
 clear hK K
 refine wpAnyH_ready (rs := [19]) (by kernel_rfl) (by simp) ?_
 refine AllReadyH.cons rfl (fun K hK => ?_) AllReadyH.nil
 (try simp only [gT, gS, gZ])
 go_simp
 go_at_call 64
 refine (copiedFind_any T tO _ hT).mono ?_
 rintro e w6 ⟨rfl, hq⟩
 have hS := (show w6.cell? ⟨w.heap.size, 0, none⟩ = some (.int .i64 a) ∧ w6.cell? ⟨w.heap.size, 1, none⟩ = some (.int .i64 b) ∧ w6.cell? ⟨w.heap.size, 2, none⟩ = some (.int .i64 d) ∧ w6.cell? ⟨w.heap.size, 3, none⟩ = some (.int .i64 m) ∧ w6.cell? ⟨w.heap.size, 4, none⟩ = some (vm) ∧ w6.cell? ⟨w.heap.size, 5, none⟩ = some (.int .i64 (n : Int)) ∧ w6.cell? ⟨w.heap.size, 6, none⟩ = some (vg) ∧ w6.cell? ⟨w.heap.size, 7, none⟩ = some (.string T) ∧ w6.cell? ⟨w.heap.size, 8, none⟩ = some (.bool tO) ∧ w6.cell? ⟨w.heap.size, 9, none⟩ = some (.string H) ∧ w6.cell? ⟨w.heap.size, 10, none⟩ = some (.bool hO) ∧ w6.cell? ⟨w.heap.size, 11, none⟩ = some (vt) ∧ w6.cell? ⟨w.heap.size, 12, none⟩ = some (vb) from ⟨cell_keep hq hS.1, cell_keep hq hS.2.1, cell_keep hq hS.2.2.1, cell_keep hq hS.2.2.2.1, cell_keep hq hS.2.2.2.2.1, cell_keep hq hS.2.2.2.2.2.1, cell_keep hq hS.2.2.2.2.2.2.1, cell_keep hq hS.2.2.2.2.2.2.2.1, cell_keep hq hS.2.2.2.2.2.2.2.2.1, cell_keep hq hS.2.2.2.2.2.2.2.2.2.1, cell_keep hq hS.2.2.2.2.2.2.2.2.2.2.1, cell_keep hq hS.2.2.2.2.2.2.2.2.2.2.2.1, cell_keep hq hS.2.2.2.2.2.2.2.2.2.2.2.2⟩)
 have HR := Lib.hid (HR.out.below (hq.mono HB.out.size))
 have HOm := Lib.hid (HOm.out.below hq)
 have HLm := Lib.hid (fun k hk => Nat.lt_of_lt_of_le (HLm.out k hk) hq.size)
 have HOb := Lib.hid (HOb.out.below hq)
 have HLb := Lib.hid (fun k hk => Nat.lt_of_lt_of_le (HLb.out k hk) hq.size)
 have HOg := Lib.hid (HOg.out.below hq)
 have HLg := Lib.hid (fun k hk => Nat.lt_of_lt_of_le (HLg.out k hk) hq.size)
 have HLm0 := HLm
 have HLb0 := HLb
 have HLg0 := HLg
 have HB := Lib.hid (HB.out.trans (hq.mono HB.out.size))
 clear hq
 refine hK.out _ _ hS (fun hHeld => ?_)
 clear hK K
 refine wpAnyH_ready (rs := [22]) (by kernel_rfl) (by simp) ?_
 refine AllReadyH.cons rfl (fun K hK => ?_) AllReadyH.nil
 (try simp only [gT, gS, gZ])
 go_simp
 go_at_call 46
 refine (copied_any _ ts _ w.heap.size HR.out.2.2.1 HB.out.size hl.2.2.1 HZ.out.2.2.1).mono ?_
 rintro e w7 ⟨⟨ut, rfl, hu⟩, hq⟩
 obtain ⟨At, Ct, hsh⟩ := hu.reads.shape
 subst hsh
 have hS := (show w7.cell? ⟨w.heap.size, 0, none⟩ = some (.int .i64 a) ∧ w7.cell? ⟨w.heap.size, 1, none⟩ = some (.int .i64 b) ∧ w7.cell? ⟨w.heap.size, 2, none⟩ = some (.int .i64 d) ∧ w7.cell? ⟨w.heap.size, 3, none⟩ = some (.int .i64 m) ∧ w7.cell? ⟨w.heap.size, 4, none⟩ = some (vm) ∧ w7.cell? ⟨w.heap.size, 5, none⟩ = some (.int .i64 (n : Int)) ∧ w7.cell? ⟨w.heap.size, 6, none⟩ = some (vg) ∧ w7.cell? ⟨w.heap.size, 7, none⟩ = some (.string T) ∧ w7.cell? ⟨w.heap.size, 8, none⟩ = some (.bool tO) ∧ w7.cell? ⟨w.heap.size, 9, none⟩ = some (.string H) ∧ w7.cell? ⟨w.heap.size, 10, none⟩ = some (.bool hO) ∧ w7.cell? ⟨w.heap.size, 11, none⟩ = some (vt) ∧ w7.cell? ⟨w.heap.size, 12, none⟩ = some (vb) from ⟨cell_keep hq hS.1, cell_keep hq hS.2.1, cell_keep hq hS.2.2.1, cell_keep hq hS.2.2.2.1, cell_keep hq hS.2.2.2.2.1, cell_keep hq hS.2.2.2.2.2.1, cell_keep hq hS.2.2.2.2.2.2.1, cell_keep hq hS.2.2.2.2.2.2.2.1, cell_keep hq hS.2.2.2.2.2.2.2.2.1, cell_keep hq hS.2.2.2.2.2.2.2.2.2.1, cell_keep hq hS.2.2.2.2.2.2.2.2.2.2.1, cell_keep hq hS.2.2.2.2.2.2.2.2.2.2.2.1, cell_keep hq hS.2.2.2.2.2.2.2.2.2.2.2.2⟩)
 have HR := Lib.hid (HR.out.below (hq.mono HB.out.size))
 have HOm := Lib.hid (HOm.out.below hq)
 have HLm := Lib.hid (fun k hk => Nat.lt_of_lt_of_le (HLm.out k hk) hq.size)
 have HOb := Lib.hid (HOb.out.below hq)
 have HLb := Lib.hid (fun k hk => Nat.lt_of_lt_of_le (HLb.out k hk) hq.size)
 have HOg := Lib.hid (HOg.out.below hq)
 have HLg := Lib.hid (fun k hk => Nat.lt_of_lt_of_le (HLg.out k hk) hq.size)
 have HAmt := Lib.hid (apart_of HLm0.out hu)
 have HAbt := Lib.hid (apart_of HLb0.out hu)
 have HAgt := Lib.hid (apart_of HLg0.out hu)
 have HOt := Lib.hid (hu.mono (base' := w.heap.size) HB.out.size)
 have HLt0 := Lib.hid (fun k hk => (hu.low k hk).2)
 have HLt := HLt0
 have HLm0 := HLm
 have HLb0 := HLb
 have HLg0 := HLg
 have HB := Lib.hid (HB.out.trans (hq.mono HB.out.size))
 clear hq hu
 refine hK.out _ _ hS (fun hHeld => ?_)
 clear hK K
 refine tkH 23 ?_ rfl (Or.inl ⟨by rfl, ?_⟩) ?_; rotate_left
 ·intro wq hSw; (try dsimp only at hSw); (try simp only [gT, gS, gZ]); go_simp; (try with_reducible rfl)
 simp only [Act.put, gT, gS, gZ, sT, sZ, sS]
 refine tkH 24 ?_ rfl (Or.inl ⟨by rfl, ?_⟩) ?_; rotate_left
 ·intro wq hSw; (try dsimp only at hSw); (try simp only [gT, gS, gZ]); go_simp; (try with_reducible rfl)
 simp only [Act.put, gT, gS, gZ, sT, sZ, sS]
 have hq : Below w7.heap.size w7 (w7.alloc (.cells #[.int .i64 a, .int .i64 b, .int .i64 d, .int .i64 m, .slice Am ms.length Cm, .int .i64 (n : Int), .string H, .bool hO, .slice Ab bs.length Cb, .slice Ag gs.length Cg, .string T, .bool tO, .slice At ts.length Ct] 92)) := (Below.refl _ _).alloc (Nat.le_refl _) _
 have hS := (show (w7.alloc (.cells #[.int .i64 a, .int .i64 b, .int .i64 d, .int .i64 m, .slice Am ms.length Cm, .int .i64 (n : Int), .string H, .bool hO, .slice Ab bs.length Cb, .slice Ag gs.length Cg, .string T, .bool tO, .slice At ts.length Ct] 92)).cell? ⟨w.heap.size, 0, none⟩ = some (.int .i64 a) ∧ (w7.alloc (.cells #[.int .i64 a, .int .i64 b, .int .i64 d, .int .i64 m, .slice Am ms.length Cm, .int .i64 (n : Int), .string H, .bool hO, .slice Ab bs.length Cb, .slice Ag gs.length Cg, .string T, .bool tO, .slice At ts.length Ct] 92)).cell? ⟨w.heap.size, 1, none⟩ = some (.int .i64 b) ∧ (w7.alloc (.cells #[.int .i64 a, .int .i64 b, .int .i64 d, .int .i64 m, .slice Am ms.length Cm, .int .i64 (n : Int), .string H, .bool hO, .slice Ab bs.length Cb, .slice Ag gs.length Cg, .string T, .bool tO, .slice At ts.length Ct] 92)).cell? ⟨w.heap.size, 2, none⟩ = some (.int .i64 d) ∧ (w7.alloc (.cells #[.int .i64 a, .int .i64 b, .int .i64 d, .int .i64 m, .slice Am ms.length Cm, .int .i64 (n : Int), .string H, .bool hO, .slice Ab bs.length Cb, .slice Ag gs.length Cg, .string T, .bool tO, .slice At ts.length Ct] 92)).cell? ⟨w.heap.size, 3, none⟩ = some (.int .i64 m) ∧ (w7.alloc (.cells #[.int .i64 a, .int .i64 b, .int .i64 d, .int .i64 m, .slice Am ms.length Cm, .int .i64 (n : Int), .string H, .bool hO, .slice Ab bs.length Cb, .slice Ag gs.length Cg, .string T, .bool tO, .slice At ts.length Ct] 92)).cell? ⟨w.heap.size, 4, none⟩ = some (vm) ∧ (w7.alloc (.cells #[.int .i64 a, .int .i64 b, .int .i64 d, .int .i64 m, .slice Am ms.length Cm, .int .i64 (n : Int), .string H, .bool hO, .slice Ab bs.length Cb, .slice Ag gs.length Cg, .string T, .bool tO, .slice At ts.length Ct] 92)).cell? ⟨w.heap.size, 5, none⟩ = some (.int .i64 (n : Int)) ∧ (w7.alloc (.cells #[.int .i64 a, .int .i64 b, .int .i64 d, .int .i64 m, .slice Am ms.length Cm, .int .i64 (n : Int), .string H, .bool hO, .slice Ab bs.length Cb, .slice Ag gs.length Cg, .string T, .bool tO, .slice At ts.length Ct] 92)).cell? ⟨w.heap.size, 6, none⟩ = some (vg) ∧ (w7.alloc (.cells #[.int .i64 a, .int .i64 b, .int .i64 d, .int .i64 m, .slice Am ms.length Cm, .int .i64 (n : Int), .string H, .bool hO, .slice Ab bs.length Cb, .slice Ag gs.length Cg, .string T, .bool tO, .slice At ts.length Ct] 92)).cell? ⟨w.heap.size, 7, none⟩ = some (.string T) ∧ (w7.alloc (.cells #[.int .i64 a, .int .i64 b, .int .i64 d, .int .i64 m, .slice Am ms.length Cm, .int .i64 (n : Int), .string H, .bool hO, .slice Ab bs.length Cb, .slice Ag gs.length Cg, .string T, .bool tO, .slice At ts.length Ct] 92)).cell? ⟨w.heap.size, 8, none⟩ = some (.bool tO) ∧ (w7.alloc (.cells #[.int .i64 a, .int .i64 b, .int .i64 d, .int .i64 m, .slice Am ms.length Cm, .int .i64 (n : Int), .string H, .bool hO, .slice Ab bs.length Cb, .slice Ag gs.length Cg, .string T, .bool tO, .slice At ts.length Ct] 92)).cell? ⟨w.heap.size, 9, none⟩ = some (.string H) ∧ (w7.alloc (.cells #[.int .i64 a, .int .i64 b, .int .i64 d, .int .i64 m, .slice Am ms.length Cm, .int .i64 (n : Int), .string H, .bool hO, .slice Ab bs.length Cb, .slice Ag gs.length Cg, .string T, .bool tO, .slice At ts.length Ct] 92)).cell? ⟨w.heap.size, 10, none⟩ = some (.bool hO) ∧ (w7.alloc (.cells #[.int .i64 a, .int .i64 b, .int .i64 d, .int .i64 m, .slice Am ms.length Cm, .int .i64 (n : Int), .string H, .bool hO, .slice Ab bs.length Cb, .slice Ag gs.length Cg, .string T, .bool tO, .slice At ts.length Ct] 92)).cell? ⟨w.heap.size, 11, none⟩ = some (vt) ∧ (w7.alloc (.cells #[.int .i64 a, .int .i64 b, .int .i64 d, .int .i64 m, .slice Am ms.length Cm, .int .i64 (n : Int), .string H, .bool hO, .slice Ab bs.length Cb, .slice Ag gs.length Cg, .string T, .bool tO, .slice At ts.length Ct] 92)).cell? ⟨w.heap.size, 12, none⟩ = some (vb) from ⟨cell_keep hq hS.1, cell_keep hq hS.2.1, cell_keep hq hS.2.2.1, cell_keep hq hS.2.2.2.1, cell_keep hq hS.2.2.2.2.1, cell_keep hq hS.2.2.2.2.2.1, cell_keep hq hS.2.2.2.2.2.2.1, cell_keep hq hS.2.2.2.2.2.2.2.1, cell_keep hq hS.2.2.2.2.2.2.2.2.1, cell_keep hq hS.2.2.2.2.2.2.2.2.2.1, cell_keep hq hS.2.2.2.2.2.2.2.2.2.2.1, cell_keep hq hS.2.2.2.2.2.2.2.2.2.2.2.1, cell_keep hq hS.2.2.2.2.2.2.2.2.2.2.2.2⟩)
 refine wpAnyH_ready (rs := [25]) (by kernel_rfl) (by simp) ?_
 refine AllReadyH.cons rfl (fun K hK => ?_) AllReadyH.nil
 (try simp only [gT, gS, gZ])
 skip
 go_simp
 skip
 refine hK.out _ _ hS (fun hHeld => ?_)
 clear hK K
 refine tkH 26 ?_ rfl (Or.inl ⟨by rfl, ?_⟩) ?_; rotate_left
 ·intro wq hSw; (try dsimp only at hSw); (try simp only [gT, gS, gZ]); go_simp; (try with_reducible rfl)
 simp only [Act.put, gT, gS, gZ, sT, sZ, sS]
 refine wpAnyH_done (by kernel_rfl) ?_ _
 clear hS
 go_wp2
 go_ret
 refine ⟨w7.heap.size, _, _, _, _, rfl, ⟨HB.out.size, Nat.le_trans HB.out.size hq.size, BK.new w7 _ _, HOm.out.below hq, HOb.out.below hq, HOg.out.below hq, HOt.out.below hq, ⟨⟨HAmg.out.1, HAmt.out.1, HAmb.out.1⟩, ⟨HAmg.out.2, HAgt.out.1, HAbg.out.2⟩, ⟨HAmt.out.2, HAgt.out.2, HAbt.out.2⟩, ⟨HAmb.out.2, HAbg.out.1, HAbt.out.1⟩⟩⟩, HB.out.trans (hq.mono HB.out.size)⟩
end Go.Proofs.YtmggoiabcboaiaaGreat
