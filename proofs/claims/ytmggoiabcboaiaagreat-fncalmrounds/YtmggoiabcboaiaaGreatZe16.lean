/- Parts of a proof, 16: LkC LkW LkP LkD. -/
import Derived.Test.YtmggoiabcboaiaaGreatZe1
import Derived.Test.YtmggoiabcboaiaaGreatZe2
import Derived.Test.YtmggoiabcboaiaaGreatZe3
import Derived.Test.YtmggoiabcboaiaaGreatZe4
import Derived.Test.YtmggoiabcboaiaaGreatZe5
import Derived.Test.YtmggoiabcboaiaaGreatZe6
import Derived.Test.YtmggoiabcboaiaaGreatZe7
import Derived.Test.YtmggoiabcboaiaaGreatZe8
import Derived.Test.YtmggoiabcboaiaaGreatZe9
import Derived.Test.YtmggoiabcboaiaaGreatZe10
import Derived.Test.YtmggoiabcboaiaaGreatZe11
import Derived.Test.YtmggoiabcboaiaaGreatZe12
import Derived.Test.YtmggoiabcboaiaaGreatZe13
import Derived.Test.YtmggoiabcboaiaaGreatZe14
import Derived.Test.YtmggoiabcboaiaaGreatZe15
namespace Go.Proofs.YtmggoiabcboaiaaGreat
open Go.ChangeShapes Go.WideShapes Go.ChangeAt Go.RowKit
set_option linter.unusedVariables false
set_option maxRecDepth 100000 in
set_option maxHeartbeats 2000000 in
theorem confirm_other (g i : Nat) (cs : Array Value) (t : TypeId) (am : Option Addr) (lm cm n : Nat) (A : ByteArray) (w : World) (hk : BK w g cs t) (h0 : cs[i]? = some (.slice am lm cm)) (h1 : cs[i + 1]? = some (.int .i64 n)) (hn : n ≤ 1000000) (hl : lm ≤ 1000000) (hA : A.size ≤ 1000000) (hq : A ≠ ⟨#[parB n]⟩) :
  Calls Tryz.prog 92 #[.pointer (some ⟨g, i, none⟩), .string A] w fun e w' => e = .returned (.tuple #[]) ∧ Below w.heap.size w w' := by
 obtain ⟨E, hE⟩ : ∃ E : ByteArray, E = ⟨#[parB n]⟩ := ⟨_, rfl⟩
 have HE := Lib.hid hE
 have hq2 : (A.toList == E.toList) = false := beq_eq_false_iff_ne.2 (by
  rw [Lib.toList_data, Lib.toList_data]
  intro e
  apply hq
  rw [← hE, ← Lib.mk_data A, e, Lib.mk_data])
 clear hq
 have hS : w.drew.cell? ⟨g, i, none⟩ = some (.slice am lm cm) ∧ w.drew.cell? ⟨g, i + 1, none⟩ = some (.int .i64 n) := ⟨hk.cell h0, hk.cell h1⟩
 have HK := Lib.hid hk
 have H1 := Lib.hid h1
 clear hk h0 h1 hE
 go_enter Tryz.func92, Tryz.ntmps92
 go_wp2_with fail
 refine wp_region_held_drew (S := (fun wx => wx.cell? ⟨g, i, none⟩ = some (.slice am lm cm) ∧ wx.cell? ⟨g, i + 1, none⟩ = some (.int .i64 n))) (by kernel_rfl) hS (fun hHeld => ?_)
 refine tkH 0 ?_ rfl (Or.inl ⟨by rfl, ?_⟩) ?_; rotate_left
 ·intro wq hSw; (try dsimp only at hSw); (try simp only [gT, gZ]); go_simp; (try with_reducible rfl)
 simp only [Act.put, gT, gZ, sT, sZ, sS]
 refine tkH 1 ?_ rfl (Or.inl ⟨by rfl, ?_⟩) ?_; rotate_left
 ·intro wq hSw; (try dsimp only at hSw); (try simp only [gT, gS, gZ]); go_simp; (try with_reducible rfl)
 simp only [Act.put, gT, gS, gZ, sT, sZ, sS]
 refine tkH 2 ?_ rfl (Or.inl ⟨by rfl, ?_⟩) ?_; rotate_left
 ·intro wq hSw; (try dsimp only at hSw); (try simp only [gT, gS, gZ]); go_simp; (try with_reducible rfl)
 simp only [Act.put, gT, gS, gZ, sT, sZ, sS]
 refine tkH 3 ?_ rfl (Or.inl ⟨by rfl, ?_⟩) ?_; rotate_left
 ·intro wq hSw; (try dsimp only at hSw); (try simp only [gT, gS, gZ]); go_simp; (try with_reducible rfl)
 simp only [Act.put, gT, gS, gZ, sT, sZ, sS]
 refine tkH 4 ?_ rfl (Or.inl ⟨by rfl, ?_⟩) ?_; rotate_left
 ·intro wq hSw; (try dsimp only at hSw); (try simp only [gT, gS, gZ]); go_simp; (try with_reducible rfl)
 simp only [Act.put, gT, gS, gZ, sT, sZ, sS]
 refine wpAnyH_ready (rs := [5]) (by kernel_rfl) (by simp) ?_
 refine AllReadyH.cons rfl (fun K hK => ?_) AllReadyH.nil
 (try simp only [gT, gS, gZ])
 go_simp
 go_at_call 88
 refine (parity_any n _ (by omega)).mono ?_
 rintro e w1 ⟨rfl, rfl⟩
 rw [← HE.out]
 refine hK.out _ _ hS (fun hHeld => ?_)
 clear hK K
 refine tkH 6 ?_ rfl (Or.inl ⟨by rfl, ?_⟩) ?_; rotate_left
 ·intro wq hSw; (try dsimp only at hSw); (try simp only [gT, gS, gZ]); go_simp; (try with_reducible rfl)
 simp only [Act.put, gT, gS, gZ, sT, sZ, sS]
 refine tkH 7 ?_ rfl (Or.inl ⟨by rfl, ?_⟩) ?_; rotate_left
 ·intro wq hSw; (try dsimp only at hSw); (try simp only [gT, gS, gZ]); go_simp; (try with_reducible rfl)
 simp only [Act.put, gT, gS, gZ, sT, sZ, sS]
 refine tkH 8 undef rfl (Or.inr ⟨by rfl, rfl⟩) ?_
 simp only [Act.put, gT, gS, gZ, sT, sZ, sS]
 refine tkH 9 undef rfl (Or.inr ⟨by rfl, rfl⟩) ?_
 simp only [Act.put, gT, gS, gZ, sT, sZ, sS]
 refine tkH 10 undef rfl (Or.inr ⟨by rfl, rfl⟩) ?_
 simp only [Act.put, gT, gS, gZ, sT, sZ, sS]
 refine tkH 11 undef rfl (Or.inr ⟨by rfl, rfl⟩) ?_
 simp only [Act.put, gT, gS, gZ, sT, sZ, sS]
 refine tkH 12 undef rfl (Or.inr ⟨by rfl, rfl⟩) ?_
 simp only [Act.put, gT, gS, gZ, sT, sZ, sS]
 refine tkH 13 undef rfl (Or.inr ⟨by rfl, rfl⟩) ?_
 simp only [Act.put, gT, gS, gZ, sT, sZ, sS]
 refine tkH 14 undef rfl (Or.inr ⟨by rfl, rfl⟩) ?_
 simp only [Act.put, gT, gS, gZ, sT, sZ, sS]
 refine tkH 15 undef rfl (Or.inr ⟨by rfl, rfl⟩) ?_
 simp only [Act.put, gT, gS, gZ, sT, sZ, sS]
 refine tkH 16 undef rfl (Or.inr ⟨by rfl, rfl⟩) ?_
 simp only [Act.put, gT, gS, gZ, sT, sZ, sS]
 refine tkH 17 undef rfl (Or.inr ⟨by rfl, rfl⟩) ?_
 simp only [Act.put, gT, gS, gZ, sT, sZ, sS]
 refine tkH 18 ?_ rfl (Or.inl ⟨by rfl, ?_⟩) ?_; rotate_left
 ·intro wq hSw; (try dsimp only at hSw); (try simp only [gT, gS, gZ]); go_simp; (try with_reducible rfl)
 simp only [Act.put, gT, gS, gZ, sT, sZ, sS]
 refine wpAnyH_done (by kernel_rfl) ?_ _
 go_wp2
 go_end0
 exact ⟨rfl, (Below.refl _ _).drew⟩
set_option maxRecDepth 100000 in
set_option maxHeartbeats 2000000 in
theorem confirm_last (g i : Nat) (cs : Array Value) (t : TypeId) (am : Option Addr) (lm cm n : Nat) (A : ByteArray) (w : World) (hk : BK w g cs t) (h0 : cs[i]? = some (.slice am lm cm)) (h1 : cs[i + 1]? = some (.int .i64 n)) (hn : n ≤ 1000000) (hl : lm ≤ 1000000) (hA : A.size ≤ 1000000) (hq : A = ⟨#[parB n]⟩) (hm : ¬ n < lm) :
  Calls Tryz.prog 92 #[.pointer (some ⟨g, i, none⟩), .string A] w fun e w' => e = .returned (.tuple #[]) ∧ Below w.heap.size w w' := by
 obtain ⟨E, hE⟩ : ∃ E : ByteArray, E = ⟨#[parB n]⟩ := ⟨_, rfl⟩
 have HE := Lib.hid hE
 have hq2 : (A.toList == E.toList) = true := by rw [hq, hE]; simp
 clear hq
 have hS : w.drew.cell? ⟨g, i, none⟩ = some (.slice am lm cm) ∧ w.drew.cell? ⟨g, i + 1, none⟩ = some (.int .i64 n) := ⟨hk.cell h0, hk.cell h1⟩
 have HK := Lib.hid hk
 have H1 := Lib.hid h1
 clear hk h0 h1 hE
 go_enter Tryz.func92, Tryz.ntmps92
 go_wp2_with fail
 refine wp_region_held_drew (S := (fun wx => wx.cell? ⟨g, i, none⟩ = some (.slice am lm cm) ∧ wx.cell? ⟨g, i + 1, none⟩ = some (.int .i64 n))) (by kernel_rfl) hS (fun hHeld => ?_)
 refine tkH 0 ?_ rfl (Or.inl ⟨by rfl, ?_⟩) ?_; rotate_left
 ·intro wq hSw; (try dsimp only at hSw); (try simp only [gT, gZ]); go_simp; (try with_reducible rfl)
 simp only [Act.put, gT, gZ, sT, sZ, sS]
 refine tkH 1 ?_ rfl (Or.inl ⟨by rfl, ?_⟩) ?_; rotate_left
 ·intro wq hSw; (try dsimp only at hSw); (try simp only [gT, gS, gZ]); go_simp; (try with_reducible rfl)
 simp only [Act.put, gT, gS, gZ, sT, sZ, sS]
 refine tkH 2 ?_ rfl (Or.inl ⟨by rfl, ?_⟩) ?_; rotate_left
 ·intro wq hSw; (try dsimp only at hSw); (try simp only [gT, gS, gZ]); go_simp; (try with_reducible rfl)
 simp only [Act.put, gT, gS, gZ, sT, sZ, sS]
 refine tkH 3 ?_ rfl (Or.inl ⟨by rfl, ?_⟩) ?_; rotate_left
 ·intro wq hSw; (try dsimp only at hSw); (try simp only [gT, gS, gZ]); go_simp; (try with_reducible rfl)
 simp only [Act.put, gT, gS, gZ, sT, sZ, sS]
 refine tkH 4 ?_ rfl (Or.inl ⟨by rfl, ?_⟩) ?_; rotate_left
 ·intro wq hSw; (try dsimp only at hSw); (try simp only [gT, gS, gZ]); go_simp; (try with_reducible rfl)
 simp only [Act.put, gT, gS, gZ, sT, sZ, sS]
 refine wpAnyH_ready (rs := [5]) (by kernel_rfl) (by simp) ?_
 refine AllReadyH.cons rfl (fun K hK => ?_) AllReadyH.nil
 (try simp only [gT, gS, gZ])
 go_simp
 go_at_call 88
 refine (parity_any n _ (by omega)).mono ?_
 rintro e w1 ⟨rfl, rfl⟩
 rw [← HE.out]
 refine hK.out _ _ hS (fun hHeld => ?_)
 clear hK K
 refine tkH 6 ?_ rfl (Or.inl ⟨by rfl, ?_⟩) ?_; rotate_left
 ·intro wq hSw; (try dsimp only at hSw); (try simp only [gT, gS, gZ]); go_simp; (try with_reducible rfl)
 simp only [Act.put, gT, gS, gZ, sT, sZ, sS]
 refine tkH 7 ?_ rfl (Or.inl ⟨by rfl, ?_⟩) ?_; rotate_left
 ·intro wq hSw; (try dsimp only at hSw); (try simp only [gT, gS, gZ]); go_simp; (try with_reducible rfl)
 simp only [Act.put, gT, gS, gZ, sT, sZ, sS]
 refine tkH 8 ?_ rfl (Or.inl ⟨by rfl, ?_⟩) ?_; rotate_left
 ·intro wq hSw; (try dsimp only at hSw); (try simp only [gT, gS, gZ]); go_simp; (try with_reducible rfl)
 simp only [Act.put, gT, gS, gZ, sT, sZ, sS]
 refine tkH 9 ?_ rfl (Or.inl ⟨by rfl, ?_⟩) ?_; rotate_left
 ·intro wq hSw; (try dsimp only at hSw); (try simp only [gT, gS, gZ]); go_simp; (try with_reducible rfl)
 simp only [Act.put, gT, gS, gZ, sT, sZ, sS]
 refine tkH 10 ?_ rfl (Or.inl ⟨by rfl, ?_⟩) ?_; rotate_left
 ·intro wq hSw; (try dsimp only at hSw); (try simp only [gT, gS, gZ]); go_simp; (try with_reducible rfl)
 simp only [Act.put, gT, gS, gZ, sT, sZ, sS]
 refine tkH 11 ?_ rfl (Or.inl ⟨by rfl, ?_⟩) ?_; rotate_left
 ·intro wq hSw; (try dsimp only at hSw); (try simp only [gT, gS, gZ]); go_simp; (try with_reducible rfl)
 simp only [Act.put, gT, gS, gZ, sT, sZ, sS]
 refine tkH 12 ?_ rfl (Or.inl ⟨by rfl, ?_⟩) ?_; rotate_left
 ·intro wq hSw; (try dsimp only at hSw); (try simp only [gT, gS, gZ]); go_simp; (try with_reducible rfl)
 simp only [Act.put, gT, gS, gZ, sT, sZ, sS]
 refine tkH 13 ?_ rfl (Or.inl ⟨by rfl, ?_⟩) ?_; rotate_left
 ·intro wq hSw; (try dsimp only at hSw); (try simp only [gT, gS, gZ]); go_simp; (try with_reducible rfl)
 simp only [Act.put, gT, gS, gZ, sT, sZ, sS]
 refine tkH 14 ?_ rfl (Or.inl ⟨by rfl, ?_⟩) ?_; rotate_left
 ·intro wq hSw; (try dsimp only at hSw); (try simp only [gT, gS, gZ]); go_simp; (try with_reducible rfl)
 simp only [Act.put, gT, gS, gZ, sT, sZ, sS]
 refine tkH 15 ?_ rfl (Or.inl ⟨by rfl, ?_⟩) ?_; rotate_left
 ·intro wq hSw; (try dsimp only at hSw); (try simp only [gT, gS, gZ]); go_simp; (try with_reducible rfl)
 simp only [Act.put, gT, gS, gZ, sT, sZ, sS]
 refine tkH 16 ?_ rfl (Or.inl ⟨by rfl, ?_⟩) ?_; rotate_left
 ·intro wq hSw; (try dsimp only at hSw); (try simp only [gT, gS, gZ]); go_simp; (try with_reducible rfl)
 simp only [Act.put, gT, gS, gZ, sT, sZ, sS]
 refine tkH 17 ?_ rfl (Or.inl ⟨by rfl, ?_⟩) ?_; rotate_left
 ·intro wq hSw; (try dsimp only at hSw); (try simp only [gT, gS, gZ]); go_simp; (try with_reducible rfl)
 simp only [Act.put, gT, gS, gZ, sT, sZ, sS]
 refine tkH 18 ?_ rfl (Or.inl ⟨by rfl, ?_⟩) ?_; rotate_left
 ·intro wq hSw; (try dsimp only at hSw); (try simp only [gT, gS, gZ]); go_simp; (try with_reducible rfl)
 simp only [Act.put, gT, gS, gZ, sT, sZ, sS]
 refine wpAnyH_done (by kernel_rfl) ?_ _
 go_wp2
 go_end0
 exact ⟨rfl, (Below.refl _ _).drew⟩
set_option maxRecDepth 100000 in
set_option maxHeartbeats 2000000 in
theorem confirm_next (g i : Nat) (cs : Array Value) (t : TypeId) (am : Option Addr) (lm cm n : Nat) (A : ByteArray) (w : World) (hk : BK w g cs t) (h0 : cs[i]? = some (.slice am lm cm)) (h1 : cs[i + 1]? = some (.int .i64 n)) (hn : n ≤ 1000000) (hl : lm ≤ 1000000) (hA : A.size ≤ 1000000) (hq : A = ⟨#[parB n]⟩) (hm : n < lm) :
  Calls Tryz.prog 92 #[.pointer (some ⟨g, i, none⟩), .string A] w fun e w' => e = .returned (.tuple #[]) ∧ BK w' g (cs.setIfInBounds (i + 1) (.int .i64 ((n + 1 : Nat) : Int))) t ∧ w' = w.drew.setCell ⟨g, i + 1, none⟩ (.int .i64 ((n + 1 : Nat) : Int)) := by
 obtain ⟨E, hE⟩ : ∃ E : ByteArray, E = ⟨#[parB n]⟩ := ⟨_, rfl⟩
 have HE := Lib.hid hE
 have hq2 : (A.toList == E.toList) = true := by rw [hq, hE]; simp
 have f1 := hk.free (i + 1)
 have c1 := hk.cell h1
 clear hq
 have hS : w.drew.cell? ⟨g, i, none⟩ = some (.slice am lm cm) ∧ w.drew.cell? ⟨g, i + 1, none⟩ = some (.int .i64 n) := ⟨hk.cell h0, hk.cell h1⟩
 have HK := Lib.hid hk
 have H1 := Lib.hid h1
 clear hk h0 h1 hE
 go_enter Tryz.func92, Tryz.ntmps92
 go_wp2_with fail
 refine wp_region_held_drew (S := (fun wx => wx.cell? ⟨g, i, none⟩ = some (.slice am lm cm) ∧ wx.cell? ⟨g, i + 1, none⟩ = some (.int .i64 n))) (by kernel_rfl) hS (fun hHeld => ?_)
 refine tkH 0 ?_ rfl (Or.inl ⟨by rfl, ?_⟩) ?_; rotate_left
 ·intro wq hSw; (try dsimp only at hSw); (try simp only [gT, gZ]); go_simp; (try with_reducible rfl)
 simp only [Act.put, gT, gZ, sT, sZ, sS]
 refine tkH 1 ?_ rfl (Or.inl ⟨by rfl, ?_⟩) ?_; rotate_left
 ·intro wq hSw; (try dsimp only at hSw); (try simp only [gT, gS, gZ]); go_simp; (try with_reducible rfl)
 simp only [Act.put, gT, gS, gZ, sT, sZ, sS]
 refine tkH 2 ?_ rfl (Or.inl ⟨by rfl, ?_⟩) ?_; rotate_left
 ·intro wq hSw; (try dsimp only at hSw); (try simp only [gT, gS, gZ]); go_simp; (try with_reducible rfl)
 simp only [Act.put, gT, gS, gZ, sT, sZ, sS]
 refine tkH 3 ?_ rfl (Or.inl ⟨by rfl, ?_⟩) ?_; rotate_left
 ·intro wq hSw; (try dsimp only at hSw); (try simp only [gT, gS, gZ]); go_simp; (try with_reducible rfl)
 simp only [Act.put, gT, gS, gZ, sT, sZ, sS]
 refine tkH 4 ?_ rfl (Or.inl ⟨by rfl, ?_⟩) ?_; rotate_left
 ·intro wq hSw; (try dsimp only at hSw); (try simp only [gT, gS, gZ]); go_simp; (try with_reducible rfl)
 simp only [Act.put, gT, gS, gZ, sT, sZ, sS]
 refine wpAnyH_ready (rs := [5]) (by kernel_rfl) (by simp) ?_
 refine AllReadyH.cons rfl (fun K hK => ?_) AllReadyH.nil
 (try simp only [gT, gS, gZ])
 go_simp
 go_at_call 88
 refine (parity_any n _ (by omega)).mono ?_
 rintro e w1 ⟨rfl, rfl⟩
 rw [← HE.out]
 refine hK.out _ _ hS (fun hHeld => ?_)
 clear hK K
 refine tkH 6 ?_ rfl (Or.inl ⟨by rfl, ?_⟩) ?_; rotate_left
 ·intro wq hSw; (try dsimp only at hSw); (try simp only [gT, gS, gZ]); go_simp; (try with_reducible rfl)
 simp only [Act.put, gT, gS, gZ, sT, sZ, sS]
 refine tkH 7 ?_ rfl (Or.inl ⟨by rfl, ?_⟩) ?_; rotate_left
 ·intro wq hSw; (try dsimp only at hSw); (try simp only [gT, gS, gZ]); go_simp; (try with_reducible rfl)
 simp only [Act.put, gT, gS, gZ, sT, sZ, sS]
 refine tkH 8 ?_ rfl (Or.inl ⟨by rfl, ?_⟩) ?_; rotate_left
 ·intro wq hSw; (try dsimp only at hSw); (try simp only [gT, gS, gZ]); go_simp; (try with_reducible rfl)
 simp only [Act.put, gT, gS, gZ, sT, sZ, sS]
 refine tkH 9 ?_ rfl (Or.inl ⟨by rfl, ?_⟩) ?_; rotate_left
 ·intro wq hSw; (try dsimp only at hSw); (try simp only [gT, gS, gZ]); go_simp; (try with_reducible rfl)
 simp only [Act.put, gT, gS, gZ, sT, sZ, sS]
 refine tkH 10 ?_ rfl (Or.inl ⟨by rfl, ?_⟩) ?_; rotate_left
 ·intro wq hSw; (try dsimp only at hSw); (try simp only [gT, gS, gZ]); go_simp; (try with_reducible rfl)
 simp only [Act.put, gT, gS, gZ, sT, sZ, sS]
 refine tkH 11 ?_ rfl (Or.inl ⟨by rfl, ?_⟩) ?_; rotate_left
 ·intro wq hSw; (try dsimp only at hSw); (try simp only [gT, gS, gZ]); go_simp; (try with_reducible rfl)
 simp only [Act.put, gT, gS, gZ, sT, sZ, sS]
 refine tkH 12 ?_ rfl (Or.inl ⟨by rfl, ?_⟩) ?_; rotate_left
 ·intro wq hSw; (try dsimp only at hSw); (try simp only [gT, gS, gZ]); go_simp; (try with_reducible rfl)
 simp only [Act.put, gT, gS, gZ, sT, sZ, sS]
 refine tkH 13 ?_ rfl (Or.inl ⟨by rfl, ?_⟩) ?_; rotate_left
 ·intro wq hSw; (try dsimp only at hSw); (try simp only [gT, gS, gZ]); go_simp; (try with_reducible rfl)
 simp only [Act.put, gT, gS, gZ, sT, sZ, sS]
 refine tkH 14 ?_ rfl (Or.inl ⟨by rfl, ?_⟩) ?_; rotate_left
 ·intro wq hSw; (try dsimp only at hSw); (try simp only [gT, gS, gZ]); go_simp; (try with_reducible rfl)
 simp only [Act.put, gT, gS, gZ, sT, sZ, sS]
 refine tkH 15 ?_ rfl (Or.inl ⟨by rfl, ?_⟩) ?_; rotate_left
 ·intro wq hSw; (try dsimp only at hSw); (try simp only [gT, gS, gZ]); go_simp; (try with_reducible rfl)
 simp only [Act.put, gT, gS, gZ, sT, sZ, sS]
 refine tkH 16 ?_ rfl (Or.inl ⟨by rfl, ?_⟩) ?_; rotate_left
 ·intro wq hSw; (try dsimp only at hSw); (try simp only [gT, gS, gZ]); go_simp; (try with_reducible rfl)
 simp only [Act.put, gT, gS, gZ, sT, sZ, sS]
 refine tkH 17 ?_ rfl (Or.inl ⟨by rfl, ?_⟩) ?_; rotate_left
 ·intro wq hSw; (try dsimp only at hSw); (try simp only [gT, gS, gZ]); go_simp; (try with_reducible rfl)
 simp only [Act.put, gT, gS, gZ, sT, sZ, sS]
 refine tkH 18 ?_ rfl (Or.inl ⟨by rfl, ?_⟩) ?_; rotate_left
 ·intro wq hSw; (try dsimp only at hSw); (try simp only [gT, gS, gZ]); go_simp; (try with_reducible rfl)
 simp only [Act.put, gT, gS, gZ, sT, sZ, sS]
 refine wpAnyH_done (by kernel_rfl) ?_ _
 go_wp2
 go_end0
 exact ⟨rfl, HK.out.drew.set (i + 1) _, rfl⟩
def framesL (l : List Ev) : List ByteArray := (l.filter fun e => decide (e.kind = 1)).map fun e => ⟨e.text.toArray⟩
theorem framesL_snoc (l : List Ev) (e : Ev) : framesL (l ++ [e]) = framesL l ++ if e.kind = 1 then [⟨e.text.toArray⟩] else [] := by
 unfold framesL
 rw [List.filter_append, List.map_append]
 by_cases h : e.kind = 1 <;> simp [h]
theorem framesL_len (l : List Ev) : (framesL l).length ≤ l.length := by
 unfold framesL
 rw [List.length_map]
 exact List.length_filter_le _ _
theorem row_apart' {w : World} {b b' : Nat} {v v' : Value} {l : List ByteArray} {l' : List Ev} (h : OS w b v l) (h' : OE w b' v' l') : v'.ownBlock = none ∨ v'.ownBlock ≠ v.ownBlock := by
 rcases h'.2 with ⟨rfl, _⟩ | ⟨g, cap, cur, rfl, _, hg, _⟩
 ·exact .inl rfl
 ·rcases h.2 with ⟨rfl, _⟩ | ⟨g', cap', cur', rfl, _, hg', _⟩
  ·exact .inr (by simp [Value.ownBlock])
  ·have hne : g ≠ g' := by
    rintro rfl
    rw [hg] at hg'
    injection hg' with e
    injection e with _ e2 _
    exact absurd e2 (by decide)
   exact .inr (by simp [Value.ownBlock]; exact hne)
def FramesPost (w : World) (p : Fd × List Ev) (e : Ending) (w' : World) : Prop := ∃ v, e = .returned (.tuple #[fdL p.1, v]) ∧ OS w' w.heap.size v (framesL p.2) ∧ Below w.heap.size w w'
set_option maxRecDepth 100000 in
set_option maxHeartbeats 4000000 in
theorem framesOf_any (a b d m : Int) (H : ByteArray) (o : Bool) (s : ByteArray) (w : World) (wa : (Lit.int .i64 a).wf = true) (hok : okF ⟨a, b, d, m⟩ ⟨H.data.toList, o⟩ = true) (hs : s.size ≤ 1048576) :
  Calls Tryz.prog 90 #[cfV a b d m, fdV H o, .string s] w (FramesPost w (ffeed ⟨a, b, d, m⟩ ⟨H.data.toList, o⟩ s.data.toList)) := by
 obtain ⟨i0, hi0, hz0, hz1, hz2⟩ := info_parts info_str
 have HI := Lib.hid hi0
 have HZ0 := Lib.hid hz0
 have HZ1 := Lib.hid hz1
 have HZ2 := Lib.hid hz2
 have hz := zero_find
 have hze := zero_event
 have hlen := ffeed_len ⟨a, b, d, m⟩ s.data.toList ⟨H.data.toList, o⟩
 rw [size_list] at hlen
 have HFD := Lib.hid (fun W => feedAny_any a b d m H o s W wa hok hs)
 generalize ffeed ⟨a, b, d, m⟩ ⟨H.data.toList, o⟩ s.data.toList = p at *
 obtain ⟨⟨Xl, y⟩, evs⟩ := p
 obtain ⟨X, rfl⟩ : ∃ X : ByteArray, X.data.toList = Xl := ⟨⟨Xl.toArray⟩, rfl⟩
 simp only at hlen
 have hq := BK.new ((w.alloc (.cells #[.int .i64 a, .int .i64 b, .int .i64 d, .int .i64 m] 24)).alloc (.cells #[.string H, .bool o] 30)) #[.string ⟨#[]⟩, .bool false] 30
 rw [World.size_alloc, World.size_alloc] at hq
 have HQ := Lib.hid hq
 have HB := Lib.hid (show Below w.heap.size w (((w.alloc (.cells #[.int .i64 a, .int .i64 b, .int .i64 d, .int .i64 m] 24)).alloc (.cells #[.string H, .bool o] 30)).alloc (.cells #[.string ⟨#[]⟩, .bool false] 30)) from (((Below.refl _ w).alloc (Nat.le_refl _) _).alloc (by simp) _).alloc (by simp; omega) _)
 clear hi0 hz0 hz1 hz2 hq
 go_enter Tryz.func90, Tryz.ntmps90
 go_wp2_with fail
 refine (HFD.out _).mono ?_
 rintro e w1 ⟨v1, rfl, hoe, hb1⟩
 simp only [fdL, Lib.mk_data]
 obtain ⟨A1, cap1, hsh⟩ := hoe.reads.shape
 subst hsh
 have hk1 := BK.new w1 #[.string X, .bool y] 30
 have HK := Lib.hid hk1
 have HQ := Lib.hid ((HQ.out.from hb1).alloc (.cells #[.string X, .bool y] 30))
 have HOE := Lib.hid (hoe.alloc' (.cells #[.string X, .bool y] 30))
 have HS1 := Lib.hid (show w.heap.size + 3 ≤ w1.heap.size by have h9 := hb1.size; simp at h9; omega)
 have HB := Lib.hid ((HB.out.trans (hb1.mono HB.out.size)).alloc (Nat.le_trans HB.out.size hb1.size) (.cells #[.string X, .bool y] 30))
 clear hoe hb1 hk1
 go_wp2
 go_loopw [8, 22] (fun u j wr => ∃ k : Nat, k ≤ evs.length ∧ j = .int .i64 k ∧ OS wr w1.heap.size u (framesL (evs.take k)) ∧ BK wr w1.heap.size #[.string X, .bool y] 30 ∧ BK wr (w.heap.size + 2) #[.string ⟨#[]⟩, .bool false] 30 ∧ OE wr _ (.slice A1 evs.length cap1) evs ∧ Below w.heap.size w wr) (fun _ j _ => evs.length - (intOf j).toNat)
 case atStart => exact ⟨0, Nat.zero_le _, rfl, OS_nil _ _, HK.out, HQ.out, HOE.out, HB.out⟩
 case round =>
  obtain ⟨k, hk, rfl, hof, hkk, hqq, hoe, hbb⟩ := hrel
  have HOF := Lib.hid hof
  have HKr := Lib.hid hkk
  have HQr := Lib.hid hqq
  have HOEr := Lib.hid hoe
  have HBr := Lib.hid hbb
  have hfl := framesL_len (evs.take k)
  have htl : (evs.take k).length ≤ k := List.length_take_le _ _
  by_cases hlt : k < evs.length
  ·obtain ⟨gv, hgv, _, _, c0, c1⟩ := RE.at_ hoe.reads hlt
   subst hgv
   have HFS := Lib.hid (show framesL (evs.take (k + 1)) = framesL (evs.take k) ++ if evs[k].kind = 1 then [⟨evs[k].text.toArray⟩] else [] by rw [List.take_succ_eq_append_getElem hlt, framesL_snoc])
   clear hof hkk hqq hoe hbb HK HQ HOE HB
   generalize evs[k].kind = kd at *
   generalize (⟨evs[k].text.toArray⟩ : ByteArray) = tx at *
   have hbs := HBr.out.size
   have hws := HKr.out.lt
   by_cases hkd : kd = 1
   ·subst hkd
    rw [if_pos rfl] at HFS
    go_wp2_with (at_builtin; refine wpList_append_os _ rfl _ _ 25 rfl w1.heap.size i0 Tryz.underlying25 HI.out HZ0.out HZ1.out HZ2.out _ (framesL (evs.take k)) rfl ((HOF.out.alloc _).alloc _) _ _ [tx] rfl (RS_one (wr.alloc (.cells #[.int .i64 1, .string tx] 111)) tx (g := wr.heap.size + 1) (by simp)) (by simp; omega) (by simp; omega) ?_; intro v3 w3 hown3 hg3 _)
    have HO3 := Lib.hid hown3
    have HK3 := Lib.hid (((HKr.out.alloc (.cells #[.int .i64 1, .string tx] 111)).alloc (.cells #[.string tx] 9)).os (by decide) ((HOF.out.alloc (.cells #[.int .i64 1, .string tx] 111)).alloc (.cells #[.string tx] 9)) hg3)
    have HQ3 := Lib.hid (((HQr.out.alloc (.cells #[.int .i64 1, .string tx] 111)).alloc (.cells #[.string tx] 9)).os (by decide) ((HOF.out.alloc (.cells #[.int .i64 1, .string tx] 111)).alloc (.cells #[.string tx] 9)) hg3)
    have HE3 := Lib.hid (show OE w3 _ _ evs from World.ownsRow.kept ((HOEr.out.alloc' (.cells #[.int .i64 1, .string tx] 111)).alloc' (.cells #[.string tx] 9)) hg3 (row_apart' ((HOF.out.alloc (.cells #[.int .i64 1, .string tx] 111)).alloc (.cells #[.string tx] 9)) ((HOEr.out.alloc' (.cells #[.int .i64 1, .string tx] 111)).alloc' (.cells #[.string tx] 9))))
    have HB3 := Lib.hid (((HBr.out.alloc HBr.out.size (.cells #[.int .i64 1, .string tx] 111)).alloc (by simp; omega) (.cells #[.string tx] 9)).grown hg3 (by simp; omega) (fun j hj => Nat.le_trans (Nat.le_trans (Nat.le_add_right _ 3) HS1.out) (HOF.out.low j hj).1))
    clear hown3 hg3
    go_roundw
    case rel => exact ⟨k + 1, by omega, by go_num, by rw [HFS.out]; exact HO3.out, HK3.out, HQ3.out, HE3.out, HB3.out⟩
    case measure => simp [intOf]; omega
   ·have hkb : (kd == 1) = false := beq_eq_false_iff_ne.2 hkd
    rw [if_neg hkd, List.append_nil] at HFS
    clear hkd
    go_wp2
    go_roundw
    case rel => exact ⟨k + 1, by omega, by go_num, by rw [HFS.out]; exact HOF.out.alloc _, HKr.out.alloc _, HQr.out.alloc _, HOEr.out.alloc' _, HBr.out.alloc HBr.out.size _⟩
    case measure => simp [intOf]; omega
  ·obtain rfl : k = evs.length := by omega
   have x0 := hkk.cell (i := 0) rfl
   have x1 := hkk.cell (i := 1) rfl
   have z0 := hqq.cell (i := 0) rfl
   have z1 := hqq.cell (i := 1) rfl
   have f0 := hqq.free 0
   have f1 := hqq.free 1
   clear hof hkk hqq hoe hbb HK HQ HOE HB
   go_wp2
   have hq : BK _ (w.heap.size + 2) #[.string X, .bool false] 30 := HQr.out.set 0 (.string X)
   have hq : BK _ (w.heap.size + 2) #[.string X, .bool y] 30 := hq.set 1 (.bool y)
   obtain ⟨q0, q1⟩ : _ ∧ _ := ⟨hq.cell (i := 0) rfl, hq.cell (i := 1) rfl⟩
   have HE := Lib.hid (show framesL (evs.take evs.length) = framesL evs by rw [List.take_length])
   have HOF2 := HOF.out
   rw [HE.out] at HOF2
   refine bodyPost_ret (v := .tuple #[fdV X y, u8]) (by simp [results, Tryz.results90, go_sem, q0, q1]) rfl ⟨u8, by simp only [fdL, Lib.mk_data], ?_, ?_⟩
   ·exact ((HOF2.put (p := ⟨w.heap.size + 2, 0, none⟩) (by have := HS1.out; simp; omega) _).put (p := ⟨w.heap.size + 2, 1, none⟩) (by have := HS1.out; simp; omega) _).mono (by have := HS1.out; omega)
   ·exact (HBr.out.setCell (p := ⟨w.heap.size + 2, 0, none⟩) (by simp) _).setCell (p := ⟨w.heap.size + 2, 1, none⟩) (by simp) _
end Go.Proofs.YtmggoiabcboaiaaGreat
namespace Go.Proofs.YtmggoiabcboaiaaGreat
open Go.ChangeShapes Go.WideShapes Go.ChangeAt Go.RowKit
theorem wPutL_pos {c : Cf} (h : confB c = true) (s : List UInt8) : 2 ≤ (putL c.sum s).length ∧ ((putL c.sum s).length : Int) = s.length + c.sum := by
 obtain ⟨_, hk, _⟩ := confB_yes h
 have hk2 := kind_or hk
 rw [putL_len]; omega
theorem wHold_send {c : Cf} {s : List UInt8} (h : sendOk c s = true) : ((writeL c (putL c.sum s)).length : Int) ≤ holdN c := by
 simp only [sendOk, Bool.and_eq_true, decide_eq_true_eq] at h
 obtain ⟨hc, hl⟩ := h
 obtain ⟨_, hk, hm, _⟩ := confB_yes hc
 have hp := wPutL_pos hc s
 have hk2 := kind_or hk
 have := writeL_len c (putL c.sum s) (by omega)
 unfold holdN; omega
theorem wSendL_len {c : Cf} {s : List UInt8} (h : sendOk c s = true) : (sendL c s).length ≤ 93 ∧ 1 ≤ (sendL c s).length := by
 have hc : confB c = true := by simp only [sendOk, Bool.and_eq_true] at h; exact h.1
 have hp := hold_pos hc
 have := wHold_send h
 unfold sendL
 rw [List.length_append]; simp; omega
theorem wEvT_frame {c : Cf} (hc : confB c = true) (x : List UInt8) : (1 ≤ (evT c x).kind ∧ (evT c x).kind ≤ 6) ∧ ((evT c x).kind ≠ 1 → (evT c x).text = []) ∧ ((evT c x).text.length : Int) ≤ c.most := by
 obtain ⟨_, hk, hm, _⟩ := confB_yes hc
 have hk2 := kind_or hk
 have h0 : (((List.nil : List UInt8)).length : Int) ≤ c.most := by simp; exact hm.1
 unfold evT
 split
 ·exact ⟨by simp, fun _ => rfl, h0⟩
 ·split
  ·exact ⟨by simp, fun _ => rfl, h0⟩
  ·split
   ·refine ⟨by simp, fun h => absurd rfl h, ?_⟩
    simp only [cutL, List.length_take]
    omega
   ·exact ⟨by simp, fun _ => rfl, h0⟩
def wGoodE (c : Cf) (e : Ev) : Prop := (1 ≤ e.kind ∧ e.kind ≤ 6) ∧ (e.kind ≠ 1 → e.text = []) ∧ (e.text.length : Int) ≤ c.most
theorem wEvalL_good {c : Cf} (hc : confB c = true) {t : List UInt8} {e : Ev} (h : evalL c t = some e) : wGoodE c e := by
 obtain ⟨_, _, hm, _⟩ := confB_yes hc
 have h0 : (((List.nil : List UInt8)).length : Int) ≤ c.most := by simp; exact hm.1
 unfold evalL at h
 split at h
 ·cases h
 ·split at h
  ·cases h; exact ⟨by simp, fun _ => rfl, h0⟩
  ·split at h
   ·cases h; exact ⟨by simp, fun _ => rfl, h0⟩
   ·split at h
    ·cases h
    ·cases h; exact wEvT_frame hc _
theorem wFfeed_good {c : Cf} (hc : confB c = true) (l : List UInt8) : ∀ (f : Fd), ∀ e ∈ (ffeed c f l).2, wGoodE c e := by
 obtain ⟨_, _, hm, _⟩ := confB_yes hc
 induction l with
 | nil => intro f e he; simp [ffeed] at he
 | cons b l ih =>
  intro f e he
  rw [ffeed_cons, List.mem_append] at he
  rcases he with he | he
  ·have h2 : (fstep c f b).2 = some e := by
    cases h3 : (fstep c f b).2 with
    | none => rw [h3] at he; simp at he
    | some e' => rw [h3] at he; simp at he; rw [he]
   unfold fstep at h2
   split at h2
   ·unfold endE at h2
    split at h2
    ·cases h2; exact ⟨by simp, fun _ => rfl, by simp; exact hm.1⟩
    ·exact wEvalL_good hc h2
   ·split at h2
    ·cases h2
    ·split at h2 <;> cases h2
  ·exact ih _ e he
theorem wSendA_nil {c : Cf} {s : List UInt8} (h : sendOk c s = false) : sendA c s = [] := by unfold sendA; rw [if_neg (by rw [h]; simp)]
theorem wSendA_yes {c : Cf} {s : List UInt8} (h : sendOk c s = true) : sendA c s = sendL c s := by unfold sendA; rw [if_pos h]
end Go.Proofs.YtmggoiabcboaiaaGreat
namespace Go.Proofs.YtmggoiabcboaiaaGreat
structure Ls where
 c : Cf
 ms : List ByteArray
 nx : Nat
 gs : List ByteArray
 f : Fd
 h : Fd
 ts : List ByteArray
 bs : List ByteArray
def bzL (l : List UInt8) : ByteArray := ⟨l.toArray⟩
theorem bzL_size (l : List UInt8) : (bzL l).size = l.length := by rw [← size_list]; rfl
def Ls.sendP (s : Ls) : Ls := if s.nx < s.ms.length ∧ s.ts.length < 5 then { s with ts := s.ts ++ [bzL (sendA s.c (parB s.nx :: (s.ms.getD s.nx ⟨#[]⟩).data.toList))] } else s
def Ls.kept (s : Ls) (b : UInt8) (r : List UInt8) : Ls := if b = parB s.gs.length ∧ s.gs.length < s.ms.length then { s with gs := s.gs ++ [bzL r] } else s
def Ls.told (s : Ls) (b : UInt8) : Ls := if s.bs.length < 5 then { s with bs := s.bs ++ [bzL (sendA s.c [b])] } else s
def Ls.takeL (s : Ls) : List UInt8 → Ls
 | [] => s
 | b :: r => if b = 48 ∨ b = 49 then (s.kept b r).told b else s
def Ls.takeP (s : Ls) (F : ByteArray) : Ls := s.takeL F.data.toList
def Ls.confP (s : Ls) (A : ByteArray) : Ls := if A = ⟨#[parB s.nx]⟩ ∧ s.nx < s.ms.length then { s with nx := s.nx + 1 } else s
def Ls.there (s : Ls) : Ls := match s.ts with
 | [] => s
 | t :: r => (framesL (ffeed s.c s.f t.data.toList).2).foldl Ls.takeP { s with ts := r, f := (ffeed s.c s.f t.data.toList).1 }
def Ls.here (s : Ls) : Ls := match s.bs with
 | [] => s
 | t :: r => (framesL (ffeed s.c s.h t.data.toList).2).foldl Ls.confP { s with bs := r, h := (ffeed s.c s.h t.data.toList).1 }
def twiceL (l : List ByteArray) : List ByteArray := match l with
 | [] => []
 | t :: r => if (t :: r).length < 5 then t :: t :: r else t :: r
def Ls.doP (s : Ls) (k : Int) : Ls :=
 if k = 1 then s.sendP else if k = 2 then s.there else if k = 3 then s.here else if k = 4 then { s with ts := s.ts.tail } else if k = 5 then { s with bs := s.bs.tail }
 else if k = 6 then { s with ts := twiceL s.ts } else if k = 7 then { s with bs := twiceL s.bs } else s
structure Ls.Ok (s : Ls) : Prop where
 conf : confB s.c = true
 okf : okF s.c s.f = true
 okh : okF s.c s.h = true
 ml : s.ms.length ≤ 6
 mz : ∀ x ∈ s.ms, (x.size : Int) < s.c.most
 nxl : s.nx ≤ s.ms.length
 gl : s.gs.length ≤ s.ms.length
 gz : ∀ x ∈ s.gs, x.size ≤ 1048576
 tl : s.ts.length ≤ 5
 tz : ∀ x ∈ s.ts, x.size ≤ 1048576
 bl : s.bs.length ≤ 5
 bz : ∀ x ∈ s.bs, x.size ≤ 1048576
theorem sendA_len {c : Cf} {l : List UInt8} : (sendA c l).length ≤ 93 := by
 cases h : sendOk c l with
 | true => rw [wSendA_yes h]; exact (wSendL_len h).1
 | false => rw [wSendA_nil h]; simp
theorem mem_snoc {p : ByteArray → Prop} {l : List ByteArray} {x : ByteArray} (h : ∀ y ∈ l, p y) (hx : p x) : ∀ y ∈ l ++ [x], p y := by
 intro y hy
 rcases List.mem_append.1 hy with h1 | h1
 ·exact h y h1
 ·rw [List.mem_singleton.1 h1]; exact hx
theorem Ls.Ok.sendP {s : Ls} (h : s.Ok) : s.sendP.Ok := by
 unfold Ls.sendP
 split
 ·rename_i hc
  exact { h with tl := by simp; omega, tz := mem_snoc h.tz (by rw [bzL_size]; have := sendA_len (c := s.c) (l := parB s.nx :: (s.ms.getD s.nx ⟨#[]⟩).data.toList); omega) }
 ·exact h
theorem Ls.Ok.kept {s : Ls} (h : s.Ok) (b : UInt8) (r : List UInt8) (hr : r.length ≤ 1048576) : (s.kept b r).Ok := by
 unfold Ls.kept
 split
 ·rename_i hc
  exact { h with gl := by simp; omega, gz := mem_snoc h.gz (by rw [bzL_size]; exact hr) }
 ·exact h
theorem Ls.Ok.told {s : Ls} (h : s.Ok) (b : UInt8) : (s.told b).Ok := by
 unfold Ls.told
 split
 ·exact { h with bl := by simp; omega, bz := mem_snoc h.bz (by rw [bzL_size]; have := sendA_len (c := s.c) (l := [b]); omega) }
 ·exact h
theorem Ls.Ok.takeP {s : Ls} (h : s.Ok) (F : ByteArray) (hF : F.size ≤ 1048576) : (s.takeP F).Ok := by
 unfold Ls.takeP
 rw [← size_list] at hF
 cases hl : F.data.toList with
 | nil => exact h
 | cons b r =>
  unfold Ls.takeL
  rw [hl, List.length_cons] at hF
  simp only
  split
  ·exact (h.kept b r (by omega)).told b
  ·exact h
theorem Ls.Ok.confP {s : Ls} (h : s.Ok) (A : ByteArray) : (s.confP A).Ok := by
 unfold Ls.confP
 split
 ·rename_i hc
  exact { h with nxl := by show s.nx + 1 ≤ _; exact hc.2 }
 ·exact h
theorem Ls.Ok.takes (l : List ByteArray) : ∀ {s : Ls}, s.Ok → (∀ x ∈ l, x.size ≤ 1048576) → (l.foldl Ls.takeP s).Ok := by
 induction l with
 | nil => intro s h _; exact h
 | cons F r ih => intro s h hz; exact ih (h.takeP F (hz F (by simp))) (fun x hx => hz x (by simp [hx]))
theorem Ls.Ok.confs (l : List ByteArray) : ∀ {s : Ls}, s.Ok → (l.foldl Ls.confP s).Ok := by
 induction l with
 | nil => intro s h; exact h
 | cons F r ih => intro s h; exact ih (h.confP F)
theorem frames_size {c : Cf} (hc : confB c = true) (f : Fd) (l : List UInt8) : ∀ x ∈ framesL (ffeed c f l).2, x.size ≤ 40 := by
 intro x hx
 unfold framesL at hx
 obtain ⟨e, he, rfl⟩ := List.mem_map.1 hx
 have hg := (wFfeed_good hc l f e (List.mem_filter.1 he).1).2.2
 have := (confB_yes hc).2.2.1.2
 show (bzL e.text).size ≤ 40
 rw [bzL_size]
 omega
theorem Ls.Ok.there {s : Ls} (h : s.Ok) : s.there.Ok := by
 unfold Ls.there
 cases ht : s.ts with
 | nil => exact h
 | cons t r =>
  have h1 := h.tl
  have h2 := h.tz
  rw [ht] at h1 h2
  refine Ls.Ok.takes _ ?_ (fun x hx => by have := frames_size h.conf _ _ x hx; omega)
  exact { h with okf := ffeed_ok _ h.okf, tl := by simp at h1 ⊢; omega, tz := fun x hx => h2 x (by simp [hx]) }
theorem Ls.Ok.here {s : Ls} (h : s.Ok) : s.here.Ok := by
 unfold Ls.here
 cases ht : s.bs with
 | nil => exact h
 | cons t r =>
  have h1 := h.bl
  have h2 := h.bz
  rw [ht] at h1 h2
  refine Ls.Ok.confs _ ?_
  exact { h with okh := ffeed_ok _ h.okh, bl := by simp at h1 ⊢; omega, bz := fun x hx => h2 x (by simp [hx]) }
theorem twice_ok {l : List ByteArray} (h : l.length ≤ 5) (hz : ∀ x ∈ l, x.size ≤ 1048576) : (twiceL l).length ≤ 5 ∧ ∀ x ∈ twiceL l, x.size ≤ 1048576 := by
 unfold twiceL
 cases l with
 | nil => exact ⟨by simp, by simp⟩
 | cons t r =>
  simp only
  split
  ·rename_i h5
   refine ⟨by simp at h5 ⊢; omega, ?_⟩
   intro x hx
   rcases List.mem_cons.1 hx with h | h
   ·exact hz x (by rw [h]; simp)
   ·exact hz x h
  ·exact ⟨h, hz⟩
theorem tail_ok {l : List ByteArray} (h : l.length ≤ 5) (hz : ∀ x ∈ l, x.size ≤ 1048576) : l.tail.length ≤ 5 ∧ ∀ x ∈ l.tail, x.size ≤ 1048576 :=
 ⟨by rw [List.length_tail]; omega, fun x hx => hz x (List.mem_of_mem_tail hx)⟩
theorem Ls.Ok.doP {s : Ls} (h : s.Ok) (k : Int) : (s.doP k).Ok := by
 unfold Ls.doP
 split
 ·exact h.sendP
 split
 ·exact h.there
 split
 ·exact h.here
 split
 ·obtain ⟨h1, h2⟩ := tail_ok h.tl h.tz
  exact { h with tl := h1, tz := h2 }
 split
 ·obtain ⟨h1, h2⟩ := tail_ok h.bl h.bz
  exact { h with bl := h1, bz := h2 }
 split
 ·obtain ⟨h1, h2⟩ := twice_ok h.tl h.tz
  exact { h with tl := h1, tz := h2 }
 split
 ·obtain ⟨h1, h2⟩ := twice_ok h.bl h.bz
  exact { h with bl := h1, bz := h2 }
 ·exact h
end Go.Proofs.YtmggoiabcboaiaaGreat
namespace Go.Proofs.YtmggoiabcboaiaaGreat
open Go.ChangeShapes Go.WideShapes Go.ChangeAt Go.RowKit
def lkC (s : Ls) (vm vb vg vt : Value) : Array Value := #[.int .i64 s.c.codec, .int .i64 s.c.sum, .int .i64 s.c.most, .int .i64 s.c.map, vm, .int .i64 (s.nx : Int), .string (bzL s.h.held), .bool s.h.over, vb, vg, .string (bzL s.f.held), .bool s.f.over, vt]
structure LKat (w : World) (base g : Nat) (s : Ls) (vm vb vg vt : Value) : Prop where
 bg : base ≤ g
 bw : base ≤ w.heap.size
 bk : BK w g (lkC s vm vb vg vt) 92
 om : OS w base vm s.ms
 ob : OS w base vb s.bs
 og : OS w base vg s.gs
 ot : OS w base vt s.ts
 ap : Ap4 vm vg vt vb
def LK (w : World) (base g : Nat) (s : Ls) : Prop := ∃ vm vb vg vt, LKat w base g s vm vb vg vt
theorem link_str : 92 ≠ 9 := by decide
theorem own_link {w : World} {base g : Nat} {cs : Array Value} {v : Value} {ss : List ByteArray} (h : BK w g cs 92) (ho : OS w base v ss) : v.ownBlock ≠ some g := by
 intro e
 rcases ho.2 with ⟨rfl, _⟩ | ⟨g', cap', cur', rfl, _, hg', _⟩
 ·simp [Value.ownBlock] at e
 ·simp [Value.ownBlock] at e
  subst e
  unfold BK at h
  rw [hg'] at h
  injection h with h
  injection h with _ h2 _
  exact link_str h2.symm
theorem os_same {w w' : World} {base : Nat} {u : Value} {us : List ByteArray} (h : OS w base u us) (hk : ∀ k, u.ownBlock = some k → w'.heap[k]? = w.heap[k]?) : OS w' base u us := by
 obtain ⟨h1, h2⟩ := h
 refine ⟨h1, ?_⟩
 rcases h2 with h2 | ⟨g, cap, cur, rfl, hb', hgg, rest⟩
 ·exact .inl h2
 ·refine .inr ⟨g, cap, cur, rfl, hb', ?_, rest⟩
  rw [hk g (by simp [Value.ownBlock])]
  exact hgg
theorem os_turn {w w' : World} {base g : Nat} {u v : Value} {us : List ByteArray} (h : OS w base u us) (hap : apartV u v) (hg : u.ownBlock ≠ some g)
  (hk : ∀ k, k < w.heap.size → k ≠ g → v.ownBlock ≠ some k → w'.heap[k]? = w.heap[k]?) : OS w' base u us :=
 os_same h fun k e => hk k (h.low k e).2 (fun e2 => hg (by rw [e, e2])) (fun e2 => by
  rcases hap with h1 | h1
  ·rw [h1] at e; cases e
  ·exact h1 (by rw [e, e2]))
theorem apart_turn {w : World} {base : Nat} {u v v' : Value} {us : List ByteArray} (h : OS w base u us) (h1 : apartV u v) (h2 : apartV v u) (hn : v'.ownBlock = v.ownBlock ∨ ∀ k, v'.ownBlock = some k → w.heap.size ≤ k) : apartV u v' ∧ apartV v' u := by
 rcases hn with hn | hn
 ·unfold apartV at *
  rw [hn]
  exact ⟨h1, h2⟩
 ·unfold apartV
  constructor
  ·cases hu : u.ownBlock with
   | none => exact .inl rfl
   | some k => exact .inr (fun e => by have h3 := hn k e.symm; have h4 := (h.low k hu).2; omega)
  ·cases hv : v'.ownBlock with
   | none => exact .inl rfl
   | some k => exact .inr (fun e => by have h3 := hn k hv; have h4 := (h.low k e.symm).2; omega)
theorem wp_below {w w' : World} {base g i : Nat} {cs : Array Value} {t : TypeId} {v : Value} {ss ss' : List ByteArray} (ho : OS w base v ss) (hb : base ≤ g) (hw : base ≤ w.heap.size) (h : WPost w base g i cs t v ss' w') : Below base w w' := by
 obtain ⟨v', _, _, hs, h1, h2, h3, _, hk⟩ := h
 refine ⟨h1.symm, h2.symm, h3.symm, by omega, fun k hkb => hk k (by omega) (by omega) (fun e => ?_)⟩
 have := (ho.low k e).1
 omega
theorem turn_to {w w' : World} {base g : Nat} {s : Ls} {vm vb vg vt : Value} {ts : List ByteArray} (h : LKat w base g s vm vb vg vt) (hp : WPost w base g 12 (lkC s vm vb vg vt) 92 vt ts w') : LK w' base g { s with ts := ts } ∧ Below base w w' := by
 refine ⟨?_, wp_below h.ot h.bg h.bw hp⟩
 obtain ⟨v', hk, ho, hs, _, _, _, hn, hh⟩ := hp
 obtain ⟨⟨a1, a2, a3⟩, ⟨a4, a5, a6⟩, ⟨a7, a8, a9⟩, ⟨a10, a11, a12⟩⟩ := h.ap
 obtain ⟨m1, m2⟩ := apart_turn h.om a2 a7 hn
 obtain ⟨m3, m4⟩ := apart_turn h.og a5 a8 hn
 obtain ⟨m5, m6⟩ := apart_turn h.ob a12 a9 hn
 exact ⟨vm, vb, vg, v', h.bg, Nat.le_trans h.bw hs, hk, os_turn h.om a2 (own_link h.bk h.om) hh, os_turn h.ob a12 (own_link h.bk h.ob) hh, os_turn h.og a5 (own_link h.bk h.og) hh, ho, ⟨⟨a1, m1, a3⟩, ⟨a4, m3, a6⟩, ⟨m2, m4, m6⟩, ⟨a10, a11, m5⟩⟩⟩
theorem turn_back {w w' : World} {base g : Nat} {s : Ls} {vm vb vg vt : Value} {bs : List ByteArray} (h : LKat w base g s vm vb vg vt) (hp : WPost w base g 8 (lkC s vm vb vg vt) 92 vb bs w') : LK w' base g { s with bs := bs } ∧ Below base w w' := by
 refine ⟨?_, wp_below h.ob h.bg h.bw hp⟩
 obtain ⟨v', hk, ho, hs, _, _, _, hn, hh⟩ := hp
 obtain ⟨⟨a1, a2, a3⟩, ⟨a4, a5, a6⟩, ⟨a7, a8, a9⟩, ⟨a10, a11, a12⟩⟩ := h.ap
 obtain ⟨m1, m2⟩ := apart_turn h.om a3 a10 hn
 obtain ⟨m3, m4⟩ := apart_turn h.og a6 a11 hn
 obtain ⟨m5, m6⟩ := apart_turn h.ot a9 a12 hn
 exact ⟨vm, v', vg, vt, h.bg, Nat.le_trans h.bw hs, hk, os_turn h.om a3 (own_link h.bk h.om) hh, ho, os_turn h.og a6 (own_link h.bk h.og) hh, os_turn h.ot a9 (own_link h.bk h.ot) hh, ⟨⟨a1, a2, m1⟩, ⟨a4, a5, m3⟩, ⟨a7, a8, m5⟩, ⟨m2, m4, m6⟩⟩⟩
theorem LKat.below {w w' : World} {base g : Nat} {s : Ls} {vm vb vg vt : Value} (h : LKat w base g s vm vb vg vt) (hb : Below w.heap.size w w') : LKat w' base g s vm vb vg vt :=
 ⟨h.bg, Nat.le_trans h.bw hb.size, h.bk.from hb, h.om.below hb, h.ob.below hb, h.og.below hb, h.ot.below hb, h.ap⟩
theorem LK.below {w w' : World} {base g : Nat} {s : Ls} (h : LK w base g s) (hb : Below w.heap.size w w') : LK w' base g s := by
 obtain ⟨vm, vb, vg, vt, h⟩ := h
 exact ⟨vm, vb, vg, vt, h.below hb⟩
theorem LKat.wto {w : World} {base g : Nat} {s : Ls} {vm vb vg vt : Value} (h : LKat w base g s vm vb vg vt) : WC w base g 12 (lkC s vm vb vg vt) 92 vt s.ts := ⟨h.bk, rfl, h.ot, link_str, h.bk.lt, h.bw⟩
theorem LKat.wback {w : World} {base g : Nat} {s : Ls} {vm vb vg vt : Value} (h : LKat w base g s vm vb vg vt) : WC w base g 8 (lkC s vm vb vg vt) 92 vb s.bs := ⟨h.bk, rfl, h.ob, link_str, h.bk.lt, h.bw⟩
theorem LKat.wgot {w : World} {base g : Nat} {s : Ls} {vm vb vg vt : Value} (h : LKat w base g s vm vb vg vt) : WC w base g 9 (lkC s vm vb vg vt) 92 vg s.gs := ⟨h.bk, rfl, h.og, link_str, h.bk.lt, h.bw⟩
end Go.Proofs.YtmggoiabcboaiaaGreat
