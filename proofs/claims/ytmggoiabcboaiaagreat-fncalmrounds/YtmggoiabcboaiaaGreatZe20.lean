/- Parts of a proof, 20: LkJ LkK. -/
import Derived.Test.YtmggoiabcboaiaaGreatZe1
import Derived.Test.YtmggoiabcboaiaaGreatZe2
import Derived.Test.YtmggoiabcboaiaaGreatZe3
import Derived.Test.YtmggoiabcboaiaaGreatZe4
import Derived.Test.YtmggoiabcboaiaaGreatZe5
import Derived.Test.YtmggoiabcboaiaaGreatZe6
import Derived.Test.YtmggoiabcboaiaaGreatZe7
import Derived.Test.YtmggoiabcboaiaaGreatZe8
import Derived.Test.YtmggoiabcboaiaaGreatZe9
import Derived.Test.YtmggoiabcboaiaaGreatZe10
import Derived.Test.YtmggoiabcboaiaaGreatZe11
import Derived.Test.YtmggoiabcboaiaaGreatZe12
import Derived.Test.YtmggoiabcboaiaaGreatZe13
import Derived.Test.YtmggoiabcboaiaaGreatZe14
import Derived.Test.YtmggoiabcboaiaaGreatZe15
import Derived.Test.YtmggoiabcboaiaaGreatZe16
import Derived.Test.YtmggoiabcboaiaaGreatZe17
import Derived.Test.YtmggoiabcboaiaaGreatZe18
import Derived.Test.YtmggoiabcboaiaaGreatZe19
namespace Go.Proofs.YtmggoiabcboaiaaGreat
open Go.ChangeShapes Go.WideShapes Go.ChangeAt Go.RowKit
set_option linter.unusedVariables false
set_option maxRecDepth 100000 in
set_option maxHeartbeats 1500000 in
theorem shown_any (s : Ls) (vm vb vg vt : Value) (w : World) (base g : Nat) (H : LKat w base g s vm vb vg vt) :
  Calls Tryz.prog 40 #[.pointer (some ⟨g, 0, none⟩)] w fun e w' => e = .returned (lnV s.c.codec s.c.sum s.c.most s.c.map vm (s.nx : Int) vg (bzL s.f.held) s.f.over (bzL s.h.held) s.h.over vt vb) ∧ Below w.heap.size w w' := by
 obtain ⟨am, cm, rfl⟩ := H.om.reads.shape
 obtain ⟨ab, cb, rfl⟩ := H.ob.reads.shape
 obtain ⟨ag, cg, rfl⟩ := H.og.reads.shape
 obtain ⟨at_, ct, rfl⟩ := H.ot.reads.shape
 have hzl := zero_line
 have hgl := H.bk.lt
 have hkd : BK ((w.alloc (.cells #[.int .i64 0, .int .i64 0, .int .i64 0, .int .i64 0, .slice none 0 0, .int .i64 0, .slice none 0 0, .string ⟨#[]⟩, .bool false, .string ⟨#[]⟩, .bool false, .slice none 0 0, .slice none 0 0] 32)).drew) g (lkC s (.slice am s.ms.length cm) (.slice ab s.bs.length cb) (.slice ag s.gs.length cg) (.slice at_ s.ts.length ct)) 92 := (H.bk.alloc _).drew
 have hqd : BK ((w.alloc (.cells #[.int .i64 0, .int .i64 0, .int .i64 0, .int .i64 0, .slice none 0 0, .int .i64 0, .slice none 0 0, .string ⟨#[]⟩, .bool false, .string ⟨#[]⟩, .bool false, .slice none 0 0, .slice none 0 0] 32)).drew) w.heap.size #[.int .i64 0, .int .i64 0, .int .i64 0, .int .i64 0, .slice none 0 0, .int .i64 0, .slice none 0 0, .string ⟨#[]⟩, .bool false, .string ⟨#[]⟩, .bool false, .slice none 0 0, .slice none 0 0] 32 := (BK.new w #[.int .i64 0, .int .i64 0, .int .i64 0, .int .i64 0, .slice none 0 0, .int .i64 0, .slice none 0 0, .string ⟨#[]⟩, .bool false, .string ⟨#[]⟩, .bool false, .slice none 0 0, .slice none 0 0] 32).drew
 have hbd : Below w.heap.size w ((w.alloc (.cells #[.int .i64 0, .int .i64 0, .int .i64 0, .int .i64 0, .slice none 0 0, .int .i64 0, .slice none 0 0, .string ⟨#[]⟩, .bool false, .string ⟨#[]⟩, .bool false, .slice none 0 0, .slice none 0 0] 32)).drew) := ((Below.refl w.heap.size w).alloc (Nat.le_refl _) _).drew
 have hS := (show ((w.alloc (.cells #[.int .i64 0, .int .i64 0, .int .i64 0, .int .i64 0, .slice none 0 0, .int .i64 0, .slice none 0 0, .string ⟨#[]⟩, .bool false, .string ⟨#[]⟩, .bool false, .slice none 0 0, .slice none 0 0] 32)).drew).cell? ⟨g, 0, none⟩ = some (.int .i64 s.c.codec) ∧ ((w.alloc (.cells #[.int .i64 0, .int .i64 0, .int .i64 0, .int .i64 0, .slice none 0 0, .int .i64 0, .slice none 0 0, .string ⟨#[]⟩, .bool false, .string ⟨#[]⟩, .bool false, .slice none 0 0, .slice none 0 0] 32)).drew).cell? ⟨g, 1, none⟩ = some (.int .i64 s.c.sum) ∧ ((w.alloc (.cells #[.int .i64 0, .int .i64 0, .int .i64 0, .int .i64 0, .slice none 0 0, .int .i64 0, .slice none 0 0, .string ⟨#[]⟩, .bool false, .string ⟨#[]⟩, .bool false, .slice none 0 0, .slice none 0 0] 32)).drew).cell? ⟨g, 2, none⟩ = some (.int .i64 s.c.most) ∧ ((w.alloc (.cells #[.int .i64 0, .int .i64 0, .int .i64 0, .int .i64 0, .slice none 0 0, .int .i64 0, .slice none 0 0, .string ⟨#[]⟩, .bool false, .string ⟨#[]⟩, .bool false, .slice none 0 0, .slice none 0 0] 32)).drew).cell? ⟨g, 3, none⟩ = some (.int .i64 s.c.map) ∧ ((w.alloc (.cells #[.int .i64 0, .int .i64 0, .int .i64 0, .int .i64 0, .slice none 0 0, .int .i64 0, .slice none 0 0, .string ⟨#[]⟩, .bool false, .string ⟨#[]⟩, .bool false, .slice none 0 0, .slice none 0 0] 32)).drew).cell? ⟨g, 4, none⟩ = some ((.slice am s.ms.length cm)) ∧ ((w.alloc (.cells #[.int .i64 0, .int .i64 0, .int .i64 0, .int .i64 0, .slice none 0 0, .int .i64 0, .slice none 0 0, .string ⟨#[]⟩, .bool false, .string ⟨#[]⟩, .bool false, .slice none 0 0, .slice none 0 0] 32)).drew).cell? ⟨g, 5, none⟩ = some (.int .i64 (s.nx : Int)) ∧ ((w.alloc (.cells #[.int .i64 0, .int .i64 0, .int .i64 0, .int .i64 0, .slice none 0 0, .int .i64 0, .slice none 0 0, .string ⟨#[]⟩, .bool false, .string ⟨#[]⟩, .bool false, .slice none 0 0, .slice none 0 0] 32)).drew).cell? ⟨g, 6, none⟩ = some (.string (bzL s.h.held)) ∧ ((w.alloc (.cells #[.int .i64 0, .int .i64 0, .int .i64 0, .int .i64 0, .slice none 0 0, .int .i64 0, .slice none 0 0, .string ⟨#[]⟩, .bool false, .string ⟨#[]⟩, .bool false, .slice none 0 0, .slice none 0 0] 32)).drew).cell? ⟨g, 7, none⟩ = some (.bool s.h.over) ∧ ((w.alloc (.cells #[.int .i64 0, .int .i64 0, .int .i64 0, .int .i64 0, .slice none 0 0, .int .i64 0, .slice none 0 0, .string ⟨#[]⟩, .bool false, .string ⟨#[]⟩, .bool false, .slice none 0 0, .slice none 0 0] 32)).drew).cell? ⟨g, 8, none⟩ = some ((.slice ab s.bs.length cb)) ∧ ((w.alloc (.cells #[.int .i64 0, .int .i64 0, .int .i64 0, .int .i64 0, .slice none 0 0, .int .i64 0, .slice none 0 0, .string ⟨#[]⟩, .bool false, .string ⟨#[]⟩, .bool false, .slice none 0 0, .slice none 0 0] 32)).drew).cell? ⟨g, 9, none⟩ = some ((.slice ag s.gs.length cg)) ∧ ((w.alloc (.cells #[.int .i64 0, .int .i64 0, .int .i64 0, .int .i64 0, .slice none 0 0, .int .i64 0, .slice none 0 0, .string ⟨#[]⟩, .bool false, .string ⟨#[]⟩, .bool false, .slice none 0 0, .slice none 0 0] 32)).drew).cell? ⟨g, 10, none⟩ = some (.string (bzL s.f.held)) ∧ ((w.alloc (.cells #[.int .i64 0, .int .i64 0, .int .i64 0, .int .i64 0, .slice none 0 0, .int .i64 0, .slice none 0 0, .string ⟨#[]⟩, .bool false, .string ⟨#[]⟩, .bool false, .slice none 0 0, .slice none 0 0] 32)).drew).cell? ⟨g, 11, none⟩ = some (.bool s.f.over) ∧ ((w.alloc (.cells #[.int .i64 0, .int .i64 0, .int .i64 0, .int .i64 0, .slice none 0 0, .int .i64 0, .slice none 0 0, .string ⟨#[]⟩, .bool false, .string ⟨#[]⟩, .bool false, .slice none 0 0, .slice none 0 0] 32)).drew).cell? ⟨g, 12, none⟩ = some ((.slice at_ s.ts.length ct)) from ⟨hkd.cell rfl, hkd.cell rfl, hkd.cell rfl, hkd.cell rfl, hkd.cell rfl, hkd.cell rfl, hkd.cell rfl, hkd.cell rfl, hkd.cell rfl, hkd.cell rfl, hkd.cell rfl, hkd.cell rfl, hkd.cell rfl⟩)
 go_enter Tryz.func40, Tryz.ntmps40
 go_wp2_with fail
 refine wp_region_held_drew (S := (fun wx => wx.cell? ⟨g, 0, none⟩ = some (.int .i64 s.c.codec) ∧ wx.cell? ⟨g, 1, none⟩ = some (.int .i64 s.c.sum) ∧ wx.cell? ⟨g, 2, none⟩ = some (.int .i64 s.c.most) ∧ wx.cell? ⟨g, 3, none⟩ = some (.int .i64 s.c.map) ∧ wx.cell? ⟨g, 4, none⟩ = some ((.slice am s.ms.length cm)) ∧ wx.cell? ⟨g, 5, none⟩ = some (.int .i64 (s.nx : Int)) ∧ wx.cell? ⟨g, 6, none⟩ = some (.string (bzL s.h.held)) ∧ wx.cell? ⟨g, 7, none⟩ = some (.bool s.h.over) ∧ wx.cell? ⟨g, 8, none⟩ = some ((.slice ab s.bs.length cb)) ∧ wx.cell? ⟨g, 9, none⟩ = some ((.slice ag s.gs.length cg)) ∧ wx.cell? ⟨g, 10, none⟩ = some (.string (bzL s.f.held)) ∧ wx.cell? ⟨g, 11, none⟩ = some (.bool s.f.over) ∧ wx.cell? ⟨g, 12, none⟩ = some ((.slice at_ s.ts.length ct)))) (by kernel_rfl) hS (fun hHeld => ?_)
 obtain ⟨w1, hw1⟩ : ∃ w1 : World, w1 = ((w.alloc (.cells #[.int .i64 0, .int .i64 0, .int .i64 0, .int .i64 0, .slice none 0 0, .int .i64 0, .slice none 0 0, .string ⟨#[]⟩, .bool false, .string ⟨#[]⟩, .bool false, .slice none 0 0, .slice none 0 0] 32)).drew) := ⟨_, rfl⟩
 rw [← hw1] at hS hkd hqd hbd ⊢
 clear hw1 H
 refine tkH 0 ?_ rfl (Or.inl ⟨by rfl, ?_⟩) ?_; rotate_left
 ·intro wq hSw; (try dsimp only at hSw); (try simp only [gT, gZ]); go_simp; (try with_reducible rfl)
 simp only [Act.put, gT, gZ, sT, sZ, sS]
 refine tkH 1 ?_ rfl (Or.inl ⟨by rfl, ?_⟩) ?_; rotate_left
 ·intro wq hSw; (try dsimp only at hSw); (try simp only [gT, gS, gZ]); go_simp; (try with_reducible rfl)
 simp only [Act.put, gT, gS, gZ, sT, sZ, sS]
 refine tkH 2 ?_ rfl (Or.inl ⟨by rfl, ?_⟩) ?_; rotate_left
 ·intro wq hSw; (try dsimp only at hSw); (try simp only [gT, gS, gZ]); go_simp; (try with_reducible rfl)
 simp only [Act.put, gT, gS, gZ, sT, sZ, sS]
 refine tkH 3 ?_ rfl (Or.inl ⟨by rfl, ?_⟩) ?_; rotate_left
 ·intro wq hSw; (try dsimp only at hSw); (try simp only [gT, gS, gZ]); go_simp; (try with_reducible rfl)
 simp only [Act.put, gT, gS, gZ, sT, sZ, sS]
 refine tkH 4 ?_ rfl (Or.inl ⟨by rfl, ?_⟩) ?_; rotate_left
 ·intro wq hSw; (try dsimp only at hSw); (try simp only [gT, gS, gZ]); go_simp; (try with_reducible rfl)
 simp only [Act.put, gT, gS, gZ, sT, sZ, sS]
 refine tkH 5 ?_ rfl (Or.inl ⟨by rfl, ?_⟩) ?_; rotate_left
 ·intro wq hSw; (try dsimp only at hSw); (try simp only [gT, gS, gZ]); go_simp; (try with_reducible rfl)
 simp only [Act.put, gT, gS, gZ, sT, sZ, sS]
 refine tkH 6 ?_ rfl (Or.inl ⟨by rfl, ?_⟩) ?_; rotate_left
 ·intro wq hSw; (try dsimp only at hSw); (try simp only [gT, gS, gZ]); go_simp; (try with_reducible rfl)
 simp only [Act.put, gT, gS, gZ, sT, sZ, sS]
 refine tkH 7 ?_ rfl (Or.inl ⟨by rfl, ?_⟩) ?_; rotate_left
 ·intro wq hSw; (try dsimp only at hSw); (try simp only [gT, gS, gZ]); go_simp; (try with_reducible rfl)
 simp only [Act.put, gT, gS, gZ, sT, sZ, sS]
 refine tkH 8 ?_ rfl (Or.inl ⟨by rfl, ?_⟩) ?_; rotate_left
 ·intro wq hSw; (try dsimp only at hSw); (try simp only [gT, gS, gZ]); go_simp; (try with_reducible rfl)
 simp only [Act.put, gT, gS, gZ, sT, sZ, sS]
 refine tkH 9 ?_ rfl (Or.inl ⟨by rfl, ?_⟩) ?_; rotate_left
 ·intro wq hSw; (try dsimp only at hSw); (try simp only [gT, gS, gZ]); go_simp; (try with_reducible rfl)
 simp only [Act.put, gT, gS, gZ, sT, sZ, sS]
 refine tkH 10 ?_ rfl (Or.inl ⟨by rfl, ?_⟩) ?_; rotate_left
 ·intro wq hSw; (try dsimp only at hSw); (try simp only [gT, gS, gZ]); go_simp; (try with_reducible rfl)
 simp only [Act.put, gT, gS, gZ, sT, sZ, sS]
 refine tkH 11 ?_ rfl (Or.inl ⟨by rfl, ?_⟩) ?_; rotate_left
 ·intro wq hSw; (try dsimp only at hSw); (try simp only [gT, gS, gZ]); go_simp; (try with_reducible rfl)
 simp only [Act.put, gT, gS, gZ, sT, sZ, sS]
 refine tkH 12 ?_ rfl (Or.inl ⟨by rfl, ?_⟩) ?_; rotate_left
 ·intro wq hSw; (try dsimp only at hSw); (try simp only [gT, gS, gZ]); go_simp; (try with_reducible rfl)
 simp only [Act.put, gT, gS, gZ, sT, sZ, sS]
 refine tkH 13 ?_ rfl (Or.inl ⟨by rfl, ?_⟩) ?_; rotate_left
 ·intro wq hSw; (try dsimp only at hSw); (try simp only [gT, gS, gZ]); go_simp; (try with_reducible rfl)
 simp only [Act.put, gT, gS, gZ, sT, sZ, sS]
 refine tkH 14 ?_ rfl (Or.inl ⟨by rfl, ?_⟩) ?_; rotate_left
 ·intro wq hSw; (try dsimp only at hSw); (try simp only [gT, gS, gZ]); go_simp; (try with_reducible rfl)
 simp only [Act.put, gT, gS, gZ, sT, sZ, sS]
 refine tkH 15 ?_ rfl (Or.inl ⟨by rfl, ?_⟩) ?_; rotate_left
 ·intro wq hSw; (try dsimp only at hSw); (try simp only [gT, gS, gZ]); go_simp; (try with_reducible rfl)
 simp only [Act.put, gT, gS, gZ, sT, sZ, sS]
 refine tkH 16 ?_ rfl (Or.inl ⟨by rfl, ?_⟩) ?_; rotate_left
 ·intro wq hSw; (try dsimp only at hSw); (try simp only [gT, gS, gZ]); go_simp; (try with_reducible rfl)
 simp only [Act.put, gT, gS, gZ, sT, sZ, sS]
 refine tkH 17 ?_ rfl (Or.inl ⟨by rfl, ?_⟩) ?_; rotate_left
 ·intro wq hSw; (try dsimp only at hSw); (try simp only [gT, gS, gZ]); go_simp; (try with_reducible rfl)
 simp only [Act.put, gT, gS, gZ, sT, sZ, sS]
 refine tkH 18 ?_ rfl (Or.inl ⟨by rfl, ?_⟩) ?_; rotate_left
 ·intro wq hSw; (try dsimp only at hSw); (try simp only [gT, gS, gZ]); go_simp; (try with_reducible rfl)
 simp only [Act.put, gT, gS, gZ, sT, sZ, sS]
 refine tkH 19 ?_ rfl (Or.inl ⟨by rfl, ?_⟩) ?_; rotate_left
 ·intro wq hSw; (try dsimp only at hSw); (try simp only [gT, gS, gZ]); go_simp; (try with_reducible rfl)
 simp only [Act.put, gT, gS, gZ, sT, sZ, sS]
 refine tkH 20 ?_ rfl (Or.inl ⟨by rfl, ?_⟩) ?_; rotate_left
 ·intro wq hSw; (try dsimp only at hSw); (try simp only [gT, gS, gZ]); go_simp; (try with_reducible rfl)
 simp only [Act.put, gT, gS, gZ, sT, sZ, sS]
 refine tkH 21 ?_ rfl (Or.inl ⟨by rfl, ?_⟩) ?_; rotate_left
 ·intro wq hSw; (try dsimp only at hSw); (try simp only [gT, gS, gZ]); go_simp; (try with_reducible rfl)
 simp only [Act.put, gT, gS, gZ, sT, sZ, sS]
 refine tkH 22 ?_ rfl (Or.inl ⟨by rfl, ?_⟩) ?_; rotate_left
 ·intro wq hSw; (try dsimp only at hSw); (try simp only [gT, gS, gZ]); go_simp; (try with_reducible rfl)
 simp only [Act.put, gT, gS, gZ, sT, sZ, sS]
 refine tkH 23 ?_ rfl (Or.inl ⟨by rfl, ?_⟩) ?_; rotate_left
 ·intro wq hSw; (try dsimp only at hSw); (try simp only [gT, gS, gZ]); go_simp; (try with_reducible rfl)
 simp only [Act.put, gT, gS, gZ, sT, sZ, sS]
 refine tkH 24 ?_ rfl (Or.inl ⟨by rfl, ?_⟩) ?_; rotate_left
 ·intro wq hSw; (try dsimp only at hSw); (try simp only [gT, gS, gZ]); go_simp; (try with_reducible rfl)
 simp only [Act.put, gT, gS, gZ, sT, sZ, sS]
 refine tkH 25 ?_ rfl (Or.inl ⟨by rfl, ?_⟩) ?_; rotate_left
 ·intro wq hSw; (try dsimp only at hSw); (try simp only [gT, gS, gZ]); go_simp; (try with_reducible rfl)
 simp only [Act.put, gT, gS, gZ, sT, sZ, sS]
 refine tkH 26 ?_ rfl (Or.inl ⟨by rfl, ?_⟩) ?_; rotate_left
 ·intro wq hSw; (try dsimp only at hSw); (try simp only [gT, gS, gZ]); go_simp; (try with_reducible rfl)
 simp only [Act.put, gT, gS, gZ, sT, sZ, sS]
 refine tkH 27 ?_ rfl (Or.inl ⟨by rfl, ?_⟩) ?_; rotate_left
 ·intro wq hSw; (try dsimp only at hSw); (try simp only [gT, gS, gZ]); go_simp; (try with_reducible rfl)
 simp only [Act.put, gT, gS, gZ, sT, sZ, sS]
 refine tkH 28 ?_ rfl (Or.inl ⟨by rfl, ?_⟩) ?_; rotate_left
 ·intro wq hSw; (try dsimp only at hSw); (try simp only [gT, gS, gZ]); go_simp; (try with_reducible rfl)
 simp only [Act.put, gT, gS, gZ, sT, sZ, sS]
 refine tkH 29 ?_ rfl (Or.inl ⟨by rfl, ?_⟩) ?_; rotate_left
 ·intro wq hSw; (try dsimp only at hSw); (try simp only [gT, gS, gZ]); go_simp; (try with_reducible rfl)
 simp only [Act.put, gT, gS, gZ, sT, sZ, sS]
 refine tkH 30 ?_ rfl (Or.inl ⟨by rfl, ?_⟩) ?_; rotate_left
 ·intro wq hSw; (try dsimp only at hSw); (try simp only [gT, gS, gZ]); go_simp; (try with_reducible rfl)
 simp only [Act.put, gT, gS, gZ, sT, sZ, sS]
 refine tkH 31 ?_ rfl (Or.inl ⟨by rfl, ?_⟩) ?_; rotate_left
 ·intro wq hSw; (try dsimp only at hSw); (try simp only [gT, gS, gZ]); go_simp; (try with_reducible rfl)
 simp only [Act.put, gT, gS, gZ, sT, sZ, sS]
 refine tkH 32 ?_ rfl (Or.inl ⟨by rfl, ?_⟩) ?_; rotate_left
 ·intro wq hSw; (try dsimp only at hSw); (try simp only [gT, gS, gZ]); go_simp; (try with_reducible rfl)
 simp only [Act.put, gT, gS, gZ, sT, sZ, sS]
 refine tkH 33 ?_ rfl (Or.inl ⟨by rfl, ?_⟩) ?_; rotate_left
 ·intro wq hSw; (try dsimp only at hSw); (try simp only [gT, gS, gZ]); go_simp; (try with_reducible rfl)
 simp only [Act.put, gT, gS, gZ, sT, sZ, sS]
 refine tkH 34 ?_ rfl (Or.inl ⟨by rfl, ?_⟩) ?_; rotate_left
 ·intro wq hSw; (try dsimp only at hSw); (try simp only [gT, gS, gZ]); go_simp; (try with_reducible rfl)
 simp only [Act.put, gT, gS, gZ, sT, sZ, sS]
 refine tkH 35 ?_ rfl (Or.inl ⟨by rfl, ?_⟩) ?_; rotate_left
 ·intro wq hSw; (try dsimp only at hSw); (try simp only [gT, gS, gZ]); go_simp; (try with_reducible rfl)
 simp only [Act.put, gT, gS, gZ, sT, sZ, sS]
 refine tkH 36 ?_ rfl (Or.inl ⟨by rfl, ?_⟩) ?_; rotate_left
 ·intro wq hSw; (try dsimp only at hSw); (try simp only [gT, gS, gZ]); go_simp; (try with_reducible rfl)
 simp only [Act.put, gT, gS, gZ, sT, sZ, sS]
 refine tkH 37 ?_ rfl (Or.inl ⟨by rfl, ?_⟩) ?_; rotate_left
 ·intro wq hSw; (try dsimp only at hSw); (try simp only [gT, gS, gZ]); go_simp; (try with_reducible rfl)
 simp only [Act.put, gT, gS, gZ, sT, sZ, sS]
 refine tkH 38 ?_ rfl (Or.inl ⟨by rfl, ?_⟩) ?_; rotate_left
 ·intro wq hSw; (try dsimp only at hSw); (try simp only [gT, gS, gZ]); go_simp; (try with_reducible rfl)
 simp only [Act.put, gT, gS, gZ, sT, sZ, sS]
 refine tkH 39 ?_ rfl (Or.inl ⟨by rfl, ?_⟩) ?_; rotate_left
 ·intro wq hSw; (try dsimp only at hSw); (try simp only [gT, gS, gZ]); go_simp; (try with_reducible rfl)
 simp only [Act.put, gT, gS, gZ, sT, sZ, sS]
 obtain ⟨z0, z1, z2, z3, z4, z5, z6, z7, z8, z9, z10, z11, z12⟩ := cells13 hqd
 obtain ⟨f0, f1, f2, f3, f4, f5, f6, f7, f8, f9, f10, f11, f12⟩ := free13 hqd
 have hf0 := hkd.far (j := w.heap.size) (o := 0) (by omega) (.int .i64 s.c.codec)
 have hf1 := hf0.far (j := w.heap.size) (o := 1) (by omega) (.int .i64 s.c.sum)
 have hf2 := hf1.far (j := w.heap.size) (o := 2) (by omega) (.int .i64 s.c.most)
 have hf3 := hf2.far (j := w.heap.size) (o := 3) (by omega) (.int .i64 s.c.map)
 have hf4 := hf3.far (j := w.heap.size) (o := 4) (by omega) ((.slice am s.ms.length cm))
 have hf5 := hf4.far (j := w.heap.size) (o := 5) (by omega) (.int .i64 (s.nx : Int))
 have hf6 := hf5.far (j := w.heap.size) (o := 6) (by omega) ((.slice ag s.gs.length cg))
 have hf7 := hf6.far (j := w.heap.size) (o := 7) (by omega) (.string (bzL s.f.held))
 have hf8 := hf7.far (j := w.heap.size) (o := 8) (by omega) (.bool s.f.over)
 have hf9 := hf8.far (j := w.heap.size) (o := 9) (by omega) (.string (bzL s.h.held))
 have hf10 := hf9.far (j := w.heap.size) (o := 10) (by omega) (.bool s.h.over)
 have hf11 := hf10.far (j := w.heap.size) (o := 11) (by omega) ((.slice at_ s.ts.length ct))
 have hf12 := hf11.far (j := w.heap.size) (o := 12) (by omega) ((.slice ab s.bs.length cb))
 have hS := (show (((((((((((((w1.setCell ⟨w.heap.size, 0, none⟩ (.int .i64 s.c.codec)).setCell ⟨w.heap.size, 1, none⟩ (.int .i64 s.c.sum)).setCell ⟨w.heap.size, 2, none⟩ (.int .i64 s.c.most)).setCell ⟨w.heap.size, 3, none⟩ (.int .i64 s.c.map)).setCell ⟨w.heap.size, 4, none⟩ ((.slice am s.ms.length cm))).setCell ⟨w.heap.size, 5, none⟩ (.int .i64 (s.nx : Int))).setCell ⟨w.heap.size, 6, none⟩ ((.slice ag s.gs.length cg))).setCell ⟨w.heap.size, 7, none⟩ (.string (bzL s.f.held))).setCell ⟨w.heap.size, 8, none⟩ (.bool s.f.over)).setCell ⟨w.heap.size, 9, none⟩ (.string (bzL s.h.held))).setCell ⟨w.heap.size, 10, none⟩ (.bool s.h.over)).setCell ⟨w.heap.size, 11, none⟩ ((.slice at_ s.ts.length ct))).setCell ⟨w.heap.size, 12, none⟩ ((.slice ab s.bs.length cb))).cell? ⟨g, 0, none⟩ = some (.int .i64 s.c.codec) ∧ (((((((((((((w1.setCell ⟨w.heap.size, 0, none⟩ (.int .i64 s.c.codec)).setCell ⟨w.heap.size, 1, none⟩ (.int .i64 s.c.sum)).setCell ⟨w.heap.size, 2, none⟩ (.int .i64 s.c.most)).setCell ⟨w.heap.size, 3, none⟩ (.int .i64 s.c.map)).setCell ⟨w.heap.size, 4, none⟩ ((.slice am s.ms.length cm))).setCell ⟨w.heap.size, 5, none⟩ (.int .i64 (s.nx : Int))).setCell ⟨w.heap.size, 6, none⟩ ((.slice ag s.gs.length cg))).setCell ⟨w.heap.size, 7, none⟩ (.string (bzL s.f.held))).setCell ⟨w.heap.size, 8, none⟩ (.bool s.f.over)).setCell ⟨w.heap.size, 9, none⟩ (.string (bzL s.h.held))).setCell ⟨w.heap.size, 10, none⟩ (.bool s.h.over)).setCell ⟨w.heap.size, 11, none⟩ ((.slice at_ s.ts.length ct))).setCell ⟨w.heap.size, 12, none⟩ ((.slice ab s.bs.length cb))).cell? ⟨g, 1, none⟩ = some (.int .i64 s.c.sum) ∧ (((((((((((((w1.setCell ⟨w.heap.size, 0, none⟩ (.int .i64 s.c.codec)).setCell ⟨w.heap.size, 1, none⟩ (.int .i64 s.c.sum)).setCell ⟨w.heap.size, 2, none⟩ (.int .i64 s.c.most)).setCell ⟨w.heap.size, 3, none⟩ (.int .i64 s.c.map)).setCell ⟨w.heap.size, 4, none⟩ ((.slice am s.ms.length cm))).setCell ⟨w.heap.size, 5, none⟩ (.int .i64 (s.nx : Int))).setCell ⟨w.heap.size, 6, none⟩ ((.slice ag s.gs.length cg))).setCell ⟨w.heap.size, 7, none⟩ (.string (bzL s.f.held))).setCell ⟨w.heap.size, 8, none⟩ (.bool s.f.over)).setCell ⟨w.heap.size, 9, none⟩ (.string (bzL s.h.held))).setCell ⟨w.heap.size, 10, none⟩ (.bool s.h.over)).setCell ⟨w.heap.size, 11, none⟩ ((.slice at_ s.ts.length ct))).setCell ⟨w.heap.size, 12, none⟩ ((.slice ab s.bs.length cb))).cell? ⟨g, 2, none⟩ = some (.int .i64 s.c.most) ∧ (((((((((((((w1.setCell ⟨w.heap.size, 0, none⟩ (.int .i64 s.c.codec)).setCell ⟨w.heap.size, 1, none⟩ (.int .i64 s.c.sum)).setCell ⟨w.heap.size, 2, none⟩ (.int .i64 s.c.most)).setCell ⟨w.heap.size, 3, none⟩ (.int .i64 s.c.map)).setCell ⟨w.heap.size, 4, none⟩ ((.slice am s.ms.length cm))).setCell ⟨w.heap.size, 5, none⟩ (.int .i64 (s.nx : Int))).setCell ⟨w.heap.size, 6, none⟩ ((.slice ag s.gs.length cg))).setCell ⟨w.heap.size, 7, none⟩ (.string (bzL s.f.held))).setCell ⟨w.heap.size, 8, none⟩ (.bool s.f.over)).setCell ⟨w.heap.size, 9, none⟩ (.string (bzL s.h.held))).setCell ⟨w.heap.size, 10, none⟩ (.bool s.h.over)).setCell ⟨w.heap.size, 11, none⟩ ((.slice at_ s.ts.length ct))).setCell ⟨w.heap.size, 12, none⟩ ((.slice ab s.bs.length cb))).cell? ⟨g, 3, none⟩ = some (.int .i64 s.c.map) ∧ (((((((((((((w1.setCell ⟨w.heap.size, 0, none⟩ (.int .i64 s.c.codec)).setCell ⟨w.heap.size, 1, none⟩ (.int .i64 s.c.sum)).setCell ⟨w.heap.size, 2, none⟩ (.int .i64 s.c.most)).setCell ⟨w.heap.size, 3, none⟩ (.int .i64 s.c.map)).setCell ⟨w.heap.size, 4, none⟩ ((.slice am s.ms.length cm))).setCell ⟨w.heap.size, 5, none⟩ (.int .i64 (s.nx : Int))).setCell ⟨w.heap.size, 6, none⟩ ((.slice ag s.gs.length cg))).setCell ⟨w.heap.size, 7, none⟩ (.string (bzL s.f.held))).setCell ⟨w.heap.size, 8, none⟩ (.bool s.f.over)).setCell ⟨w.heap.size, 9, none⟩ (.string (bzL s.h.held))).setCell ⟨w.heap.size, 10, none⟩ (.bool s.h.over)).setCell ⟨w.heap.size, 11, none⟩ ((.slice at_ s.ts.length ct))).setCell ⟨w.heap.size, 12, none⟩ ((.slice ab s.bs.length cb))).cell? ⟨g, 4, none⟩ = some ((.slice am s.ms.length cm)) ∧ (((((((((((((w1.setCell ⟨w.heap.size, 0, none⟩ (.int .i64 s.c.codec)).setCell ⟨w.heap.size, 1, none⟩ (.int .i64 s.c.sum)).setCell ⟨w.heap.size, 2, none⟩ (.int .i64 s.c.most)).setCell ⟨w.heap.size, 3, none⟩ (.int .i64 s.c.map)).setCell ⟨w.heap.size, 4, none⟩ ((.slice am s.ms.length cm))).setCell ⟨w.heap.size, 5, none⟩ (.int .i64 (s.nx : Int))).setCell ⟨w.heap.size, 6, none⟩ ((.slice ag s.gs.length cg))).setCell ⟨w.heap.size, 7, none⟩ (.string (bzL s.f.held))).setCell ⟨w.heap.size, 8, none⟩ (.bool s.f.over)).setCell ⟨w.heap.size, 9, none⟩ (.string (bzL s.h.held))).setCell ⟨w.heap.size, 10, none⟩ (.bool s.h.over)).setCell ⟨w.heap.size, 11, none⟩ ((.slice at_ s.ts.length ct))).setCell ⟨w.heap.size, 12, none⟩ ((.slice ab s.bs.length cb))).cell? ⟨g, 5, none⟩ = some (.int .i64 (s.nx : Int)) ∧ (((((((((((((w1.setCell ⟨w.heap.size, 0, none⟩ (.int .i64 s.c.codec)).setCell ⟨w.heap.size, 1, none⟩ (.int .i64 s.c.sum)).setCell ⟨w.heap.size, 2, none⟩ (.int .i64 s.c.most)).setCell ⟨w.heap.size, 3, none⟩ (.int .i64 s.c.map)).setCell ⟨w.heap.size, 4, none⟩ ((.slice am s.ms.length cm))).setCell ⟨w.heap.size, 5, none⟩ (.int .i64 (s.nx : Int))).setCell ⟨w.heap.size, 6, none⟩ ((.slice ag s.gs.length cg))).setCell ⟨w.heap.size, 7, none⟩ (.string (bzL s.f.held))).setCell ⟨w.heap.size, 8, none⟩ (.bool s.f.over)).setCell ⟨w.heap.size, 9, none⟩ (.string (bzL s.h.held))).setCell ⟨w.heap.size, 10, none⟩ (.bool s.h.over)).setCell ⟨w.heap.size, 11, none⟩ ((.slice at_ s.ts.length ct))).setCell ⟨w.heap.size, 12, none⟩ ((.slice ab s.bs.length cb))).cell? ⟨g, 6, none⟩ = some (.string (bzL s.h.held)) ∧ (((((((((((((w1.setCell ⟨w.heap.size, 0, none⟩ (.int .i64 s.c.codec)).setCell ⟨w.heap.size, 1, none⟩ (.int .i64 s.c.sum)).setCell ⟨w.heap.size, 2, none⟩ (.int .i64 s.c.most)).setCell ⟨w.heap.size, 3, none⟩ (.int .i64 s.c.map)).setCell ⟨w.heap.size, 4, none⟩ ((.slice am s.ms.length cm))).setCell ⟨w.heap.size, 5, none⟩ (.int .i64 (s.nx : Int))).setCell ⟨w.heap.size, 6, none⟩ ((.slice ag s.gs.length cg))).setCell ⟨w.heap.size, 7, none⟩ (.string (bzL s.f.held))).setCell ⟨w.heap.size, 8, none⟩ (.bool s.f.over)).setCell ⟨w.heap.size, 9, none⟩ (.string (bzL s.h.held))).setCell ⟨w.heap.size, 10, none⟩ (.bool s.h.over)).setCell ⟨w.heap.size, 11, none⟩ ((.slice at_ s.ts.length ct))).setCell ⟨w.heap.size, 12, none⟩ ((.slice ab s.bs.length cb))).cell? ⟨g, 7, none⟩ = some (.bool s.h.over) ∧ (((((((((((((w1.setCell ⟨w.heap.size, 0, none⟩ (.int .i64 s.c.codec)).setCell ⟨w.heap.size, 1, none⟩ (.int .i64 s.c.sum)).setCell ⟨w.heap.size, 2, none⟩ (.int .i64 s.c.most)).setCell ⟨w.heap.size, 3, none⟩ (.int .i64 s.c.map)).setCell ⟨w.heap.size, 4, none⟩ ((.slice am s.ms.length cm))).setCell ⟨w.heap.size, 5, none⟩ (.int .i64 (s.nx : Int))).setCell ⟨w.heap.size, 6, none⟩ ((.slice ag s.gs.length cg))).setCell ⟨w.heap.size, 7, none⟩ (.string (bzL s.f.held))).setCell ⟨w.heap.size, 8, none⟩ (.bool s.f.over)).setCell ⟨w.heap.size, 9, none⟩ (.string (bzL s.h.held))).setCell ⟨w.heap.size, 10, none⟩ (.bool s.h.over)).setCell ⟨w.heap.size, 11, none⟩ ((.slice at_ s.ts.length ct))).setCell ⟨w.heap.size, 12, none⟩ ((.slice ab s.bs.length cb))).cell? ⟨g, 8, none⟩ = some ((.slice ab s.bs.length cb)) ∧ (((((((((((((w1.setCell ⟨w.heap.size, 0, none⟩ (.int .i64 s.c.codec)).setCell ⟨w.heap.size, 1, none⟩ (.int .i64 s.c.sum)).setCell ⟨w.heap.size, 2, none⟩ (.int .i64 s.c.most)).setCell ⟨w.heap.size, 3, none⟩ (.int .i64 s.c.map)).setCell ⟨w.heap.size, 4, none⟩ ((.slice am s.ms.length cm))).setCell ⟨w.heap.size, 5, none⟩ (.int .i64 (s.nx : Int))).setCell ⟨w.heap.size, 6, none⟩ ((.slice ag s.gs.length cg))).setCell ⟨w.heap.size, 7, none⟩ (.string (bzL s.f.held))).setCell ⟨w.heap.size, 8, none⟩ (.bool s.f.over)).setCell ⟨w.heap.size, 9, none⟩ (.string (bzL s.h.held))).setCell ⟨w.heap.size, 10, none⟩ (.bool s.h.over)).setCell ⟨w.heap.size, 11, none⟩ ((.slice at_ s.ts.length ct))).setCell ⟨w.heap.size, 12, none⟩ ((.slice ab s.bs.length cb))).cell? ⟨g, 9, none⟩ = some ((.slice ag s.gs.length cg)) ∧ (((((((((((((w1.setCell ⟨w.heap.size, 0, none⟩ (.int .i64 s.c.codec)).setCell ⟨w.heap.size, 1, none⟩ (.int .i64 s.c.sum)).setCell ⟨w.heap.size, 2, none⟩ (.int .i64 s.c.most)).setCell ⟨w.heap.size, 3, none⟩ (.int .i64 s.c.map)).setCell ⟨w.heap.size, 4, none⟩ ((.slice am s.ms.length cm))).setCell ⟨w.heap.size, 5, none⟩ (.int .i64 (s.nx : Int))).setCell ⟨w.heap.size, 6, none⟩ ((.slice ag s.gs.length cg))).setCell ⟨w.heap.size, 7, none⟩ (.string (bzL s.f.held))).setCell ⟨w.heap.size, 8, none⟩ (.bool s.f.over)).setCell ⟨w.heap.size, 9, none⟩ (.string (bzL s.h.held))).setCell ⟨w.heap.size, 10, none⟩ (.bool s.h.over)).setCell ⟨w.heap.size, 11, none⟩ ((.slice at_ s.ts.length ct))).setCell ⟨w.heap.size, 12, none⟩ ((.slice ab s.bs.length cb))).cell? ⟨g, 10, none⟩ = some (.string (bzL s.f.held)) ∧ (((((((((((((w1.setCell ⟨w.heap.size, 0, none⟩ (.int .i64 s.c.codec)).setCell ⟨w.heap.size, 1, none⟩ (.int .i64 s.c.sum)).setCell ⟨w.heap.size, 2, none⟩ (.int .i64 s.c.most)).setCell ⟨w.heap.size, 3, none⟩ (.int .i64 s.c.map)).setCell ⟨w.heap.size, 4, none⟩ ((.slice am s.ms.length cm))).setCell ⟨w.heap.size, 5, none⟩ (.int .i64 (s.nx : Int))).setCell ⟨w.heap.size, 6, none⟩ ((.slice ag s.gs.length cg))).setCell ⟨w.heap.size, 7, none⟩ (.string (bzL s.f.held))).setCell ⟨w.heap.size, 8, none⟩ (.bool s.f.over)).setCell ⟨w.heap.size, 9, none⟩ (.string (bzL s.h.held))).setCell ⟨w.heap.size, 10, none⟩ (.bool s.h.over)).setCell ⟨w.heap.size, 11, none⟩ ((.slice at_ s.ts.length ct))).setCell ⟨w.heap.size, 12, none⟩ ((.slice ab s.bs.length cb))).cell? ⟨g, 11, none⟩ = some (.bool s.f.over) ∧ (((((((((((((w1.setCell ⟨w.heap.size, 0, none⟩ (.int .i64 s.c.codec)).setCell ⟨w.heap.size, 1, none⟩ (.int .i64 s.c.sum)).setCell ⟨w.heap.size, 2, none⟩ (.int .i64 s.c.most)).setCell ⟨w.heap.size, 3, none⟩ (.int .i64 s.c.map)).setCell ⟨w.heap.size, 4, none⟩ ((.slice am s.ms.length cm))).setCell ⟨w.heap.size, 5, none⟩ (.int .i64 (s.nx : Int))).setCell ⟨w.heap.size, 6, none⟩ ((.slice ag s.gs.length cg))).setCell ⟨w.heap.size, 7, none⟩ (.string (bzL s.f.held))).setCell ⟨w.heap.size, 8, none⟩ (.bool s.f.over)).setCell ⟨w.heap.size, 9, none⟩ (.string (bzL s.h.held))).setCell ⟨w.heap.size, 10, none⟩ (.bool s.h.over)).setCell ⟨w.heap.size, 11, none⟩ ((.slice at_ s.ts.length ct))).setCell ⟨w.heap.size, 12, none⟩ ((.slice ab s.bs.length cb))).cell? ⟨g, 12, none⟩ = some ((.slice at_ s.ts.length ct)) from ⟨hf12.cell rfl, hf12.cell rfl, hf12.cell rfl, hf12.cell rfl, hf12.cell rfl, hf12.cell rfl, hf12.cell rfl, hf12.cell rfl, hf12.cell rfl, hf12.cell rfl, hf12.cell rfl, hf12.cell rfl, hf12.cell rfl⟩)
 refine wpAnyH_ready (rs := [40]) (by kernel_rfl) (by simp) ?_
 refine AllReadyH.cons rfl (fun K hK => ?_) AllReadyH.nil
 (try simp only [gT, gS, gZ])
 skip
 go_simp
 skip
 refine hK.out _ _ hS (fun hHeld => ?_)
 clear hK K
 refine wpAnyH_done (by kernel_rfl) ?_ _
 have hq0 : BK _ w.heap.size #[.int .i64 s.c.codec, .int .i64 0, .int .i64 0, .int .i64 0, .slice none 0 0, .int .i64 0, .slice none 0 0, .string ⟨#[]⟩, .bool false, .string ⟨#[]⟩, .bool false, .slice none 0 0, .slice none 0 0] 32 := hqd.set 0 (.int .i64 s.c.codec)
 have hq1 : BK _ w.heap.size #[.int .i64 s.c.codec, .int .i64 s.c.sum, .int .i64 0, .int .i64 0, .slice none 0 0, .int .i64 0, .slice none 0 0, .string ⟨#[]⟩, .bool false, .string ⟨#[]⟩, .bool false, .slice none 0 0, .slice none 0 0] 32 := hq0.set 1 (.int .i64 s.c.sum)
 have hq2 : BK _ w.heap.size #[.int .i64 s.c.codec, .int .i64 s.c.sum, .int .i64 s.c.most, .int .i64 0, .slice none 0 0, .int .i64 0, .slice none 0 0, .string ⟨#[]⟩, .bool false, .string ⟨#[]⟩, .bool false, .slice none 0 0, .slice none 0 0] 32 := hq1.set 2 (.int .i64 s.c.most)
 have hq3 : BK _ w.heap.size #[.int .i64 s.c.codec, .int .i64 s.c.sum, .int .i64 s.c.most, .int .i64 s.c.map, .slice none 0 0, .int .i64 0, .slice none 0 0, .string ⟨#[]⟩, .bool false, .string ⟨#[]⟩, .bool false, .slice none 0 0, .slice none 0 0] 32 := hq2.set 3 (.int .i64 s.c.map)
 have hq4 : BK _ w.heap.size #[.int .i64 s.c.codec, .int .i64 s.c.sum, .int .i64 s.c.most, .int .i64 s.c.map, (.slice am s.ms.length cm), .int .i64 0, .slice none 0 0, .string ⟨#[]⟩, .bool false, .string ⟨#[]⟩, .bool false, .slice none 0 0, .slice none 0 0] 32 := hq3.set 4 ((.slice am s.ms.length cm))
 have hq5 : BK _ w.heap.size #[.int .i64 s.c.codec, .int .i64 s.c.sum, .int .i64 s.c.most, .int .i64 s.c.map, (.slice am s.ms.length cm), .int .i64 (s.nx : Int), .slice none 0 0, .string ⟨#[]⟩, .bool false, .string ⟨#[]⟩, .bool false, .slice none 0 0, .slice none 0 0] 32 := hq4.set 5 (.int .i64 (s.nx : Int))
 have hq6 : BK _ w.heap.size #[.int .i64 s.c.codec, .int .i64 s.c.sum, .int .i64 s.c.most, .int .i64 s.c.map, (.slice am s.ms.length cm), .int .i64 (s.nx : Int), (.slice ag s.gs.length cg), .string ⟨#[]⟩, .bool false, .string ⟨#[]⟩, .bool false, .slice none 0 0, .slice none 0 0] 32 := hq5.set 6 ((.slice ag s.gs.length cg))
 have hq7 : BK _ w.heap.size #[.int .i64 s.c.codec, .int .i64 s.c.sum, .int .i64 s.c.most, .int .i64 s.c.map, (.slice am s.ms.length cm), .int .i64 (s.nx : Int), (.slice ag s.gs.length cg), .string (bzL s.f.held), .bool false, .string ⟨#[]⟩, .bool false, .slice none 0 0, .slice none 0 0] 32 := hq6.set 7 (.string (bzL s.f.held))
 have hq8 : BK _ w.heap.size #[.int .i64 s.c.codec, .int .i64 s.c.sum, .int .i64 s.c.most, .int .i64 s.c.map, (.slice am s.ms.length cm), .int .i64 (s.nx : Int), (.slice ag s.gs.length cg), .string (bzL s.f.held), .bool s.f.over, .string ⟨#[]⟩, .bool false, .slice none 0 0, .slice none 0 0] 32 := hq7.set 8 (.bool s.f.over)
 have hq9 : BK _ w.heap.size #[.int .i64 s.c.codec, .int .i64 s.c.sum, .int .i64 s.c.most, .int .i64 s.c.map, (.slice am s.ms.length cm), .int .i64 (s.nx : Int), (.slice ag s.gs.length cg), .string (bzL s.f.held), .bool s.f.over, .string (bzL s.h.held), .bool false, .slice none 0 0, .slice none 0 0] 32 := hq8.set 9 (.string (bzL s.h.held))
 have hq10 : BK _ w.heap.size #[.int .i64 s.c.codec, .int .i64 s.c.sum, .int .i64 s.c.most, .int .i64 s.c.map, (.slice am s.ms.length cm), .int .i64 (s.nx : Int), (.slice ag s.gs.length cg), .string (bzL s.f.held), .bool s.f.over, .string (bzL s.h.held), .bool s.h.over, .slice none 0 0, .slice none 0 0] 32 := hq9.set 10 (.bool s.h.over)
 have hq11 : BK _ w.heap.size #[.int .i64 s.c.codec, .int .i64 s.c.sum, .int .i64 s.c.most, .int .i64 s.c.map, (.slice am s.ms.length cm), .int .i64 (s.nx : Int), (.slice ag s.gs.length cg), .string (bzL s.f.held), .bool s.f.over, .string (bzL s.h.held), .bool s.h.over, (.slice at_ s.ts.length ct), .slice none 0 0] 32 := hq10.set 11 ((.slice at_ s.ts.length ct))
 have hq12 : BK _ w.heap.size #[.int .i64 s.c.codec, .int .i64 s.c.sum, .int .i64 s.c.most, .int .i64 s.c.map, (.slice am s.ms.length cm), .int .i64 (s.nx : Int), (.slice ag s.gs.length cg), .string (bzL s.f.held), .bool s.f.over, .string (bzL s.h.held), .bool s.h.over, (.slice at_ s.ts.length ct), (.slice ab s.bs.length cb)] 32 := hq11.set 12 ((.slice ab s.bs.length cb))
 have hq := hq12
 obtain ⟨y0, y1, y2, y3, y4, y5, y6, y7, y8, y9, y10, y11, y12⟩ := cells13 hq
 clear hS z0 z1 z2 z3 z4 z5 z6 z7 z8 z9 z10 z11 z12 f0 f1 f2 f3 f4 f5 f6 f7 f8 f9 f10 f11 f12 hf0 hf1 hf2 hf3 hf4 hf5 hf6 hf7 hf8 hf9 hf10 hf11 hf12 hq0 hq1 hq2 hq3 hq4 hq5 hq6 hq7 hq8 hq9 hq10 hq11 hq12 hq
 go_wp2
 refine bodyPost_ret (v := lnV s.c.codec s.c.sum s.c.most s.c.map (.slice am s.ms.length cm) (s.nx : Int) (.slice ag s.gs.length cg) (bzL s.f.held) s.f.over (bzL s.h.held) s.h.over (.slice at_ s.ts.length ct) (.slice ab s.bs.length cb)) (by simp [results, Tryz.results40, go_sem, y0, y1, y2, y3, y4, y5, y6, y7, y8, y9, y10, y11, y12]) rfl ⟨rfl, ?_⟩
 exact (((((((((((((hbd.setCell (p := ⟨w.heap.size, 0, none⟩) (by simp) _).setCell (p := ⟨w.heap.size, 1, none⟩) (by simp) _).setCell (p := ⟨w.heap.size, 2, none⟩) (by simp) _).setCell (p := ⟨w.heap.size, 3, none⟩) (by simp) _).setCell (p := ⟨w.heap.size, 4, none⟩) (by simp) _).setCell (p := ⟨w.heap.size, 5, none⟩) (by simp) _).setCell (p := ⟨w.heap.size, 6, none⟩) (by simp) _).setCell (p := ⟨w.heap.size, 7, none⟩) (by simp) _).setCell (p := ⟨w.heap.size, 8, none⟩) (by simp) _).setCell (p := ⟨w.heap.size, 9, none⟩) (by simp) _).setCell (p := ⟨w.heap.size, 10, none⟩) (by simp) _).setCell (p := ⟨w.heap.size, 11, none⟩) (by simp) _).setCell (p := ⟨w.heap.size, 12, none⟩) (by simp) _)
end Go.Proofs.YtmggoiabcboaiaaGreat
namespace Go.Proofs.YtmggoiabcboaiaaGreat
open Go.ChangeShapes Go.WideShapes Go.ChangeAt Go.RowKit
set_option linter.unusedVariables false
theorem takeP_ts (s : Ls) (F : ByteArray) : (s.takeP F).ts = s.ts := by
 unfold Ls.takeP
 cases F.data.toList with
 | nil => rfl
 | cons b r =>
  unfold Ls.takeL
  simp only
  split
  ·unfold Ls.told Ls.kept
   split <;> split <;> rfl
  ·rfl
theorem takes_ts (l : List ByteArray) : ∀ s : Ls, (l.foldl Ls.takeP s).ts = s.ts := by
 induction l with
 | nil => intro s; rfl
 | cons F r ih => intro s; exact (ih _).trans (takeP_ts s F)
theorem confP_bs (s : Ls) (A : ByteArray) : (s.confP A).bs = s.bs := by unfold Ls.confP; split <;> rfl
theorem confs_bs (l : List ByteArray) : ∀ s : Ls, (l.foldl Ls.confP s).bs = s.bs := by
 induction l with
 | nil => intro s; rfl
 | cons F r ih => intro s; exact (ih _).trans (confP_bs s F)
theorem there_ts (s : Ls) : s.there.ts = s.ts.tail := by
 unfold Ls.there
 cases h : s.ts with
 | nil => rw [h]; rfl
 | cons t r => simp only; rw [takes_ts]; rfl
theorem here_bs (s : Ls) : s.here.bs = s.bs.tail := by
 unfold Ls.here
 cases h : s.bs with
 | nil => rw [h]; rfl
 | cons t r => simp only; rw [confs_bs]; rfl
def Ls.drainT : Nat → Ls → Ls
 | 0, s => s
 | n + 1, s => Ls.drainT n s.there
def Ls.drainB : Nat → Ls → Ls
 | 0, s => s
 | n + 1, s => Ls.drainB n s.here
def Ls.allT (s : Ls) : Ls := Ls.drainT s.ts.length s
def Ls.allB (s : Ls) : Ls := Ls.drainB s.bs.length s
theorem allT_nil {s : Ls} (h : s.ts = []) : s.allT = s := by unfold Ls.allT; rw [h]; rfl
theorem allB_nil {s : Ls} (h : s.bs = []) : s.allB = s := by unfold Ls.allB; rw [h]; rfl
theorem allT_cons {s : Ls} (h : s.ts ≠ []) : s.there.allT = s.allT := by
 unfold Ls.allT
 rw [there_ts]
 cases ht : s.ts with
 | nil => exact absurd ht h
 | cons t r => rfl
theorem allB_cons {s : Ls} (h : s.bs ≠ []) : s.here.allB = s.allB := by
 unfold Ls.allB
 rw [here_bs]
 cases ht : s.bs with
 | nil => exact absurd ht h
 | cons t r => rfl
def Ls.calmP (s : Ls) : Ls := s.allT.allB.sendP
def Ls.calmN : Nat → Ls → Ls
 | 0, s => s
 | n + 1, s => (Ls.calmN n s).calmP
theorem Ls.Ok.drainT : ∀ (n : Nat) {s : Ls}, s.Ok → (Ls.drainT n s).Ok
 | 0, _, h => h
 | n + 1, _, h => Ls.Ok.drainT n h.there
theorem Ls.Ok.drainB : ∀ (n : Nat) {s : Ls}, s.Ok → (Ls.drainB n s).Ok
 | 0, _, h => h
 | n + 1, _, h => Ls.Ok.drainB n h.here
theorem Ls.Ok.calmP {s : Ls} (h : s.Ok) : s.calmP.Ok := (Ls.Ok.drainB _ (Ls.Ok.drainT _ h)).sendP
theorem Ls.Ok.calmN : ∀ (n : Nat) {s : Ls}, s.Ok → (Ls.calmN n s).Ok
 | 0, _, h => h
 | n + 1, _, h => (Ls.Ok.calmN n h).calmP
def wireLen (w : World) (g i : Nat) : Nat := match w.cell? ⟨g, i, none⟩ with
 | some (.slice _ n _) => n
 | _ => 0
theorem wire_to {w : World} {base g : Nat} {s : Ls} (h : LK w base g s) : wireLen w g 12 = s.ts.length := by
 obtain ⟨vm, vb, vg, vt, h⟩ := h
 obtain ⟨a, c, e⟩ := h.ot.reads.shape
 have hc : w.cell? ⟨g, 12, none⟩ = some vt := h.bk.cell rfl
 unfold wireLen
 rw [hc, e]
theorem wire_back {w : World} {base g : Nat} {s : Ls} (h : LK w base g s) : wireLen w g 8 = s.bs.length := by
 obtain ⟨vm, vb, vg, vt, h⟩ := h
 obtain ⟨a, c, e⟩ := h.ob.reads.shape
 have hc : w.cell? ⟨g, 8, none⟩ = some vb := h.bk.cell rfl
 unfold wireLen
 rw [hc, e]
set_option maxRecDepth 100000 in
set_option maxHeartbeats 1000000 in
theorem calm_any (s : Ls) (hs : s.Ok) (w : World) (base g : Nat) (h : LK w base g s) :
  Calls Tryz.prog 47 #[.pointer (some ⟨g, 0, none⟩)] w fun e w' => e = .returned (.tuple #[]) ∧ LK w' base g s.calmP ∧ Below base w w' := by
 have HK := Lib.hid h
 have HS := Lib.hid hs
 clear h hs
 go_enter Tryz.func47, Tryz.ntmps47
 go_wp2
 go_loopw [] (fun wr => ∃ q : Ls, q.Ok ∧ LK wr base g q ∧ q.allT = s.allT ∧ Below base w wr) (fun wr => wireLen wr g 12)
 case atStart => exact ⟨s, HS.out, HK.out, rfl, Below.refl _ _⟩
 case round =>
  obtain ⟨q, hq, hk, hall, hb⟩ := hrel
  have HQ := Lib.hid hq
  have HKq := Lib.hid hk
  have HA := Lib.hid hall
  have HB := Lib.hid hb
  have HM := Lib.hid (wire_to hk)
  clear hq hk hall hb
  go_wp2_with fail
  refine (do_any q HQ.out 2 (by decide) _ base g HKq.out).mono ?_
  rintro e w2 ⟨⟨b, rfl, h2, _⟩, hk2, hb2⟩
  have hb' := h2 rfl
  subst hb'
  have HK2 := Lib.hid (show LK w2 base g q.there from hk2)
  have HB2 := Lib.hid (HB.out.trans hb2)
  clear hk2 hb2 h2
  by_cases ht : q.ts = []
  ·have he : (!q.ts.isEmpty) = false := by rw [ht]; rfl
   rw [he]
   have hth : q.there = q := by unfold Ls.there; rw [ht]
   rw [hth] at HK2
   have HAT := Lib.hid (show q = s.allT from (allT_nil ht).symm.trans HA.out)
   clear he hth ht
   go_wp2
   go_loopw [] (fun wr => ∃ p : Ls, p.Ok ∧ LK wr base g p ∧ p.allB = s.allT.allB ∧ Below base w wr) (fun wr => wireLen wr g 8)
   case atStart => exact ⟨q, HQ.out, HK2.out, by rw [HAT.out], HB2.out⟩
   case round =>
    obtain ⟨p, hp, hk, hall, hb⟩ := hrel
    have HP := Lib.hid hp
    have HKp := Lib.hid hk
    have HAp := Lib.hid hall
    have HBp := Lib.hid hb
    have HMp := Lib.hid (wire_back hk)
    clear hp hk hall hb
    go_wp2_with fail
    refine (do_any p HP.out 3 (by decide) _ base g HKp.out).mono ?_
    rintro e w3 ⟨⟨b, rfl, _, h3⟩, hk3, hb3⟩
    have hb' := h3 rfl
    subst hb'
    have HK3 := Lib.hid (show LK w3 base g p.here from hk3)
    have HB3 := Lib.hid (HBp.out.trans hb3)
    clear hk3 hb3 h3
    by_cases ht : p.bs = []
    ·have he : (!p.bs.isEmpty) = false := by rw [ht]; rfl
     rw [he]
     have hth : p.here = p := by unfold Ls.here; rw [ht]
     rw [hth] at HK3
     have HPB := Lib.hid (show p = s.allT.allB from (allB_nil ht).symm.trans HAp.out)
     clear he hth ht
     go_wp2_with fail
     refine (do_any p HP.out 1 (by decide) _ base g HK3.out).mono ?_
     rintro e w4 ⟨⟨b, rfl, _, _⟩, hk4, hb4⟩
     have HK4 := Lib.hid (show LK w4 base g p.sendP from hk4)
     have HB4 := Lib.hid (HB3.out.trans hb4)
     clear hk4 hb4
     go_wp2
     go_end0
     exact ⟨rfl, by unfold Ls.calmP; rw [← HPB.out]; exact HK4.out, HB4.out⟩
    ·have he : (!p.bs.isEmpty) = true := by cases h : p.bs with | nil => exact absurd h ht | cons a r => rfl
     rw [he]
     have HT := Lib.hid ht
     clear he ht
     go_wp2
     go_roundw
     case rel => exact ⟨p.here, HP.out.here, HK3.out, (allB_cons HT.out).trans HAp.out, HB3.out⟩
     case measure =>
      rw [wire_back HK3.out, HMp.out, here_bs, List.length_tail]
      have := List.length_pos_iff.2 HT.out
      omega
  ·have he : (!q.ts.isEmpty) = true := by cases h : q.ts with | nil => exact absurd h ht | cons a r => rfl
   rw [he]
   have HT := Lib.hid ht
   clear he ht
   go_wp2
   go_roundw
   case rel => exact ⟨q.there, HQ.out.there, HK2.out, (allT_cons HT.out).trans HA.out, HB2.out⟩
   case measure =>
    rw [wire_to HK2.out, HM.out, there_ts, List.length_tail]
    have := List.length_pos_iff.2 HT.out
    omega
end Go.Proofs.YtmggoiabcboaiaaGreat
