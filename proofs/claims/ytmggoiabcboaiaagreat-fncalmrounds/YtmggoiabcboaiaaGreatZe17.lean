/- Parts of a proof, 17: LkE LkF. -/
import Derived.Test.YtmggoiabcboaiaaGreatZe1
import Derived.Test.YtmggoiabcboaiaaGreatZe2
import Derived.Test.YtmggoiabcboaiaaGreatZe3
import Derived.Test.YtmggoiabcboaiaaGreatZe4
import Derived.Test.YtmggoiabcboaiaaGreatZe5
import Derived.Test.YtmggoiabcboaiaaGreatZe6
import Derived.Test.YtmggoiabcboaiaaGreatZe7
import Derived.Test.YtmggoiabcboaiaaGreatZe8
import Derived.Test.YtmggoiabcboaiaaGreatZe9
import Derived.Test.YtmggoiabcboaiaaGreatZe10
import Derived.Test.YtmggoiabcboaiaaGreatZe11
import Derived.Test.YtmggoiabcboaiaaGreatZe12
import Derived.Test.YtmggoiabcboaiaaGreatZe13
import Derived.Test.YtmggoiabcboaiaaGreatZe14
import Derived.Test.YtmggoiabcboaiaaGreatZe15
import Derived.Test.YtmggoiabcboaiaaGreatZe16
namespace Go.Proofs.YtmggoiabcboaiaaGreat
open Go.ChangeShapes Go.WideShapes Go.ChangeAt Go.RowKit
set_option linter.unusedVariables false
theorem codec_wf {c : Cf} (h : confB c = true) : (Lit.int .i64 c.codec).wf = true := by
 rcases (confB_yes h).1 with e | e | e <;> rw [e] <;> decide
def StepPost (w : World) (base g : Nat) (s' : Ls) (e : Ending) (w' : World) : Prop := (∃ b, e = .returned (.bool b)) ∧ LK w' base g s' ∧ Below base w w'
theorem Ls.sendP_no {s : Ls} (h : ¬ (s.nx < s.ms.length ∧ s.ts.length < 5)) : s.sendP = s := by unfold Ls.sendP; rw [if_neg h]
theorem Ls.sendP_yes {s : Ls} (h : s.nx < s.ms.length ∧ s.ts.length < 5) : s.sendP = { s with ts := s.ts ++ [bzL (sendA s.c (parB s.nx :: (s.ms[s.nx]'h.1).data.toList))] } := by
 unfold Ls.sendP
 rw [if_pos h, List.getD_eq_getElem?_getD, List.getElem?_eq_getElem h.1]
 rfl
theorem cell_keep {w w' : World} (hb : Below w.heap.size w w') {p : Addr} {v : Value} (h : w.cell? p = some v) : w'.cell? p = some v := (hb.cell (block_lt_of_cell h)).trans h
theorem wp_cell {w w' : World} {base g i : Nat} {cs : Array Value} {t : TypeId} {v : Value} {ss : List ByteArray} (h : WPost w base g i cs t v ss w') {p : Addr} (h1 : p.block ≠ g) (h2 : v.ownBlock ≠ some p.block) {x : Value} (hx : w.cell? p = some x) : w'.cell? p = some x := by
 obtain ⟨v', _, _, _, _, _, _, _, hk⟩ := h
 have := hk p.block (block_lt_of_cell hx) h1 h2
 unfold World.cell? at hx ⊢
 rw [this]
 exact hx
theorem sent_cells {w w' : World} {base g gm n cm k : Nat} {s : Ls} {vb vg vt x : Value} {ts : List ByteArray} (h : LKat w base g s (.slice (some ⟨gm, 0, none⟩) n cm) vb vg vt) (hp : WPost w base g 12 (lkC s (.slice (some ⟨gm, 0, none⟩) n cm) vb vg vt) 92 vt ts w')
  (hS : (w.cell? ⟨g, 0, none⟩ = some (.int .i64 s.c.codec) ∧ w.cell? ⟨g, 1, none⟩ = some (.int .i64 s.c.sum) ∧ w.cell? ⟨g, 2, none⟩ = some (.int .i64 s.c.most) ∧ w.cell? ⟨g, 3, none⟩ = some (.int .i64 s.c.map) ∧ w.cell? ⟨g, 4, none⟩ = some (.slice (some ⟨gm, 0, none⟩) n cm) ∧ w.cell? ⟨g, 5, none⟩ = some (.int .i64 (s.nx : Int)) ∧ w.cell? ⟨gm, k, none⟩ = some x)) :
  (w'.cell? ⟨g, 0, none⟩ = some (.int .i64 s.c.codec) ∧ w'.cell? ⟨g, 1, none⟩ = some (.int .i64 s.c.sum) ∧ w'.cell? ⟨g, 2, none⟩ = some (.int .i64 s.c.most) ∧ w'.cell? ⟨g, 3, none⟩ = some (.int .i64 s.c.map) ∧ w'.cell? ⟨g, 4, none⟩ = some (.slice (some ⟨gm, 0, none⟩) n cm) ∧ w'.cell? ⟨g, 5, none⟩ = some (.int .i64 (s.nx : Int)) ∧ w'.cell? ⟨gm, k, none⟩ = some x) := by
 obtain ⟨v', hk, _⟩ := id hp
 refine ⟨hk.cell rfl, hk.cell rfl, hk.cell rfl, hk.cell rfl, hk.cell rfl, hk.cell rfl, wp_cell hp ?_ ?_ hS.2.2.2.2.2.2⟩
 ·intro e
  exact own_link h.bk h.om (by simp [Value.ownBlock]; exact e)
 ·intro e
  rcases h.ap.1.2.1 with h1 | h1
  ·simp [Value.ownBlock] at h1
  ·exact h1 (by rw [e]; rfl)
set_option maxRecDepth 100000 in
set_option maxHeartbeats 1000000 in
theorem send_any (s : Ls) (hs : s.Ok) (w : World) (base g : Nat) (h : LK w base g s) :
  Calls Tryz.prog 65 #[.pointer (some ⟨g, 0, none⟩)] w (StepPost w base g s.sendP) := by
 have hwf := codec_wf hs.conf
 have hml := hs.ml
 have hnx := hs.nxl
 obtain ⟨vm, vb, vg, vt, H⟩ := h
 have HK := Lib.hid H
 obtain ⟨am, cm, rfl⟩ := H.om.reads.shape
 have c0 : w.cell? ⟨g, 0, none⟩ = some (.int .i64 s.c.codec) := H.bk.cell rfl
 have c1 : w.cell? ⟨g, 1, none⟩ = some (.int .i64 s.c.sum) := H.bk.cell rfl
 have c2 : w.cell? ⟨g, 2, none⟩ = some (.int .i64 s.c.most) := H.bk.cell rfl
 have c3 : w.cell? ⟨g, 3, none⟩ = some (.int .i64 s.c.map) := H.bk.cell rfl
 have c4 : w.cell? ⟨g, 4, none⟩ = some (.slice am s.ms.length cm) := H.bk.cell rfl
 have c5 : w.cell? ⟨g, 5, none⟩ = some (.int .i64 (s.nx : Int)) := H.bk.cell rfl
 by_cases hlt : s.nx < s.ms.length
 ·obtain ⟨gm, cm', e, _, _⟩ := H.om.pos (by omega)
  injection e with e1 _ e2
  subst e1 e2
  have hmz := hs.mz s.ms[s.nx] (List.getElem_mem hlt)
  have hmost := (confB_yes hs.conf).2.2.1
  have d0 : w.cell? ⟨gm, s.nx, none⟩ = some (.string s.ms[s.nx]) := H.om.cellAt hlt
  have HFS := Lib.hid (fun (T : ByteArray) (u : World) (hT : T.size ≤ maxLen) => implFindSend_any s.c.codec s.c.sum s.c.most s.c.map T u hwf hT)
  clear hwf
  have HS := Lib.hid hs
  by_cases h5 : s.ts.length < 5
  ·have HE := Lib.hid (Ls.sendP_yes (s := s) ⟨hlt, h5⟩)
   generalize s.ms[s.nx] = T at *
   have hTs : T.size ≤ 39 := by omega
   go_enter Tryz.func65, Tryz.ntmps65
   go_wp2_with fail
   go_region
   go_wp2_with fail
   have hS := And.intro c0 (And.intro c1 (And.intro c2 (And.intro c3 (And.intro c4 (And.intro c5 d0)))))
   clear c0 c1 c2 c3 c4 c5 d0
   refine wp_region_held_drew (S := (fun wx => wx.cell? ⟨g, 0, none⟩ = some (.int .i64 s.c.codec) ∧ wx.cell? ⟨g, 1, none⟩ = some (.int .i64 s.c.sum) ∧ wx.cell? ⟨g, 2, none⟩ = some (.int .i64 s.c.most) ∧ wx.cell? ⟨g, 3, none⟩ = some (.int .i64 s.c.map) ∧ wx.cell? ⟨g, 4, none⟩ = some (.slice (some ⟨gm, 0, none⟩) s.ms.length cm) ∧ wx.cell? ⟨g, 5, none⟩ = some (.int .i64 (s.nx : Int)) ∧ wx.cell? ⟨gm, s.nx, none⟩ = some (.string T))) (by kernel_rfl) hS (fun hHeld => ?_)
   refine tkH 0 ?_ rfl (Or.inl ⟨by rfl, ?_⟩) ?_; rotate_left
   ·intro wq hSw; (try dsimp only at hSw); (try simp only [gT, gZ]); go_simp; (try with_reducible rfl)
   simp only [Act.put, gT, gZ, sT, sZ, sS]
   refine tkH 1 ?_ rfl (Or.inl ⟨by rfl, ?_⟩) ?_; rotate_left
   ·intro wq hSw; (try dsimp only at hSw); (try simp only [gT, gS, gZ]); go_simp; (try with_reducible rfl)
   simp only [Act.put, gT, gS, gZ, sT, sZ, sS]
   refine tkH 2 ?_ rfl (Or.inl ⟨by rfl, ?_⟩) ?_; rotate_left
   ·intro wq hSw; (try dsimp only at hSw); (try simp only [gT, gS, gZ]); go_simp; (try with_reducible rfl)
   simp only [Act.put, gT, gS, gZ, sT, sZ, sS]
   refine tkH 3 ?_ rfl (Or.inl ⟨by rfl, ?_⟩) ?_; rotate_left
   ·intro wq hSw; (try dsimp only at hSw); (try simp only [gT, gS, gZ]); go_simp; (try with_reducible rfl)
   simp only [Act.put, gT, gS, gZ, sT, sZ, sS]
   refine tkH 4 ?_ rfl (Or.inl ⟨by rfl, ?_⟩) ?_; rotate_left
   ·intro wq hSw; (try dsimp only at hSw); (try simp only [gT, gS, gZ]); go_simp; (try with_reducible rfl)
   simp only [Act.put, gT, gS, gZ, sT, sZ, sS]
   refine tkH 5 ?_ rfl (Or.inl ⟨by rfl, ?_⟩) ?_; rotate_left
   ·intro wq hSw; (try dsimp only at hSw); (try simp only [gT, gS, gZ]); go_simp; (try with_reducible rfl)
   simp only [Act.put, gT, gS, gZ, sT, sZ, sS]
   refine tkH 6 ?_ rfl (Or.inl ⟨by rfl, ?_⟩) ?_; rotate_left
   ·intro wq hSw; (try dsimp only at hSw); (try simp only [gT, gS, gZ]); go_simp; (try with_reducible rfl)
   simp only [Act.put, gT, gS, gZ, sT, sZ, sS]
   refine tkH 7 ?_ rfl (Or.inl ⟨by rfl, ?_⟩) ?_; rotate_left
   ·intro wq hSw; (try dsimp only at hSw); (try simp only [gT, gS, gZ]); go_simp; (try with_reducible rfl)
   simp only [Act.put, gT, gS, gZ, sT, sZ, sS]
   refine tkH 8 ?_ rfl (Or.inl ⟨by rfl, ?_⟩) ?_; rotate_left
   ·intro wq hSw; (try dsimp only at hSw); (try simp only [gT, gS, gZ]); go_simp; (try with_reducible rfl)
   simp only [Act.put, gT, gS, gZ, sT, sZ, sS]
   refine tkH 9 ?_ rfl (Or.inl ⟨by rfl, ?_⟩) ?_; rotate_left
   ·intro wq hSw; (try dsimp only at hSw); (try simp only [gT, gS, gZ]); go_simp; (try with_reducible rfl)
   simp only [Act.put, gT, gS, gZ, sT, sZ, sS]
   refine tkH 10 ?_ rfl (Or.inl ⟨by rfl, ?_⟩) ?_; rotate_left
   ·intro wq hSw; (try dsimp only at hSw); (try simp only [gT, gS, gZ]); go_simp; (try with_reducible rfl)
   simp only [Act.put, gT, gS, gZ, sT, sZ, sS]
   refine tkH 11 ?_ rfl (Or.inl ⟨by rfl, ?_⟩) ?_; rotate_left
   ·intro wq hSw; (try dsimp only at hSw); (try simp only [gT, gS, gZ]); go_simp; (try with_reducible rfl)
   simp only [Act.put, gT, gS, gZ, sT, sZ, sS]
   refine tkH 12 ?_ rfl (Or.inl ⟨by rfl, ?_⟩) ?_; rotate_left
   ·intro wq hSw; (try dsimp only at hSw); (try simp only [gT, gS, gZ]); go_simp; (try with_reducible rfl)
   simp only [Act.put, gT, gS, gZ, sT, sZ, sS]
   refine tkH 14 ?_ rfl (Or.inl ⟨by rfl, ?_⟩) ?_; rotate_left
   ·intro wq hSw; (try dsimp only at hSw); (try simp only [gT, gS, gZ]); go_simp; (try with_reducible rfl)
   simp only [Act.put, gT, gS, gZ, sT, sZ, sS]
   refine tkH 15 ?_ rfl (Or.inl ⟨by rfl, ?_⟩) ?_; rotate_left
   ·intro wq hSw; (try dsimp only at hSw); (try simp only [gT, gS, gZ]); go_simp; (try with_reducible rfl)
   simp only [Act.put, gT, gS, gZ, sT, sZ, sS]
   refine tkH 16 ?_ rfl (Or.inl ⟨by rfl, ?_⟩) ?_; rotate_left
   ·intro wq hSw; (try dsimp only at hSw); (try simp only [gT, gS, gZ]); go_simp; (try with_reducible rfl)
   simp only [Act.put, gT, gS, gZ, sT, sZ, sS]
   refine tkH 17 ?_ rfl (Or.inl ⟨by rfl, ?_⟩) ?_; rotate_left
   ·intro wq hSw; (try dsimp only at hSw); (try simp only [gT, gS, gZ]); go_simp; (try with_reducible rfl)
   simp only [Act.put, gT, gS, gZ, sT, sZ, sS]
   refine tkH 18 ?_ rfl (Or.inl ⟨by rfl, ?_⟩) ?_; rotate_left
   ·intro wq hSw; (try dsimp only at hSw); (try simp only [gT, gS, gZ]); go_simp; (try with_reducible rfl)
   simp only [Act.put, gT, gS, gZ, sT, sZ, sS]
   refine tkH 19 ?_ rfl (Or.inl ⟨by rfl, ?_⟩) ?_; rotate_left
   ·intro wq hSw; (try dsimp only at hSw); (try simp only [gT, gS, gZ]); go_simp; (try with_reducible rfl)
   simp only [Act.put, gT, gS, gZ, sT, sZ, sS]
   refine tkH 20 ?_ rfl (Or.inl ⟨by rfl, ?_⟩) ?_; rotate_left
   ·intro wq hSw; (try dsimp only at hSw); (try simp only [gT, gS, gZ]); go_simp; (try with_reducible rfl)
   simp only [Act.put, gT, gS, gZ, sT, sZ, sS]
   refine tkH 21 ?_ rfl (Or.inl ⟨by rfl, ?_⟩) ?_; rotate_left
   ·intro wq hSw; (try dsimp only at hSw); (try simp only [gT, gS, gZ]); go_simp; (try with_reducible rfl)
   simp only [Act.put, gT, gS, gZ, sT, sZ, sS]
   refine tkH 22 ?_ rfl (Or.inl ⟨by rfl, ?_⟩) ?_; rotate_left
   ·intro wq hSw; (try dsimp only at hSw); (try simp only [gT, gS, gZ]); go_simp; (try with_reducible rfl)
   simp only [Act.put, gT, gS, gZ, sT, sZ, sS]
   refine tkH 23 ?_ rfl (Or.inl ⟨by rfl, ?_⟩) ?_; rotate_left
   ·intro wq hSw; (try dsimp only at hSw); (try simp only [gT, gS, gZ]); go_simp; (try with_reducible rfl)
   simp only [Act.put, gT, gS, gZ, sT, sZ, sS]
   refine tkH 24 ?_ rfl (Or.inl ⟨by rfl, ?_⟩) ?_; rotate_left
   ·intro wq hSw; (try dsimp only at hSw); (try simp only [gT, gS, gZ]); go_simp; (try with_reducible rfl)
   simp only [Act.put, gT, gS, gZ, sT, sZ, sS]
   refine tkH 25 ?_ rfl (Or.inl ⟨by rfl, ?_⟩) ?_; rotate_left
   ·intro wq hSw; (try dsimp only at hSw); (try simp only [gT, gS, gZ]); go_simp; (try with_reducible rfl)
   simp only [Act.put, gT, gS, gZ, sT, sZ, sS]
   refine wpAnyH_ready (rs := [13]) (by kernel_rfl) (by simp) ?_
   refine AllReadyH.cons rfl (fun K hK => ?_) AllReadyH.nil
   (try simp only [gT, gS, gZ])
   go_simp
   go_at_call 88
   refine (parity_any s.nx _ (by omega)).mono ?_
   rintro e w1 ⟨rfl, rfl⟩
   refine hK.out _ _ hS (fun hHeld => ?_)
   clear hK K
   refine tkH 26 ?_ rfl (Or.inl ⟨by rfl, ?_⟩) ?_; rotate_left
   ·intro wq hSw; (try dsimp only at hSw); (try simp only [gT, gS, gZ]); go_simp; rw [if_neg (by omega)]; (try with_reducible rfl)
   simp only [Act.put, gT, gS, gZ, sT, sZ, sS]
   refine wpAnyH_ready (rs := [27]) (by kernel_rfl) (by simp) ?_
   refine AllReadyH.cons rfl (fun K hK => ?_) AllReadyH.nil
   (try simp only [gT, gS, gZ])
   go_simp
   go_at_call 87
   refine (HFS.out _ _ (by rw [ByteArray.size_append]; unfold maxLen; show 1 + T.size ≤ _; omega)).mono ?_
   rintro e w2 ⟨rfl, hb⟩
   have HK2 := Lib.hid ((HK.out.below (Below.refl _ _).drew.drew).below hb)
   have HB2 := Lib.hid (Below.trans (Below.refl w.heap.size w).drew.drew hb)
   have hS := And.intro (cell_keep hb hS.1) (And.intro (cell_keep hb hS.2.1) (And.intro (cell_keep hb hS.2.2.1) (And.intro (cell_keep hb hS.2.2.2.1) (And.intro (cell_keep hb hS.2.2.2.2.1) (And.intro (cell_keep hb hS.2.2.2.2.2.1) (cell_keep hb hS.2.2.2.2.2.2))))))
   refine hK.out _ _ hS (fun hHeld => ?_)
   clear hK K
   refine wpAnyH_ready (rs := [28]) (by kernel_rfl) (by simp) ?_
   refine AllReadyH.cons rfl (fun K hK => ?_) AllReadyH.nil
   (try simp only [gT, gS, gZ])
   go_simp
   go_at_call 86
   refine (put_room g 12 base _ _ _ s.ts _ _ HK2.out.wto HK2.out.bg h5).mono ?_
   rintro e w3 ⟨rfl, hp⟩
   have hS := sent_cells HK2.out hp hS
   have HT := Lib.hid (turn_to HK2.out hp)
   clear hp
   refine hK.out _ _ hS (fun hHeld => ?_)
   clear hK K
   refine tkH 29 ?_ rfl (Or.inl ⟨by rfl, ?_⟩) ?_; rotate_left
   ·intro wq hSw; (try dsimp only at hSw); (try simp only [gT, gS, gZ]); go_simp; (try with_reducible rfl)
   simp only [Act.put, gT, gS, gZ, sT, sZ, sS]
   refine wpAnyH_done (by kernel_rfl) ?_ _
   go_wp2
   go_ret
   exact ⟨⟨_, rfl⟩, by rw [HE.out]; exact HT.out.1, (HB2.out.mono HK.out.bw).trans HT.out.2⟩
  ·have HE := Lib.hid (Ls.sendP_no (s := s) (fun h => h5 h.2))
   generalize s.ms[s.nx] = T at *
   have hTs : T.size ≤ 39 := by omega
   have h5g : 5 ≤ s.ts.length := by omega
   have htl := hs.tl
   go_enter Tryz.func65, Tryz.ntmps65
   go_wp2_with fail
   go_region
   go_wp2_with fail
   have hS := And.intro c0 (And.intro c1 (And.intro c2 (And.intro c3 (And.intro c4 (And.intro c5 d0)))))
   clear c0 c1 c2 c3 c4 c5 d0
   refine wp_region_held_drew (S := (fun wx => wx.cell? ⟨g, 0, none⟩ = some (.int .i64 s.c.codec) ∧ wx.cell? ⟨g, 1, none⟩ = some (.int .i64 s.c.sum) ∧ wx.cell? ⟨g, 2, none⟩ = some (.int .i64 s.c.most) ∧ wx.cell? ⟨g, 3, none⟩ = some (.int .i64 s.c.map) ∧ wx.cell? ⟨g, 4, none⟩ = some (.slice (some ⟨gm, 0, none⟩) s.ms.length cm) ∧ wx.cell? ⟨g, 5, none⟩ = some (.int .i64 (s.nx : Int)) ∧ wx.cell? ⟨gm, s.nx, none⟩ = some (.string T))) (by kernel_rfl) hS (fun hHeld => ?_)
   refine tkH 0 ?_ rfl (Or.inl ⟨by rfl, ?_⟩) ?_; rotate_left
   ·intro wq hSw; (try dsimp only at hSw); (try simp only [gT, gZ]); go_simp; (try with_reducible rfl)
   simp only [Act.put, gT, gZ, sT, sZ, sS]
   refine tkH 1 ?_ rfl (Or.inl ⟨by rfl, ?_⟩) ?_; rotate_left
   ·intro wq hSw; (try dsimp only at hSw); (try simp only [gT, gS, gZ]); go_simp; (try with_reducible rfl)
   simp only [Act.put, gT, gS, gZ, sT, sZ, sS]
   refine tkH 2 ?_ rfl (Or.inl ⟨by rfl, ?_⟩) ?_; rotate_left
   ·intro wq hSw; (try dsimp only at hSw); (try simp only [gT, gS, gZ]); go_simp; (try with_reducible rfl)
   simp only [Act.put, gT, gS, gZ, sT, sZ, sS]
   refine tkH 3 ?_ rfl (Or.inl ⟨by rfl, ?_⟩) ?_; rotate_left
   ·intro wq hSw; (try dsimp only at hSw); (try simp only [gT, gS, gZ]); go_simp; (try with_reducible rfl)
   simp only [Act.put, gT, gS, gZ, sT, sZ, sS]
   refine tkH 4 ?_ rfl (Or.inl ⟨by rfl, ?_⟩) ?_; rotate_left
   ·intro wq hSw; (try dsimp only at hSw); (try simp only [gT, gS, gZ]); go_simp; (try with_reducible rfl)
   simp only [Act.put, gT, gS, gZ, sT, sZ, sS]
   refine tkH 5 ?_ rfl (Or.inl ⟨by rfl, ?_⟩) ?_; rotate_left
   ·intro wq hSw; (try dsimp only at hSw); (try simp only [gT, gS, gZ]); go_simp; (try with_reducible rfl)
   simp only [Act.put, gT, gS, gZ, sT, sZ, sS]
   refine tkH 6 ?_ rfl (Or.inl ⟨by rfl, ?_⟩) ?_; rotate_left
   ·intro wq hSw; (try dsimp only at hSw); (try simp only [gT, gS, gZ]); go_simp; (try with_reducible rfl)
   simp only [Act.put, gT, gS, gZ, sT, sZ, sS]
   refine tkH 7 ?_ rfl (Or.inl ⟨by rfl, ?_⟩) ?_; rotate_left
   ·intro wq hSw; (try dsimp only at hSw); (try simp only [gT, gS, gZ]); go_simp; (try with_reducible rfl)
   simp only [Act.put, gT, gS, gZ, sT, sZ, sS]
   refine tkH 8 ?_ rfl (Or.inl ⟨by rfl, ?_⟩) ?_; rotate_left
   ·intro wq hSw; (try dsimp only at hSw); (try simp only [gT, gS, gZ]); go_simp; (try with_reducible rfl)
   simp only [Act.put, gT, gS, gZ, sT, sZ, sS]
   refine tkH 9 ?_ rfl (Or.inl ⟨by rfl, ?_⟩) ?_; rotate_left
   ·intro wq hSw; (try dsimp only at hSw); (try simp only [gT, gS, gZ]); go_simp; (try with_reducible rfl)
   simp only [Act.put, gT, gS, gZ, sT, sZ, sS]
   refine tkH 10 ?_ rfl (Or.inl ⟨by rfl, ?_⟩) ?_; rotate_left
   ·intro wq hSw; (try dsimp only at hSw); (try simp only [gT, gS, gZ]); go_simp; (try with_reducible rfl)
   simp only [Act.put, gT, gS, gZ, sT, sZ, sS]
   refine tkH 11 ?_ rfl (Or.inl ⟨by rfl, ?_⟩) ?_; rotate_left
   ·intro wq hSw; (try dsimp only at hSw); (try simp only [gT, gS, gZ]); go_simp; (try with_reducible rfl)
   simp only [Act.put, gT, gS, gZ, sT, sZ, sS]
   refine tkH 12 ?_ rfl (Or.inl ⟨by rfl, ?_⟩) ?_; rotate_left
   ·intro wq hSw; (try dsimp only at hSw); (try simp only [gT, gS, gZ]); go_simp; (try with_reducible rfl)
   simp only [Act.put, gT, gS, gZ, sT, sZ, sS]
   refine tkH 14 ?_ rfl (Or.inl ⟨by rfl, ?_⟩) ?_; rotate_left
   ·intro wq hSw; (try dsimp only at hSw); (try simp only [gT, gS, gZ]); go_simp; (try with_reducible rfl)
   simp only [Act.put, gT, gS, gZ, sT, sZ, sS]
   refine tkH 15 ?_ rfl (Or.inl ⟨by rfl, ?_⟩) ?_; rotate_left
   ·intro wq hSw; (try dsimp only at hSw); (try simp only [gT, gS, gZ]); go_simp; (try with_reducible rfl)
   simp only [Act.put, gT, gS, gZ, sT, sZ, sS]
   refine tkH 16 ?_ rfl (Or.inl ⟨by rfl, ?_⟩) ?_; rotate_left
   ·intro wq hSw; (try dsimp only at hSw); (try simp only [gT, gS, gZ]); go_simp; (try with_reducible rfl)
   simp only [Act.put, gT, gS, gZ, sT, sZ, sS]
   refine tkH 17 ?_ rfl (Or.inl ⟨by rfl, ?_⟩) ?_; rotate_left
   ·intro wq hSw; (try dsimp only at hSw); (try simp only [gT, gS, gZ]); go_simp; (try with_reducible rfl)
   simp only [Act.put, gT, gS, gZ, sT, sZ, sS]
   refine tkH 18 ?_ rfl (Or.inl ⟨by rfl, ?_⟩) ?_; rotate_left
   ·intro wq hSw; (try dsimp only at hSw); (try simp only [gT, gS, gZ]); go_simp; (try with_reducible rfl)
   simp only [Act.put, gT, gS, gZ, sT, sZ, sS]
   refine tkH 19 ?_ rfl (Or.inl ⟨by rfl, ?_⟩) ?_; rotate_left
   ·intro wq hSw; (try dsimp only at hSw); (try simp only [gT, gS, gZ]); go_simp; (try with_reducible rfl)
   simp only [Act.put, gT, gS, gZ, sT, sZ, sS]
   refine tkH 20 ?_ rfl (Or.inl ⟨by rfl, ?_⟩) ?_; rotate_left
   ·intro wq hSw; (try dsimp only at hSw); (try simp only [gT, gS, gZ]); go_simp; (try with_reducible rfl)
   simp only [Act.put, gT, gS, gZ, sT, sZ, sS]
   refine tkH 21 ?_ rfl (Or.inl ⟨by rfl, ?_⟩) ?_; rotate_left
   ·intro wq hSw; (try dsimp only at hSw); (try simp only [gT, gS, gZ]); go_simp; (try with_reducible rfl)
   simp only [Act.put, gT, gS, gZ, sT, sZ, sS]
   refine tkH 22 ?_ rfl (Or.inl ⟨by rfl, ?_⟩) ?_; rotate_left
   ·intro wq hSw; (try dsimp only at hSw); (try simp only [gT, gS, gZ]); go_simp; (try with_reducible rfl)
   simp only [Act.put, gT, gS, gZ, sT, sZ, sS]
   refine tkH 23 ?_ rfl (Or.inl ⟨by rfl, ?_⟩) ?_; rotate_left
   ·intro wq hSw; (try dsimp only at hSw); (try simp only [gT, gS, gZ]); go_simp; (try with_reducible rfl)
   simp only [Act.put, gT, gS, gZ, sT, sZ, sS]
   refine tkH 24 ?_ rfl (Or.inl ⟨by rfl, ?_⟩) ?_; rotate_left
   ·intro wq hSw; (try dsimp only at hSw); (try simp only [gT, gS, gZ]); go_simp; (try with_reducible rfl)
   simp only [Act.put, gT, gS, gZ, sT, sZ, sS]
   refine tkH 25 ?_ rfl (Or.inl ⟨by rfl, ?_⟩) ?_; rotate_left
   ·intro wq hSw; (try dsimp only at hSw); (try simp only [gT, gS, gZ]); go_simp; (try with_reducible rfl)
   simp only [Act.put, gT, gS, gZ, sT, sZ, sS]
   refine wpAnyH_ready (rs := [13]) (by kernel_rfl) (by simp) ?_
   refine AllReadyH.cons rfl (fun K hK => ?_) AllReadyH.nil
   (try simp only [gT, gS, gZ])
   go_simp
   go_at_call 88
   refine (parity_any s.nx _ (by omega)).mono ?_
   rintro e w1 ⟨rfl, rfl⟩
   refine hK.out _ _ hS (fun hHeld => ?_)
   clear hK K
   refine tkH 26 ?_ rfl (Or.inl ⟨by rfl, ?_⟩) ?_; rotate_left
   ·intro wq hSw; (try dsimp only at hSw); (try simp only [gT, gS, gZ]); go_simp; rw [if_neg (by omega)]; (try with_reducible rfl)
   simp only [Act.put, gT, gS, gZ, sT, sZ, sS]
   refine wpAnyH_ready (rs := [27]) (by kernel_rfl) (by simp) ?_
   refine AllReadyH.cons rfl (fun K hK => ?_) AllReadyH.nil
   (try simp only [gT, gS, gZ])
   go_simp
   go_at_call 87
   refine (HFS.out _ _ (by rw [ByteArray.size_append]; unfold maxLen; show 1 + T.size ≤ _; omega)).mono ?_
   rintro e w2 ⟨rfl, hb⟩
   have HK2 := Lib.hid ((HK.out.below (Below.refl _ _).drew.drew).below hb)
   have HB2 := Lib.hid (Below.trans (Below.refl w.heap.size w).drew.drew hb)
   have hS := And.intro (cell_keep hb hS.1) (And.intro (cell_keep hb hS.2.1) (And.intro (cell_keep hb hS.2.2.1) (And.intro (cell_keep hb hS.2.2.2.1) (And.intro (cell_keep hb hS.2.2.2.2.1) (And.intro (cell_keep hb hS.2.2.2.2.2.1) (cell_keep hb hS.2.2.2.2.2.2))))))
   refine hK.out _ _ hS (fun hHeld => ?_)
   clear hK K
   refine wpAnyH_ready (rs := [28]) (by kernel_rfl) (by simp) ?_
   refine AllReadyH.cons rfl (fun K hK => ?_) AllReadyH.nil
   (try simp only [gT, gS, gZ])
   go_simp
   go_at_call 86
   refine (put_full g 12 base _ _ _ s.ts _ _ HK2.out.wto h5g (by omega)).mono ?_
   rintro e w3 ⟨rfl, rfl⟩
   refine hK.out _ _ hS (fun hHeld => ?_)
   clear hK K
   refine tkH 29 ?_ rfl (Or.inl ⟨by rfl, ?_⟩) ?_; rotate_left
   ·intro wq hSw; (try dsimp only at hSw); (try simp only [gT, gS, gZ]); go_simp; (try with_reducible rfl)
   simp only [Act.put, gT, gS, gZ, sT, sZ, sS]
   refine wpAnyH_done (by kernel_rfl) ?_ _
   go_wp2
   go_ret
   exact ⟨⟨_, rfl⟩, by rw [HE.out]; exact ⟨_, _, _, _, HK2.out⟩, HB2.out.mono HK.out.bw⟩
 ·have HE := Lib.hid (Ls.sendP_no (s := s) (fun h => hlt h.1))
  have hdec : decide ((s.ms.length : Int) ≤ (s.nx : Int)) = true := decide_eq_true (by omega)
  go_enter Tryz.func65, Tryz.ntmps65
  go_wp2_with fail
  go_region
  go_wp2
  go_ret
  refine ⟨⟨_, rfl⟩, ?_, ((Below.refl w.heap.size w).drew).mono HK.out.bw⟩
  rw [HE.out]
  exact LK.below ⟨_, _, _, _, HK.out⟩ (Below.refl _ _).drew
theorem lose_any (s : Ls) (hs : s.Ok) (w : World) (base g : Nat) (h : LK w base g s) :
  Calls Tryz.prog 68 #[.pointer (some ⟨g, 0, none⟩)] w (StepPost w base g { s with ts := s.ts.tail }) := by
 have hl := hs.tl
 have hz := hs.tz
 obtain ⟨vm, vb, vg, vt, H⟩ := h
 have HK := Lib.hid H
 have HW := Lib.hid H.wto
 cases ht : s.ts with
 | nil =>
  rw [ht] at HW
  have hse : ({ s with ts := [] } : Ls) = s := by rw [← ht]
  clear H
  go_enter Tryz.func68, Tryz.ntmps68
  go_wp2_with fail
  refine (take_none g 12 base _ _ _ _ HW.out).mono ?_
  rintro e w1 ⟨rfl, rfl⟩
  go_wp2
  go_ret
  exact ⟨⟨_, rfl⟩, by show LK _ _ _ { s with ts := [] }; rw [hse]; exact ⟨_, _, _, _, HK.out⟩, Below.refl _ _⟩
 | cons x r =>
  rw [ht] at HW hl hz
  simp only [List.length_cons] at hl
  clear H
  go_enter Tryz.func68, Tryz.ntmps68
  go_wp2_with fail
  refine (take_some g 12 base _ _ _ x r _ HW.out HK.out.bg (by omega) (fun y hy => hz y (by simp [hy]))).mono ?_
  rintro e w1 ⟨rfl, hp⟩
  have HT := Lib.hid (turn_to HK.out hp)
  clear hp
  go_wp2
  go_ret
  exact ⟨⟨_, rfl⟩, HT.out.1, HT.out.2⟩
theorem loseBack_any (s : Ls) (hs : s.Ok) (w : World) (base g : Nat) (h : LK w base g s) :
  Calls Tryz.prog 69 #[.pointer (some ⟨g, 0, none⟩)] w (StepPost w base g { s with bs := s.bs.tail }) := by
 have hl := hs.bl
 have hz := hs.bz
 obtain ⟨vm, vb, vg, vt, H⟩ := h
 have HK := Lib.hid H
 have HW := Lib.hid H.wback
 cases ht : s.bs with
 | nil =>
  rw [ht] at HW
  have hse : ({ s with bs := [] } : Ls) = s := by rw [← ht]
  clear H
  go_enter Tryz.func69, Tryz.ntmps69
  go_wp2_with fail
  refine (take_none g 8 base _ _ _ _ HW.out).mono ?_
  rintro e w1 ⟨rfl, rfl⟩
  go_wp2
  go_ret
  exact ⟨⟨_, rfl⟩, by show LK _ _ _ { s with bs := [] }; rw [hse]; exact ⟨_, _, _, _, HK.out⟩, Below.refl _ _⟩
 | cons x r =>
  rw [ht] at HW hl hz
  simp only [List.length_cons] at hl
  clear H
  go_enter Tryz.func69, Tryz.ntmps69
  go_wp2_with fail
  refine (take_some g 8 base _ _ _ x r _ HW.out HK.out.bg (by omega) (fun y hy => hz y (by simp [hy]))).mono ?_
  rintro e w1 ⟨rfl, hp⟩
  have HT := Lib.hid (turn_back HK.out hp)
  clear hp
  go_wp2
  go_ret
  exact ⟨⟨_, rfl⟩, HT.out.1, HT.out.2⟩
theorem rept_any (s : Ls) (hs : s.Ok) (w : World) (base g : Nat) (h : LK w base g s) :
  Calls Tryz.prog 70 #[.pointer (some ⟨g, 0, none⟩)] w (StepPost w base g { s with ts := twiceL s.ts }) := by
 have hl := hs.tl
 obtain ⟨vm, vb, vg, vt, H⟩ := h
 have HK := Lib.hid H
 have HW := Lib.hid H.wto
 cases ht : s.ts with
 | nil =>
  rw [ht] at HW
  have hse : ({ s with ts := [] } : Ls) = s := by rw [← ht]
  clear H
  go_enter Tryz.func70, Tryz.ntmps70
  go_wp2_with fail
  refine (twice_none g 12 base _ _ _ _ HW.out).mono ?_
  rintro e w1 ⟨rfl, rfl⟩
  go_wp2
  go_ret
  exact ⟨⟨_, rfl⟩, by show LK _ _ _ { s with ts := [] }; rw [hse]; exact ⟨_, _, _, _, HK.out⟩, Below.refl _ _⟩
 | cons x r =>
  by_cases h5 : (x :: r).length < 5
  ·have HE := Lib.hid (show twiceL (x :: r) = x :: x :: r by unfold twiceL; simp only; rw [if_pos h5])
   rw [ht] at HW
   simp only [List.length_cons] at h5
   clear H
   go_enter Tryz.func70, Tryz.ntmps70
   go_wp2_with fail
   refine (twice_room g 12 base _ _ _ x r _ HW.out HK.out.bg (by omega)).mono ?_
   rintro e w1 ⟨rfl, hp⟩
   have HT := Lib.hid (turn_to HK.out hp)
   clear hp
   go_wp2
   go_ret
   exact ⟨⟨_, rfl⟩, by rw [HE.out]; exact HT.out.1, HT.out.2⟩
  ·have HE := Lib.hid (show twiceL (x :: r) = s.ts by unfold twiceL; simp only; rw [if_neg h5, ht])
   have h5g : 5 ≤ s.ts.length := by rw [ht]; omega
   clear H
   go_enter Tryz.func70, Tryz.ntmps70
   go_wp2_with fail
   refine (twice_full g 12 base _ _ _ s.ts _ HW.out h5g (by omega)).mono ?_
   rintro e w1 ⟨rfl, rfl⟩
   go_wp2
   go_ret
   exact ⟨⟨_, rfl⟩, by rw [HE.out]; exact ⟨_, _, _, _, HK.out⟩, Below.refl _ _⟩
theorem reptBack_any (s : Ls) (hs : s.Ok) (w : World) (base g : Nat) (h : LK w base g s) :
  Calls Tryz.prog 71 #[.pointer (some ⟨g, 0, none⟩)] w (StepPost w base g { s with bs := twiceL s.bs }) := by
 have hl := hs.bl
 obtain ⟨vm, vb, vg, vt, H⟩ := h
 have HK := Lib.hid H
 have HW := Lib.hid H.wback
 cases ht : s.bs with
 | nil =>
  rw [ht] at HW
  have hse : ({ s with bs := [] } : Ls) = s := by rw [← ht]
  clear H
  go_enter Tryz.func71, Tryz.ntmps71
  go_wp2_with fail
  refine (twice_none g 8 base _ _ _ _ HW.out).mono ?_
  rintro e w1 ⟨rfl, rfl⟩
  go_wp2
  go_ret
  exact ⟨⟨_, rfl⟩, by show LK _ _ _ { s with bs := [] }; rw [hse]; exact ⟨_, _, _, _, HK.out⟩, Below.refl _ _⟩
 | cons x r =>
  by_cases h5 : (x :: r).length < 5
  ·have HE := Lib.hid (show twiceL (x :: r) = x :: x :: r by unfold twiceL; simp only; rw [if_pos h5])
   rw [ht] at HW
   simp only [List.length_cons] at h5
   clear H
   go_enter Tryz.func71, Tryz.ntmps71
   go_wp2_with fail
   refine (twice_room g 8 base _ _ _ x r _ HW.out HK.out.bg (by omega)).mono ?_
   rintro e w1 ⟨rfl, hp⟩
   have HT := Lib.hid (turn_back HK.out hp)
   clear hp
   go_wp2
   go_ret
   exact ⟨⟨_, rfl⟩, by rw [HE.out]; exact HT.out.1, HT.out.2⟩
  ·have HE := Lib.hid (show twiceL (x :: r) = s.bs by unfold twiceL; simp only; rw [if_neg h5, ht])
   have h5g : 5 ≤ s.bs.length := by rw [ht]; omega
   clear H
   go_enter Tryz.func71, Tryz.ntmps71
   go_wp2_with fail
   refine (twice_full g 8 base _ _ _ s.bs _ HW.out h5g (by omega)).mono ?_
   rintro e w1 ⟨rfl, rfl⟩
   go_wp2
   go_ret
   exact ⟨⟨_, rfl⟩, by rw [HE.out]; exact ⟨_, _, _, _, HK.out⟩, Below.refl _ _⟩
end Go.Proofs.YtmggoiabcboaiaaGreat
namespace Go.Proofs.YtmggoiabcboaiaaGreat
open Go.ChangeShapes Go.WideShapes Go.ChangeAt Go.RowKit
set_option linter.unusedVariables false
theorem os_set {w : World} {base g i : Nat} {u : Value} {us : List ByteArray} (h : OS w base u us) (hg : u.ownBlock ≠ some g) (x : Value) : OS (w.setCell ⟨g, i, none⟩ x) base u us :=
 os_same h fun k e => Below.heap_setCell w ⟨g, i, none⟩ x k (fun e2 => hg (by rw [e, e2]))
theorem below_set2 {w : World} {B g i j : Nat} (h : B ≤ g) (x y : Value) : Below B w ((w.setCell ⟨g, i, none⟩ x).setCell ⟨g, j, none⟩ y) :=
 ((Below.refl B w).setCell (p := ⟨g, i, none⟩) h x).setCell (p := ⟨g, j, none⟩) h y
theorem LKat.setF {w : World} {base g : Nat} {s : Ls} {vm vb vg vt : Value} (h : LKat w base g s vm vb vg vt) (f : Fd) : LKat ((w.setCell ⟨g, 10, none⟩ (.string (bzL f.held))).setCell ⟨g, 11, none⟩ (.bool f.over)) base g { s with f := f } vm vb vg vt :=
 ⟨h.bg, by simpa using h.bw, (h.bk.set 10 _).set 11 _, os_set (os_set h.om (own_link h.bk h.om) _) (own_link h.bk h.om) _, os_set (os_set h.ob (own_link h.bk h.ob) _) (own_link h.bk h.ob) _, os_set (os_set h.og (own_link h.bk h.og) _) (own_link h.bk h.og) _, os_set (os_set h.ot (own_link h.bk h.ot) _) (own_link h.bk h.ot) _, h.ap⟩
theorem LKat.setH {w : World} {base g : Nat} {s : Ls} {vm vb vg vt : Value} (h : LKat w base g s vm vb vg vt) (f : Fd) : LKat ((w.setCell ⟨g, 6, none⟩ (.string (bzL f.held))).setCell ⟨g, 7, none⟩ (.bool f.over)) base g { s with h := f } vm vb vg vt :=
 ⟨h.bg, by simpa using h.bw, (h.bk.set 6 _).set 7 _, os_set (os_set h.om (own_link h.bk h.om) _) (own_link h.bk h.om) _, os_set (os_set h.ob (own_link h.bk h.ob) _) (own_link h.bk h.ob) _, os_set (os_set h.og (own_link h.bk h.og) _) (own_link h.bk h.og) _, os_set (os_set h.ot (own_link h.bk h.ot) _) (own_link h.bk h.ot) _, h.ap⟩
theorem LKat.setN {w : World} {base g : Nat} {s : Ls} {vm vb vg vt : Value} (h : LKat w base g s vm vb vg vt) (n : Nat) : LKat (w.drew.setCell ⟨g, 5, none⟩ (.int .i64 (n : Int))) base g { s with nx := n } vm vb vg vt :=
 ⟨h.bg, by simpa using h.bw, h.bk.drew.set 5 _, os_set h.om.drew (own_link h.bk h.om) _, os_set h.ob.drew (own_link h.bk h.ob) _, os_set h.og.drew (own_link h.bk h.og) _, os_set h.ot.drew (own_link h.bk h.ot) _, h.ap⟩
theorem feed_any (s : Ls) (f : Fd) (t : ByteArray) (hc : confB s.c = true) (hf : okF s.c f = true) (ht : t.size ≤ 1048576) (u : World) :
  Calls Tryz.prog 90 #[cfV s.c.codec s.c.sum s.c.most s.c.map, fdV (bzL f.held) f.over, .string t] u (FramesPost u (ffeed s.c f t.data.toList)) :=
 framesOf_any s.c.codec s.c.sum s.c.most s.c.map (bzL f.held) f.over t u (codec_wf hc) hf ht
theorem Ls.confP_no {s : Ls} {A : ByteArray} (h : ¬ (A = ⟨#[parB s.nx]⟩ ∧ s.nx < s.ms.length)) : s.confP A = s := by unfold Ls.confP; rw [if_neg h]
theorem Ls.confP_yes {s : Ls} {A : ByteArray} (h : A = ⟨#[parB s.nx]⟩ ∧ s.nx < s.ms.length) : s.confP A = { s with nx := s.nx + 1 } := by unfold Ls.confP; rw [if_pos h]
theorem frames_len (c : Cf) (f : Fd) (t : ByteArray) (ht : t.size ≤ 1048576) : (framesL (ffeed c f t.data.toList).2).length ≤ 1048576 := by
 have h1 := framesL_len (ffeed c f t.data.toList).2
 have h2 := ffeed_len c t.data.toList f
 rw [size_list] at h2
 omega
theorem Ls.here_cons {s : Ls} {t : ByteArray} {r : List ByteArray} (h : s.bs = t :: r) : s.here = (framesL (ffeed s.c s.h t.data.toList).2).foldl Ls.confP { s with bs := r, h := (ffeed s.c s.h t.data.toList).1 } := by unfold Ls.here; rw [h]
theorem Ls.there_cons {s : Ls} {t : ByteArray} {r : List ByteArray} (h : s.ts = t :: r) : s.there = (framesL (ffeed s.c s.f t.data.toList).2).foldl Ls.takeP { s with ts := r, f := (ffeed s.c s.f t.data.toList).1 } := by unfold Ls.there; rw [h]
theorem fold_snoc {α : Type} (f : α → ByteArray → α) (a : α) (l : List ByteArray) (k : Nat) (hk : k < l.length) : (l.take (k + 1)).foldl f a = f ((l.take k).foldl f a) l[k] := by
 rw [List.take_succ_eq_append_getElem hk, List.foldl_append]
 rfl
set_option maxRecDepth 100000 in
set_option maxHeartbeats 2000000 in
theorem arriveBack_any (s : Ls) (hs : s.Ok) (w : World) (base g : Nat) (h : LK w base g s) :
  Calls Tryz.prog 67 #[.pointer (some ⟨g, 0, none⟩)] w fun e w' => e = .returned (.bool (!s.bs.isEmpty)) ∧ LK w' base g s.here ∧ Below base w w' := by
 have hl := hs.bl
 have hz := hs.bz
 obtain ⟨vm, vb, vg, vt, H⟩ := h
 have HK := Lib.hid H
 have HW := Lib.hid H.wback
 cases ht : s.bs with
 | nil =>
  rw [ht] at HW
  have HE := Lib.hid (show s.here = s by unfold Ls.here; rw [ht])
  clear H
  go_enter Tryz.func67, Tryz.ntmps67
  go_wp2_with fail
  refine (take_none g 8 base _ _ _ _ HW.out).mono ?_
  rintro e w1 ⟨rfl, rfl⟩
  go_wp2
  go_ret
  exact ⟨rfl, by rw [HE.out]; exact ⟨_, _, _, _, HK.out⟩, Below.refl _ _⟩
 | cons t r =>
  have HE := Lib.hid (Ls.here_cons ht)
  rw [ht] at HW hl hz
  simp only [List.length_cons] at hl
  have htz := hz t (by simp)
  have HFR := Lib.hid (fun u => feed_any s s.h t hs.conf hs.okh htz u)
  have hfl := frames_len s.c s.h t htz
  have hfz := frames_size hs.conf s.h t.data.toList
  have HOK := Lib.hid (show ({ s with bs := r, h := (ffeed s.c s.h t.data.toList).1 } : Ls).Ok from { hs with okh := ffeed_ok _ hs.okh, bl := by show r.length ≤ 5; omega, bz := fun x hx => hz x (by simp [hx]) })
  generalize ffeed s.c s.h t.data.toList = p at *
  obtain ⟨fd, evs⟩ := p
  simp only at hfl hfz HOK HE
  unfold FramesPost at HFR
  simp only at HFR
  generalize framesL evs = fr at *
  have HFZ := Lib.hid hfz
  clear H hz hfz hs
  go_enter Tryz.func67, Tryz.ntmps67
  go_wp2_with fail
  refine (take_some g 8 base _ _ _ t r _ HW.out HK.out.bg (by omega) (fun y hy => by have := HOK.out.bz y hy; exact this)).mono ?_
  rintro e w1 ⟨rfl, hp⟩
  obtain ⟨hlk, hbel⟩ := turn_back HK.out hp
  obtain ⟨vm1, vb1, vg1, vt1, H1⟩ := hlk
  have HB1 := Lib.hid hbel
  have HK1 := Lib.hid H1
  have c0 : w1.cell? ⟨g, 0, none⟩ = some (.int .i64 s.c.codec) := H1.bk.cell rfl
  have c1 : w1.cell? ⟨g, 1, none⟩ = some (.int .i64 s.c.sum) := H1.bk.cell rfl
  have c2 : w1.cell? ⟨g, 2, none⟩ = some (.int .i64 s.c.most) := H1.bk.cell rfl
  have c3 : w1.cell? ⟨g, 3, none⟩ = some (.int .i64 s.c.map) := H1.bk.cell rfl
  have c6 : w1.cell? ⟨g, 6, none⟩ = some (.string (bzL s.h.held)) := H1.bk.cell rfl
  have c7 : w1.cell? ⟨g, 7, none⟩ = some (.bool s.h.over) := H1.bk.cell rfl
  clear hp hbel H1 HW
  go_wp2_with fail
  have hS := And.intro c0 (And.intro c1 (And.intro c2 c3))
  clear c0 c1 c2 c3
  refine wp_region_held_drew (S := (fun wx => wx.cell? ⟨g, 0, none⟩ = some (.int .i64 s.c.codec) ∧ wx.cell? ⟨g, 1, none⟩ = some (.int .i64 s.c.sum) ∧ wx.cell? ⟨g, 2, none⟩ = some (.int .i64 s.c.most) ∧ wx.cell? ⟨g, 3, none⟩ = some (.int .i64 s.c.map))) (by kernel_rfl) hS (fun hHeld => ?_)
  refine tkH 0 ?_ rfl (Or.inl ⟨by rfl, ?_⟩) ?_; rotate_left
  ·intro wq hSw; (try dsimp only at hSw); (try simp only [gT, gZ]); go_simp; (try with_reducible rfl)
  simp only [Act.put, gT, gZ, sT, sZ, sS]
  refine tkH 1 ?_ rfl (Or.inl ⟨by rfl, ?_⟩) ?_; rotate_left
  ·intro wq hSw; (try dsimp only at hSw); (try simp only [gT, gS, gZ]); go_simp; (try with_reducible rfl)
  simp only [Act.put, gT, gS, gZ, sT, sZ, sS]
  refine tkH 2 ?_ rfl (Or.inl ⟨by rfl, ?_⟩) ?_; rotate_left
  ·intro wq hSw; (try dsimp only at hSw); (try simp only [gT, gS, gZ]); go_simp; (try with_reducible rfl)
  simp only [Act.put, gT, gS, gZ, sT, sZ, sS]
  refine tkH 3 ?_ rfl (Or.inl ⟨by rfl, ?_⟩) ?_; rotate_left
  ·intro wq hSw; (try dsimp only at hSw); (try simp only [gT, gS, gZ]); go_simp; (try with_reducible rfl)
  simp only [Act.put, gT, gS, gZ, sT, sZ, sS]
  refine tkH 4 ?_ rfl (Or.inl ⟨by rfl, ?_⟩) ?_; rotate_left
  ·intro wq hSw; (try dsimp only at hSw); (try simp only [gT, gS, gZ]); go_simp; (try with_reducible rfl)
  simp only [Act.put, gT, gS, gZ, sT, sZ, sS]
  refine tkH 5 ?_ rfl (Or.inl ⟨by rfl, ?_⟩) ?_; rotate_left
  ·intro wq hSw; (try dsimp only at hSw); (try simp only [gT, gS, gZ]); go_simp; (try with_reducible rfl)
  simp only [Act.put, gT, gS, gZ, sT, sZ, sS]
  refine tkH 6 ?_ rfl (Or.inl ⟨by rfl, ?_⟩) ?_; rotate_left
  ·intro wq hSw; (try dsimp only at hSw); (try simp only [gT, gS, gZ]); go_simp; (try with_reducible rfl)
  simp only [Act.put, gT, gS, gZ, sT, sZ, sS]
  refine tkH 7 ?_ rfl (Or.inl ⟨by rfl, ?_⟩) ?_; rotate_left
  ·intro wq hSw; (try dsimp only at hSw); (try simp only [gT, gS, gZ]); go_simp; (try with_reducible rfl)
  simp only [Act.put, gT, gS, gZ, sT, sZ, sS]
  refine tkH 8 ?_ rfl (Or.inl ⟨by rfl, ?_⟩) ?_; rotate_left
  ·intro wq hSw; (try dsimp only at hSw); (try simp only [gT, gS, gZ]); go_simp; (try with_reducible rfl)
  simp only [Act.put, gT, gS, gZ, sT, sZ, sS]
  refine tkH 10 ?_ rfl (Or.inl ⟨by rfl, ?_⟩) ?_; rotate_left
  ·intro wq hSw; (try dsimp only at hSw); (try simp only [gT, gS, gZ]); go_simp; (try with_reducible rfl)
  simp only [Act.put, gT, gS, gZ, sT, sZ, sS]
  refine wpAnyH_ready (rs := [9]) (by kernel_rfl) (by simp) ?_
  refine AllReadyH.cons rfl (fun K hK => ?_) AllReadyH.nil
  (try simp only [gT, gS, gZ])
  skip
  go_simp
  skip
  refine hK.out _ _ hS (fun hHeld => ?_)
  clear hK K
  refine wpAnyH_ready (rs := [11]) (by kernel_rfl) (by simp) ?_
  refine AllReadyH.cons rfl (fun K hK => ?_) AllReadyH.nil
  (try simp only [gT, gS, gZ])
  go_simp
  go_at_call 90
  refine (HFR.out _).mono ?_
  rintro e w2 ⟨vf, rfl, hof, hb2⟩
  have hS := And.intro (cell_keep hb2 hS.1) (And.intro (cell_keep hb2 hS.2.1) (And.intro (cell_keep hb2 hS.2.2.1) (cell_keep hb2 hS.2.2.2)))
  have HK2 := Lib.hid ((HK1.out.below (Below.refl _ _).drew).below hb2)
  have HB2 := Lib.hid (HB1.out.trans ((Below.trans (Below.refl w1.heap.size w1).drew hb2).mono HK1.out.bw))
  have HOF := Lib.hid (hof.mono (base' := base) HK1.out.bw)
  clear hof hb2
  refine hK.out _ _ hS (fun hHeld => ?_)
  clear hK K
  refine tkH 12 ?_ rfl (Or.inl ⟨by rfl, ?_⟩) ?_; rotate_left
  ·intro wq hSw; (try dsimp only at hSw); (try simp only [gT, gS, gZ]); go_simp; (try with_reducible rfl)
  simp only [Act.put, gT, gS, gZ, sT, sZ, sS]
  refine tkH 13 ?_ rfl (Or.inl ⟨by rfl, ?_⟩) ?_; rotate_left
  ·intro wq hSw; (try dsimp only at hSw); (try simp only [gT, gS, gZ]); go_simp; (try with_reducible rfl)
  simp only [Act.put, gT, gS, gZ, sT, sZ, sS]
  refine tkH 14 ?_ rfl (Or.inl ⟨by rfl, ?_⟩) ?_; rotate_left
  ·intro wq hSw; (try dsimp only at hSw); (try simp only [gT, gS, gZ]); go_simp; (try with_reducible rfl)
  simp only [Act.put, gT, gS, gZ, sT, sZ, sS]
  refine tkH 15 ?_ rfl (Or.inl ⟨by rfl, ?_⟩) ?_; rotate_left
  ·intro wq hSw; (try dsimp only at hSw); (try simp only [gT, gS, gZ]); go_simp; (try with_reducible rfl)
  simp only [Act.put, gT, gS, gZ, sT, sZ, sS]
  refine tkH 16 ?_ rfl (Or.inl ⟨by rfl, ?_⟩) ?_; rotate_left
  ·intro wq hSw; (try dsimp only at hSw); (try simp only [gT, gS, gZ]); go_simp; (try with_reducible rfl)
  simp only [Act.put, gT, gS, gZ, sT, sZ, sS]
  refine tkH 17 ?_ rfl (Or.inl ⟨by rfl, ?_⟩) ?_; rotate_left
  ·intro wq hSw; (try dsimp only at hSw); (try simp only [gT, gS, gZ]); go_simp; (try with_reducible rfl)
  simp only [Act.put, gT, gS, gZ, sT, sZ, sS]
  have hx6 : w2.cell? ⟨g, 6, none⟩ = some (.string (bzL s.h.held)) := HK2.out.bk.cell rfl
  have hx7 : w2.cell? ⟨g, 7, none⟩ = some (.bool s.h.over) := HK2.out.bk.cell rfl
  have f6 := HK2.out.bk.free 6
  have f7 := HK2.out.bk.free 7
  have HK3 := Lib.hid (HK2.out.setH fd)
  have HOF3 := Lib.hid (os_set (os_set HOF.out (own_link HK2.out.bk HOF.out) (i := 6) (.string (bzL fd.held))) (own_link HK2.out.bk HOF.out) (i := 7) (.bool fd.over))
  have HB3 := Lib.hid (HB2.out.trans (below_set2 (i := 6) (j := 7) HK1.out.bg (.string (bzL fd.held)) (.bool fd.over)))
  have hS := (show ((w2.setCell ⟨g, 6, none⟩ (.string (bzL fd.held))).setCell ⟨g, 7, none⟩ (.bool fd.over)).cell? ⟨g, 0, none⟩ = some (.int .i64 s.c.codec) ∧ ((w2.setCell ⟨g, 6, none⟩ (.string (bzL fd.held))).setCell ⟨g, 7, none⟩ (.bool fd.over)).cell? ⟨g, 1, none⟩ = some (.int .i64 s.c.sum) ∧ ((w2.setCell ⟨g, 6, none⟩ (.string (bzL fd.held))).setCell ⟨g, 7, none⟩ (.bool fd.over)).cell? ⟨g, 2, none⟩ = some (.int .i64 s.c.most) ∧ ((w2.setCell ⟨g, 6, none⟩ (.string (bzL fd.held))).setCell ⟨g, 7, none⟩ (.bool fd.over)).cell? ⟨g, 3, none⟩ = some (.int .i64 s.c.map) from ⟨HK3.out.bk.cell rfl, HK3.out.bk.cell rfl, HK3.out.bk.cell rfl, HK3.out.bk.cell rfl⟩)
  refine wpAnyH_ready (rs := [18]) (by kernel_rfl) (by simp) ?_
  refine AllReadyH.cons rfl (fun K hK => ?_) AllReadyH.nil
  (try simp only [gT, gS, gZ])
  skip
  go_simp
  skip
  refine hK.out _ _ hS (fun hHeld => ?_)
  clear hK K
  refine tkH 19 ?_ rfl (Or.inl ⟨by rfl, ?_⟩) ?_; rotate_left
  ·intro wq hSw; (try dsimp only at hSw); (try simp only [gT, gS, gZ]); go_simp; (try with_reducible rfl)
  simp only [Act.put, gT, gS, gZ, sT, sZ, sS]
  refine wpAnyH_done (by kernel_rfl) ?_ _
  obtain ⟨w3, hw3⟩ : ∃ w3, w3 = (w2.setCell ⟨g, 6, none⟩ (.string (bzL fd.held))).setCell ⟨g, 7, none⟩ (.bool fd.over) := ⟨_, rfl⟩
  change Exit.then _ _ _ _ ((w2.setCell ⟨g, 6, none⟩ (.string (bzL fd.held))).setCell ⟨g, 7, none⟩ (.bool fd.over))
  rw [← hw3] at HK3 HOF3 HB3 ⊢
  clear hw3 hS HK2 HB2 HOF HB1 hx6 hx7 f6 f7 c6 c7 HK1 HK
  obtain ⟨af, cf, rfl⟩ := HOF3.out.reads.shape
  go_wp2
  go_loopw [38] (fun i wr => ∃ k : Nat, k ≤ fr.length ∧ i = .int .i64 (k : Int) ∧ LKat wr base g ((fr.take k).foldl Ls.confP { s with bs := r, h := fd }) vm1 vb1 vg1 vt1 ∧ OS wr base (.slice af fr.length cf) fr ∧ Below base w wr) (fun i _ => fr.length - (intOf i).toNat)
  case atStart => exact ⟨0, Nat.zero_le _, rfl, HK3.out, HOF3.out, HB3.out⟩
  case round =>
   obtain ⟨k, hk, rfl, hlk, hof, hb⟩ := hrel
   have HK := Lib.hid hlk
   have HOF := Lib.hid hof
   have HB := Lib.hid hb
   clear hlk hof hb HK3 HOF3 HB3
   by_cases hlt : k < fr.length
   ·have HSN := Lib.hid (fold_snoc Ls.confP { s with bs := r, h := fd } fr k hlt)
    have hqo := HOK.out.confs (fr.take k)
    generalize (fr.take k).foldl Ls.confP { s with bs := r, h := fd } = q at *
    obtain ⟨y, rfl, _, d0⟩ := HOF.out.reads.at_ hlt
    have hAz := HFZ.out fr[k] (List.getElem_mem hlt)
    generalize fr[k] = A at *
    obtain ⟨am, cm, hsh⟩ := HK.out.om.reads.shape
    subst hsh
    have hml := hqo.ml
    have hnl := hqo.nxl
    clear hqo
    by_cases hq : A = ⟨#[parB q.nx]⟩
    ·by_cases hm : q.nx < q.ms.length
     ·have HV := Lib.hid (HSN.out.trans (Ls.confP_yes ⟨hq, hm⟩))
      have HQ := Lib.hid hq
      clear hq
      go_wp2_with fail
      refine (confirm_next g 4 _ _ am q.ms.length cm q.nx A _ HK.out.bk rfl rfl (by omega) (by omega) (by omega) HQ.out hm).mono ?_
      rintro e w4 ⟨rfl, _, rfl⟩
      have HK4 := Lib.hid (HK.out.setN (q.nx + 1))
      have HOF4 := Lib.hid (os_set HOF.out.drew (own_link HK.out.bk HOF.out) (i := 5) (.int .i64 ((q.nx + 1 : Nat) : Int)))
      have HB4 := Lib.hid (HB.out.drew.setCell (p := ⟨g, 5, none⟩) HK.out.bg (.int .i64 ((q.nx + 1 : Nat) : Int)))
      go_wp2
      go_roundw
      case rel => exact ⟨k + 1, by omega, by go_num, by rw [HV.out]; exact HK4.out, HOF4.out, HB4.out⟩
      case measure => simp [intOf]; omega
     ·have HV := Lib.hid (HSN.out.trans (Ls.confP_no (fun h => hm h.2)))
      have HQ := Lib.hid hq
      clear hq
      go_wp2_with fail
      refine (confirm_last g 4 _ _ am q.ms.length cm q.nx A _ HK.out.bk rfl rfl (by omega) (by omega) (by omega) HQ.out hm).mono ?_
      rintro e w4 ⟨rfl, hb4⟩
      have HK4 := Lib.hid (HK.out.below hb4)
      have HOF4 := Lib.hid (HOF.out.below hb4)
      have HB4 := Lib.hid (HB.out.trans (hb4.mono HK.out.bw))
      clear hb4
      go_wp2
      go_roundw
      case rel => exact ⟨k + 1, by omega, by go_num, by rw [HV.out]; exact HK4.out, HOF4.out, HB4.out⟩
      case measure => simp [intOf]; omega
    ·have HV := Lib.hid (HSN.out.trans (Ls.confP_no (fun h => hq h.1)))
     go_wp2_with fail
     refine (confirm_other g 4 _ _ am q.ms.length cm q.nx A _ HK.out.bk rfl rfl (by omega) (by omega) (by omega) hq).mono ?_
     rintro e w4 ⟨rfl, hb4⟩
     have HK4 := Lib.hid (HK.out.below hb4)
     have HOF4 := Lib.hid (HOF.out.below hb4)
     have HB4 := Lib.hid (HB.out.trans (hb4.mono HK.out.bw))
     clear hb4
     go_wp2
     go_roundw
     case rel => exact ⟨k + 1, by omega, by go_num, by rw [HV.out]; exact HK4.out, HOF4.out, HB4.out⟩
     case measure => simp [intOf]; omega
   ·have hke : k = fr.length := by omega
    have HV := Lib.hid (show s.here = (fr.take k).foldl Ls.confP { s with bs := r, h := fd } by rw [HE.out, hke, List.take_length])
    clear hke
    go_wp2
    go_ret
    exact ⟨rfl, by rw [HV.out]; exact ⟨_, _, _, _, HK.out⟩, HB.out⟩
end Go.Proofs.YtmggoiabcboaiaaGreat
