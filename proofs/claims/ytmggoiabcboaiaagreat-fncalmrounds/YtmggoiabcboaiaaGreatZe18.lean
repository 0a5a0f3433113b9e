/- Parts of a proof, 18: LkG. -/
import Derived.Test.YtmggoiabcboaiaaGreatZe1
import Derived.Test.YtmggoiabcboaiaaGreatZe2
import Derived.Test.YtmggoiabcboaiaaGreatZe3
import Derived.Test.YtmggoiabcboaiaaGreatZe4
import Derived.Test.YtmggoiabcboaiaaGreatZe5
import Derived.Test.YtmggoiabcboaiaaGreatZe6
import Derived.Test.YtmggoiabcboaiaaGreatZe7
import Derived.Test.YtmggoiabcboaiaaGreatZe8
import Derived.Test.YtmggoiabcboaiaaGreatZe9
import Derived.Test.YtmggoiabcboaiaaGreatZe10
import Derived.Test.YtmggoiabcboaiaaGreatZe11
import Derived.Test.YtmggoiabcboaiaaGreatZe12
import Derived.Test.YtmggoiabcboaiaaGreatZe13
import Derived.Test.YtmggoiabcboaiaaGreatZe14
import Derived.Test.YtmggoiabcboaiaaGreatZe15
import Derived.Test.YtmggoiabcboaiaaGreatZe16
import Derived.Test.YtmggoiabcboaiaaGreatZe17
namespace Go.Proofs.YtmggoiabcboaiaaGreat
open Go.ChangeShapes Go.WideShapes Go.ChangeAt Go.RowKit
set_option linter.unusedVariables false
def Beside (w : World) (base : Nat) (u vb vg : Value) (us : List ByteArray) : Prop := OS w base u us ∧ (apartV u vb ∧ apartV vb u) ∧ (apartV u vg ∧ apartV vg u)
theorem turn_back_at {w w' : World} {base g : Nat} {s : Ls} {vm vb vg vt u : Value} {bs us : List ByteArray} (h : LKat w base g s vm vb vg vt) (hu : Beside w base u vb vg us) (hp : WPost w base g 8 (lkC s vm vb vg vt) 92 vb bs w') :
  (∃ vb', LKat w' base g { s with bs := bs } vm vb' vg vt ∧ Beside w' base u vb' vg us) ∧ Below base w w' := by
 refine ⟨?_, wp_below h.ob h.bg h.bw hp⟩
 obtain ⟨v', hk, ho, hs, _, _, _, hn, hh⟩ := hp
 obtain ⟨⟨a1, a2, a3⟩, ⟨a4, a5, a6⟩, ⟨a7, a8, a9⟩, ⟨a10, a11, a12⟩⟩ := h.ap
 obtain ⟨m1, m2⟩ := apart_turn h.om a3 a10 hn
 obtain ⟨m3, m4⟩ := apart_turn h.og a6 a11 hn
 obtain ⟨m5, m6⟩ := apart_turn h.ot a9 a12 hn
 obtain ⟨u1, ⟨u2, u3⟩, u4⟩ := hu
 obtain ⟨m7, m8⟩ := apart_turn u1 u2 u3 hn
 exact ⟨v', ⟨h.bg, Nat.le_trans h.bw hs, hk, os_turn h.om a3 (own_link h.bk h.om) hh, ho, os_turn h.og a6 (own_link h.bk h.og) hh, os_turn h.ot a9 (own_link h.bk h.ot) hh, ⟨⟨a1, a2, m1⟩, ⟨a4, a5, m3⟩, ⟨a7, a8, m5⟩, ⟨m2, m4, m6⟩⟩⟩, os_turn u1 u2 (own_link h.bk u1) hh, ⟨m7, m8⟩, u4⟩
theorem turn_got_at {w w' : World} {base g : Nat} {s : Ls} {vm vb vg vt u : Value} {gs us : List ByteArray} (h : LKat w base g s vm vb vg vt) (hu : Beside w base u vb vg us) (hp : WPost w base g 9 (lkC s vm vb vg vt) 92 vg gs w') :
  (∃ vg', LKat w' base g { s with gs := gs } vm vb vg' vt ∧ Beside w' base u vb vg' us) ∧ Below base w w' := by
 refine ⟨?_, wp_below h.og h.bg h.bw hp⟩
 obtain ⟨v', hk, ho, hs, _, _, _, hn, hh⟩ := hp
 obtain ⟨⟨a1, a2, a3⟩, ⟨a4, a5, a6⟩, ⟨a7, a8, a9⟩, ⟨a10, a11, a12⟩⟩ := h.ap
 obtain ⟨m1, m2⟩ := apart_turn h.om a1 a4 hn
 obtain ⟨m3, m4⟩ := apart_turn h.ot a8 a5 hn
 obtain ⟨m5, m6⟩ := apart_turn h.ob a11 a6 hn
 obtain ⟨u1, u2, ⟨u3, u4⟩⟩ := hu
 obtain ⟨m7, m8⟩ := apart_turn u1 u3 u4 hn
 exact ⟨v', ⟨h.bg, Nat.le_trans h.bw hs, hk, os_turn h.om a1 (own_link h.bk h.om) hh, os_turn h.ob a11 (own_link h.bk h.ob) hh, ho, os_turn h.ot a8 (own_link h.bk h.ot) hh, ⟨⟨m1, a2, a3⟩, ⟨m2, m4, m6⟩, ⟨a7, m3, a9⟩, ⟨a10, m5, a12⟩⟩⟩, os_turn u1 u3 (own_link h.bk u1) hh, u2, ⟨m7, m8⟩⟩
theorem Beside.below {w w' : World} {base : Nat} {u vb vg : Value} {us : List ByteArray} (h : Beside w base u vb vg us) (hb : Below w.heap.size w w') : Beside w' base u vb vg us := ⟨h.1.below hb, h.2⟩
theorem Ls.takeP_no {s : Ls} {F : ByteArray} (h : digB F.data.toList = false) : s.takeP F = s := by
 unfold Ls.takeP
 cases hl : F.data.toList with
 | nil => rfl
 | cons b r =>
  rw [hl] at h
  simp only [digB, Bool.or_eq_false_iff, beq_eq_false_iff_ne] at h
  unfold Ls.takeL
  simp only
  rw [if_neg (fun e => e.elim h.1 h.2)]
theorem Ls.takeP_yes {s : Ls} {F : ByteArray} {b : UInt8} {r : List UInt8} (hl : F.data.toList = b :: r) (hb : b = 48 ∨ b = 49) : s.takeP F = (s.kept b r).told b := by
 unfold Ls.takeP
 rw [hl]
 unfold Ls.takeL
 simp only
 rw [if_pos hb]
theorem Ls.kept_yes {s : Ls} {b : UInt8} {r : List UInt8} (h : b = parB s.gs.length ∧ s.gs.length < s.ms.length) : s.kept b r = { s with gs := s.gs ++ [bzL r] } := by unfold Ls.kept; rw [if_pos h]
theorem Ls.kept_no {s : Ls} {b : UInt8} {r : List UInt8} (h : ¬ (b = parB s.gs.length ∧ s.gs.length < s.ms.length)) : s.kept b r = s := by unfold Ls.kept; rw [if_neg h]
theorem Ls.told_yes {s : Ls} {b : UInt8} (h : s.bs.length < 5) : s.told b = { s with bs := s.bs ++ [bzL (sendA s.c [b])] } := by unfold Ls.told; rw [if_pos h]
theorem Ls.told_no {s : Ls} {b : UInt8} (h : ¬ s.bs.length < 5) : s.told b = s := by unfold Ls.told; rw [if_neg h]
theorem Ls.told_same (s : Ls) (b : UInt8) : (s.told b).c = s.c ∧ (s.told b).ms = s.ms := by unfold Ls.told; split <;> exact ⟨rfl, rfl⟩
theorem Ls.kept_same (s : Ls) (b : UInt8) (r : List UInt8) : (s.kept b r).c = s.c ∧ (s.kept b r).ms = s.ms ∧ (s.kept b r).bs = s.bs := by unfold Ls.kept; split <;> exact ⟨rfl, rfl, rfl⟩
theorem Ls.takeP_same (s : Ls) (F : ByteArray) : (s.takeP F).c = s.c ∧ (s.takeP F).ms = s.ms := by
 unfold Ls.takeP
 cases F.data.toList with
 | nil => exact ⟨rfl, rfl⟩
 | cons b r =>
  unfold Ls.takeL
  simp only
  split
  ·exact ⟨(Ls.told_same _ _).1.trans (Ls.kept_same _ _ _).1, (Ls.told_same _ _).2.trans (Ls.kept_same _ _ _).2.1⟩
  ·exact ⟨rfl, rfl⟩
theorem Ls.takes_same (l : List ByteArray) : ∀ (s : Ls), (l.foldl Ls.takeP s).c = s.c ∧ (l.foldl Ls.takeP s).ms = s.ms := by
 induction l with
 | nil => intro s; exact ⟨rfl, rfl⟩
 | cons F r ih => intro s; exact ⟨(ih _).1.trans (Ls.takeP_same s F).1, (ih _).2.trans (Ls.takeP_same s F).2⟩
theorem dig_split {l : List UInt8} (h : digB l = true) : ∃ b r, l = b :: r ∧ (b = 48 ∨ b = 49) := by
 cases l with
 | nil => cases h
 | cons b r =>
  refine ⟨b, r, rfl, ?_⟩
  simp only [digB, Bool.or_eq_true, beq_iff_eq] at h
  exact h
set_option maxRecDepth 100000 in
set_option maxHeartbeats 4000000 in
theorem arrive_any (s : Ls) (hs : s.Ok) (w : World) (base g : Nat) (h : LK w base g s) :
  Calls Tryz.prog 66 #[.pointer (some ⟨g, 0, none⟩)] w fun e w' => e = .returned (.bool (!s.ts.isEmpty)) ∧ LK w' base g s.there ∧ Below base w w' := by
 have hl := hs.tl
 have hz := hs.tz
 have hwf := codec_wf hs.conf
 obtain ⟨vm, vb, vg, vt, H⟩ := h
 have HK := Lib.hid H
 have HW := Lib.hid H.wto
 cases ht : s.ts with
 | nil =>
  rw [ht] at HW
  have HE := Lib.hid (show s.there = s by unfold Ls.there; rw [ht])
  clear H
  go_enter Tryz.func66, Tryz.ntmps66
  go_wp2_with fail
  refine (take_none g 12 base _ _ _ _ HW.out).mono ?_
  rintro e w1 ⟨rfl, rfl⟩
  go_wp2
  go_ret
  exact ⟨rfl, by rw [HE.out]; exact ⟨_, _, _, _, HK.out⟩, Below.refl _ _⟩
 | cons t r =>
  have HE := Lib.hid (Ls.there_cons ht)
  rw [ht] at HW hl hz
  simp only [List.length_cons] at hl
  have htz := hz t (by simp)
  have HFR := Lib.hid (fun u => feed_any s s.f t hs.conf hs.okf htz u)
  have HFS := Lib.hid (fun (T : ByteArray) (u : World) (hT : T.size ≤ maxLen) => implFindSend_any s.c.codec s.c.sum s.c.most s.c.map T u hwf hT)
  have hfl := frames_len s.c s.f t htz
  have hfz := frames_size hs.conf s.f t.data.toList
  have HOK := Lib.hid (show ({ s with ts := r, f := (ffeed s.c s.f t.data.toList).1 } : Ls).Ok from { hs with okf := ffeed_ok _ hs.okf, tl := by show r.length ≤ 5; omega, tz := fun x hx => hz x (by simp [hx]) })
  generalize ffeed s.c s.f t.data.toList = p at *
  obtain ⟨fd, evs⟩ := p
  simp only at hfl hfz HOK HE
  unfold FramesPost at HFR
  simp only at HFR
  generalize framesL evs = fr at *
  have HFZ := Lib.hid hfz
  clear H hz hfz hs hwf
  go_enter Tryz.func66, Tryz.ntmps66
  go_wp2_with fail
  refine (take_some g 12 base _ _ _ t r _ HW.out HK.out.bg (by omega) (fun y hy => by have := HOK.out.tz y hy; exact this)).mono ?_
  rintro e w1 ⟨rfl, hp⟩
  obtain ⟨hlk, hbel⟩ := turn_to HK.out hp
  obtain ⟨vm1, vb1, vg1, vt1, H1⟩ := hlk
  have HB1 := Lib.hid hbel
  have HK1 := Lib.hid H1
  have c0 : w1.cell? ⟨g, 0, none⟩ = some (.int .i64 s.c.codec) := H1.bk.cell rfl
  have c1 : w1.cell? ⟨g, 1, none⟩ = some (.int .i64 s.c.sum) := H1.bk.cell rfl
  have c2 : w1.cell? ⟨g, 2, none⟩ = some (.int .i64 s.c.most) := H1.bk.cell rfl
  have c3 : w1.cell? ⟨g, 3, none⟩ = some (.int .i64 s.c.map) := H1.bk.cell rfl
  have c6 : w1.cell? ⟨g, 10, none⟩ = some (.string (bzL s.f.held)) := H1.bk.cell rfl
  have c7 : w1.cell? ⟨g, 11, none⟩ = some (.bool s.f.over) := H1.bk.cell rfl
  clear hp hbel H1 HW
  go_wp2_with fail
  have hS := And.intro c0 (And.intro c1 (And.intro c2 c3))
  clear c0 c1 c2 c3
  refine wp_region_held_drew (S := (fun wx => wx.cell? ⟨g, 0, none⟩ = some (.int .i64 s.c.codec) ∧ wx.cell? ⟨g, 1, none⟩ = some (.int .i64 s.c.sum) ∧ wx.cell? ⟨g, 2, none⟩ = some (.int .i64 s.c.most) ∧ wx.cell? ⟨g, 3, none⟩ = some (.int .i64 s.c.map))) (by kernel_rfl) hS (fun hHeld => ?_)
  refine tkH 0 ?_ rfl (Or.inl ⟨by rfl, ?_⟩) ?_; rotate_left
  ·intro wq hSw; (try dsimp only at hSw); (try simp only [gT, gZ]); go_simp; (try with_reducible rfl)
  simp only [Act.put, gT, gZ, sT, sZ, sS]
  refine tkH 1 ?_ rfl (Or.inl ⟨by rfl, ?_⟩) ?_; rotate_left
  ·intro wq hSw; (try dsimp only at hSw); (try simp only [gT, gS, gZ]); go_simp; (try with_reducible rfl)
  simp only [Act.put, gT, gS, gZ, sT, sZ, sS]
  refine tkH 2 ?_ rfl (Or.inl ⟨by rfl, ?_⟩) ?_; rotate_left
  ·intro wq hSw; (try dsimp only at hSw); (try simp only [gT, gS, gZ]); go_simp; (try with_reducible rfl)
  simp only [Act.put, gT, gS, gZ, sT, sZ, sS]
  refine tkH 3 ?_ rfl (Or.inl ⟨by rfl, ?_⟩) ?_; rotate_left
  ·intro wq hSw; (try dsimp only at hSw); (try simp only [gT, gS, gZ]); go_simp; (try with_reducible rfl)
  simp only [Act.put, gT, gS, gZ, sT, sZ, sS]
  refine tkH 4 ?_ rfl (Or.inl ⟨by rfl, ?_⟩) ?_; rotate_left
  ·intro wq hSw; (try dsimp only at hSw); (try simp only [gT, gS, gZ]); go_simp; (try with_reducible rfl)
  simp only [Act.put, gT, gS, gZ, sT, sZ, sS]
  refine tkH 5 ?_ rfl (Or.inl ⟨by rfl, ?_⟩) ?_; rotate_left
  ·intro wq hSw; (try dsimp only at hSw); (try simp only [gT, gS, gZ]); go_simp; (try with_reducible rfl)
  simp only [Act.put, gT, gS, gZ, sT, sZ, sS]
  refine tkH 6 ?_ rfl (Or.inl ⟨by rfl, ?_⟩) ?_; rotate_left
  ·intro wq hSw; (try dsimp only at hSw); (try simp only [gT, gS, gZ]); go_simp; (try with_reducible rfl)
  simp only [Act.put, gT, gS, gZ, sT, sZ, sS]
  refine tkH 7 ?_ rfl (Or.inl ⟨by rfl, ?_⟩) ?_; rotate_left
  ·intro wq hSw; (try dsimp only at hSw); (try simp only [gT, gS, gZ]); go_simp; (try with_reducible rfl)
  simp only [Act.put, gT, gS, gZ, sT, sZ, sS]
  refine tkH 8 ?_ rfl (Or.inl ⟨by rfl, ?_⟩) ?_; rotate_left
  ·intro wq hSw; (try dsimp only at hSw); (try simp only [gT, gS, gZ]); go_simp; (try with_reducible rfl)
  simp only [Act.put, gT, gS, gZ, sT, sZ, sS]
  refine tkH 10 ?_ rfl (Or.inl ⟨by rfl, ?_⟩) ?_; rotate_left
  ·intro wq hSw; (try dsimp only at hSw); (try simp only [gT, gS, gZ]); go_simp; (try with_reducible rfl)
  simp only [Act.put, gT, gS, gZ, sT, sZ, sS]
  refine wpAnyH_ready (rs := [9]) (by kernel_rfl) (by simp) ?_
  refine AllReadyH.cons rfl (fun K hK => ?_) AllReadyH.nil
  (try simp only [gT, gS, gZ])
  skip
  go_simp
  skip
  refine hK.out _ _ hS (fun hHeld => ?_)
  clear hK K
  refine wpAnyH_ready (rs := [11]) (by kernel_rfl) (by simp) ?_
  refine AllReadyH.cons rfl (fun K hK => ?_) AllReadyH.nil
  (try simp only [gT, gS, gZ])
  go_simp
  go_at_call 90
  refine (HFR.out _).mono ?_
  rintro e w2 ⟨vf, rfl, hof, hb2⟩
  have hS := And.intro (cell_keep hb2 hS.1) (And.intro (cell_keep hb2 hS.2.1) (And.intro (cell_keep hb2 hS.2.2.1) (cell_keep hb2 hS.2.2.2)))
  have HK2 := Lib.hid ((HK1.out.below (Below.refl _ _).drew).below hb2)
  have HB2 := Lib.hid (HB1.out.trans ((Below.trans (Below.refl w1.heap.size w1).drew hb2).mono HK1.out.bw))
  have HOF := Lib.hid (hof.mono (base' := base) HK1.out.bw)
  have HAB := Lib.hid (apart_of (fun k hk => (HK1.out.ob.low k hk).2) hof)
  have HAG := Lib.hid (apart_of (fun k hk => (HK1.out.og.low k hk).2) hof)
  clear hof hb2
  refine hK.out _ _ hS (fun hHeld => ?_)
  clear hK K
  refine tkH 12 ?_ rfl (Or.inl ⟨by rfl, ?_⟩) ?_; rotate_left
  ·intro wq hSw; (try dsimp only at hSw); (try simp only [gT, gS, gZ]); go_simp; (try with_reducible rfl)
  simp only [Act.put, gT, gS, gZ, sT, sZ, sS]
  refine tkH 13 ?_ rfl (Or.inl ⟨by rfl, ?_⟩) ?_; rotate_left
  ·intro wq hSw; (try dsimp only at hSw); (try simp only [gT, gS, gZ]); go_simp; (try with_reducible rfl)
  simp only [Act.put, gT, gS, gZ, sT, sZ, sS]
  refine tkH 14 ?_ rfl (Or.inl ⟨by rfl, ?_⟩) ?_; rotate_left
  ·intro wq hSw; (try dsimp only at hSw); (try simp only [gT, gS, gZ]); go_simp; (try with_reducible rfl)
  simp only [Act.put, gT, gS, gZ, sT, sZ, sS]
  refine tkH 15 ?_ rfl (Or.inl ⟨by rfl, ?_⟩) ?_; rotate_left
  ·intro wq hSw; (try dsimp only at hSw); (try simp only [gT, gS, gZ]); go_simp; (try with_reducible rfl)
  simp only [Act.put, gT, gS, gZ, sT, sZ, sS]
  refine tkH 16 ?_ rfl (Or.inl ⟨by rfl, ?_⟩) ?_; rotate_left
  ·intro wq hSw; (try dsimp only at hSw); (try simp only [gT, gS, gZ]); go_simp; (try with_reducible rfl)
  simp only [Act.put, gT, gS, gZ, sT, sZ, sS]
  refine tkH 17 ?_ rfl (Or.inl ⟨by rfl, ?_⟩) ?_; rotate_left
  ·intro wq hSw; (try dsimp only at hSw); (try simp only [gT, gS, gZ]); go_simp; (try with_reducible rfl)
  simp only [Act.put, gT, gS, gZ, sT, sZ, sS]
  have hx6 : w2.cell? ⟨g, 10, none⟩ = some (.string (bzL s.f.held)) := HK2.out.bk.cell rfl
  have hx7 : w2.cell? ⟨g, 11, none⟩ = some (.bool s.f.over) := HK2.out.bk.cell rfl
  have f6 := HK2.out.bk.free 10
  have f7 := HK2.out.bk.free 11
  have HK3 := Lib.hid (HK2.out.setF fd)
  have HOF3 := Lib.hid (os_set (os_set HOF.out (own_link HK2.out.bk HOF.out) (i := 10) (.string (bzL fd.held))) (own_link HK2.out.bk HOF.out) (i := 11) (.bool fd.over))
  have HB3 := Lib.hid (HB2.out.trans (below_set2 (i := 10) (j := 11) HK1.out.bg (.string (bzL fd.held)) (.bool fd.over)))
  have hS := (show ((w2.setCell ⟨g, 10, none⟩ (.string (bzL fd.held))).setCell ⟨g, 11, none⟩ (.bool fd.over)).cell? ⟨g, 0, none⟩ = some (.int .i64 s.c.codec) ∧ ((w2.setCell ⟨g, 10, none⟩ (.string (bzL fd.held))).setCell ⟨g, 11, none⟩ (.bool fd.over)).cell? ⟨g, 1, none⟩ = some (.int .i64 s.c.sum) ∧ ((w2.setCell ⟨g, 10, none⟩ (.string (bzL fd.held))).setCell ⟨g, 11, none⟩ (.bool fd.over)).cell? ⟨g, 2, none⟩ = some (.int .i64 s.c.most) ∧ ((w2.setCell ⟨g, 10, none⟩ (.string (bzL fd.held))).setCell ⟨g, 11, none⟩ (.bool fd.over)).cell? ⟨g, 3, none⟩ = some (.int .i64 s.c.map) from ⟨HK3.out.bk.cell rfl, HK3.out.bk.cell rfl, HK3.out.bk.cell rfl, HK3.out.bk.cell rfl⟩)
  refine wpAnyH_ready (rs := [18]) (by kernel_rfl) (by simp) ?_
  refine AllReadyH.cons rfl (fun K hK => ?_) AllReadyH.nil
  (try simp only [gT, gS, gZ])
  skip
  go_simp
  skip
  refine hK.out _ _ hS (fun hHeld => ?_)
  clear hK K
  refine tkH 19 ?_ rfl (Or.inl ⟨by rfl, ?_⟩) ?_; rotate_left
  ·intro wq hSw; (try dsimp only at hSw); (try simp only [gT, gS, gZ]); go_simp; (try with_reducible rfl)
  simp only [Act.put, gT, gS, gZ, sT, sZ, sS]
  refine wpAnyH_done (by kernel_rfl) ?_ _
  obtain ⟨w3, hw3⟩ : ∃ w3, w3 = (w2.setCell ⟨g, 10, none⟩ (.string (bzL fd.held))).setCell ⟨g, 11, none⟩ (.bool fd.over) := ⟨_, rfl⟩
  change Exit.then _ _ _ _ ((w2.setCell ⟨g, 10, none⟩ (.string (bzL fd.held))).setCell ⟨g, 11, none⟩ (.bool fd.over))
  rw [← hw3] at HK3 HOF3 HB3 ⊢
  clear hw3 hS HK2 HB2 HOF HB1 hx6 hx7 f6 f7 c6 c7 HK1 HK
  obtain ⟨af, cf, rfl⟩ := HOF3.out.reads.shape
  have HBS3 := Lib.hid (show Beside w3 base (.slice af fr.length cf) vb1 vg1 fr from ⟨HOF3.out, HAB.out.symm, HAG.out.symm⟩)
  clear HAB HAG HOF3
  go_wp2
  go_loopw [39] (fun i wr => ∃ (k : Nat) (vb2 vg2 : Value), k ≤ fr.length ∧ i = .int .i64 (k : Int) ∧ LKat wr base g ((fr.take k).foldl Ls.takeP { s with ts := r, f := fd }) vm1 vb2 vg2 vt1 ∧ Beside wr base (.slice af fr.length cf) vb2 vg2 fr ∧ Below base w wr) (fun i _ => fr.length - (intOf i).toNat)
  case atStart => exact ⟨0, vb1, vg1, Nat.zero_le _, rfl, HK3.out, HBS3.out, HB3.out⟩
  case round =>
   obtain ⟨k, vb2, vg2, hk, rfl, hlk, hbs, hb⟩ := hrel
   have HK := Lib.hid hlk
   have HBS := Lib.hid hbs
   have HB := Lib.hid hb
   clear hlk hbs hb HK3 HBS3 HB3
   by_cases hlt : k < fr.length
   ·have HSN := Lib.hid (fold_snoc Ls.takeP { s with ts := r, f := fd } fr k hlt)
    have hqo := HOK.out.takes (fr.take k) (fun x hx => by have := HFZ.out x (List.mem_of_mem_take hx); omega)
    generalize (fr.take k).foldl Ls.takeP { s with ts := r, f := fd } = q at *
    have HFS := Lib.hid (fun (T : ByteArray) (u : World) (hT : T.size ≤ maxLen) => implFindSend_any q.c.codec q.c.sum q.c.most q.c.map T u (codec_wf hqo.conf) hT)
    obtain ⟨y, rfl, _, d0⟩ := HBS.out.1.reads.at_ hlt
    have hAz := HFZ.out fr[k] (List.getElem_mem hlt)
    generalize fr[k] = A at *
    obtain ⟨am, cm, hsh⟩ := HK.out.om.reads.shape
    subst hsh
    have hml := hqo.ml
    have hgl := hqo.gl
    have hbl := hqo.bl
    clear hqo
    have c4 : wr.cell? ⟨g, 4, none⟩ = some (.slice am q.ms.length cm) := HK.out.bk.cell rfl
    have HKd := Lib.hid (HK.out.below (Below.refl _ _).drew)
    have HBSd := Lib.hid (HBS.out.below (Below.refl _ _).drew)
    cases hdg : digB A.data.toList with
    | false =>
     have HV := Lib.hid (HSN.out.trans (Ls.takeP_no hdg))
     go_wp2_with fail
     have hS := c4
     refine wp_region_held_drew (S := (fun wx => wx.cell? ⟨g, 4, none⟩ = some (.slice am q.ms.length cm))) (by kernel_rfl) hS (fun hHeld => ?_)
     refine tkH 0 ?_ rfl (Or.inl ⟨by rfl, ?_⟩) ?_; rotate_left
     ·intro wq hSw; (try dsimp only at hSw); (try simp only [gT, gZ]); go_simp; (try with_reducible rfl)
     simp only [Act.put, gT, gZ, sT, sZ, sS]
     refine tkH 1 ?_ rfl (Or.inl ⟨by rfl, ?_⟩) ?_; rotate_left
     ·intro wq hSw; (try dsimp only at hSw); (try simp only [gT, gS, gZ]); go_simp; (try with_reducible rfl)
     simp only [Act.put, gT, gS, gZ, sT, sZ, sS]
     refine tkH 2 ?_ rfl (Or.inl ⟨by rfl, ?_⟩) ?_; rotate_left
     ·intro wq hSw; (try dsimp only at hSw); (try simp only [gT, gS, gZ]); go_simp; (try with_reducible rfl)
     simp only [Act.put, gT, gS, gZ, sT, sZ, sS]
     refine tkH 3 ?_ rfl (Or.inl ⟨by rfl, ?_⟩) ?_; rotate_left
     ·intro wq hSw; (try dsimp only at hSw); (try simp only [gT, gS, gZ]); go_simp; (try with_reducible rfl)
     simp only [Act.put, gT, gS, gZ, sT, sZ, sS]
     refine tkH 4 ?_ rfl (Or.inl ⟨by rfl, ?_⟩) ?_; rotate_left
     ·intro wq hSw; (try dsimp only at hSw); (try simp only [gT, gS, gZ]); go_simp; (try with_reducible rfl)
     simp only [Act.put, gT, gS, gZ, sT, sZ, sS]
     refine tkH 5 ?_ rfl (Or.inl ⟨by rfl, ?_⟩) ?_; rotate_left
     ·intro wq hSw; (try dsimp only at hSw); (try simp only [gT, gS, gZ]); go_simp; (try with_reducible rfl)
     simp only [Act.put, gT, gS, gZ, sT, sZ, sS]
     refine tkH 6 ?_ rfl (Or.inl ⟨by rfl, ?_⟩) ?_; rotate_left
     ·intro wq hSw; (try dsimp only at hSw); (try simp only [gT, gS, gZ]); go_simp; (try with_reducible rfl)
     simp only [Act.put, gT, gS, gZ, sT, sZ, sS]
     refine tkH 7 ?_ rfl (Or.inl ⟨by rfl, ?_⟩) ?_; rotate_left
     ·intro wq hSw; (try dsimp only at hSw); (try simp only [gT, gS, gZ]); go_simp; (try with_reducible rfl)
     simp only [Act.put, gT, gS, gZ, sT, sZ, sS]
     refine tkH 8 ?_ rfl (Or.inl ⟨by rfl, ?_⟩) ?_; rotate_left
     ·intro wq hSw; (try dsimp only at hSw); (try simp only [gT, gS, gZ]); go_simp; (try with_reducible rfl)
     simp only [Act.put, gT, gS, gZ, sT, sZ, sS]
     refine tkH 9 ?_ rfl (Or.inl ⟨by rfl, ?_⟩) ?_; rotate_left
     ·intro wq hSw; (try dsimp only at hSw); (try simp only [gT, gS, gZ]); go_simp; (try with_reducible rfl)
     simp only [Act.put, gT, gS, gZ, sT, sZ, sS]
     refine wpAnyH_ready (rs := [10]) (by kernel_rfl) (by simp) ?_
     refine AllReadyH.cons rfl (fun K hK => ?_) AllReadyH.nil
     (try simp only [gT, gS, gZ])
     go_simp
     go_at_call 91
     refine (accept_no g 9 A _ _ (by omega) hdg).mono ?_
     rintro e w4 ⟨rfl, rfl⟩
     refine hK.out _ _ hS (fun hHeld => ?_)
     clear hK K
     refine tkH 11 ?_ rfl (Or.inl ⟨by rfl, ?_⟩) ?_; rotate_left
     ·intro wq hSw; (try dsimp only at hSw); (try simp only [gT, gS, gZ]); go_simp; (try with_reducible rfl)
     simp only [Act.put, gT, gS, gZ, sT, sZ, sS]
     refine wpAnyH_done (by kernel_rfl) ?_ _
     go_wp2
     go_roundw
     case rel => exact ⟨k + 1, _, _, by omega, by go_num, by rw [HV.out]; exact HKd.out, HBSd.out, HB.out.drew⟩
     case measure => simp [intOf]; omega
    | true =>
     obtain ⟨b, r2, hA, hb⟩ := dig_split hdg
     have HTK := Lib.hid (HSN.out.trans (Ls.takeP_yes hA hb))
     obtain ⟨D, hD⟩ : ∃ D : ByteArray, D = ⟨#[b]⟩ := ⟨_, rfl⟩
     have HDL := Lib.hid (show D.data.toList = [b] by rw [hD])
     have hDs : D.size = 1 := by rw [hD]; rfl
     have hDe : D.toList.isEmpty = false := by rw [Lib.toList_data, HDL.out]; rfl
     have HDD := Lib.hid hD
     have HA := Lib.hid hA
     have HHB := Lib.hid hb
     clear hA hb hD hdg
     by_cases hkp : b = parB q.gs.length ∧ q.gs.length < q.ms.length
     ·obtain ⟨hk1, hk2⟩ := hkp
      have HQ1 := Lib.hid hk1
      have HK1' := Lib.hid (Ls.kept_yes (s := q) (r := r2) ⟨hk1, hk2⟩)
      clear hk1
      go_wp2_with fail
      have hS := c4
      refine wp_region_held_drew (S := (fun wx => wx.cell? ⟨g, 4, none⟩ = some (.slice am q.ms.length cm))) (by kernel_rfl) hS (fun hHeld => ?_)
      refine tkH 0 ?_ rfl (Or.inl ⟨by rfl, ?_⟩) ?_; rotate_left
      ·intro wq hSw; (try dsimp only at hSw); (try simp only [gT, gZ]); go_simp; (try with_reducible rfl)
      simp only [Act.put, gT, gZ, sT, sZ, sS]
      refine tkH 1 ?_ rfl (Or.inl ⟨by rfl, ?_⟩) ?_; rotate_left
      ·intro wq hSw; (try dsimp only at hSw); (try simp only [gT, gS, gZ]); go_simp; (try with_reducible rfl)
      simp only [Act.put, gT, gS, gZ, sT, sZ, sS]
      refine tkH 2 ?_ rfl (Or.inl ⟨by rfl, ?_⟩) ?_; rotate_left
      ·intro wq hSw; (try dsimp only at hSw); (try simp only [gT, gS, gZ]); go_simp; (try with_reducible rfl)
      simp only [Act.put, gT, gS, gZ, sT, sZ, sS]
      refine tkH 3 ?_ rfl (Or.inl ⟨by rfl, ?_⟩) ?_; rotate_left
      ·intro wq hSw; (try dsimp only at hSw); (try simp only [gT, gS, gZ]); go_simp; (try with_reducible rfl)
      simp only [Act.put, gT, gS, gZ, sT, sZ, sS]
      refine tkH 4 ?_ rfl (Or.inl ⟨by rfl, ?_⟩) ?_; rotate_left
      ·intro wq hSw; (try dsimp only at hSw); (try simp only [gT, gS, gZ]); go_simp; (try with_reducible rfl)
      simp only [Act.put, gT, gS, gZ, sT, sZ, sS]
      refine tkH 5 ?_ rfl (Or.inl ⟨by rfl, ?_⟩) ?_; rotate_left
      ·intro wq hSw; (try dsimp only at hSw); (try simp only [gT, gS, gZ]); go_simp; (try with_reducible rfl)
      simp only [Act.put, gT, gS, gZ, sT, sZ, sS]
      refine tkH 6 ?_ rfl (Or.inl ⟨by rfl, ?_⟩) ?_; rotate_left
      ·intro wq hSw; (try dsimp only at hSw); (try simp only [gT, gS, gZ]); go_simp; (try with_reducible rfl)
      simp only [Act.put, gT, gS, gZ, sT, sZ, sS]
      refine tkH 7 ?_ rfl (Or.inl ⟨by rfl, ?_⟩) ?_; rotate_left
      ·intro wq hSw; (try dsimp only at hSw); (try simp only [gT, gS, gZ]); go_simp; (try with_reducible rfl)
      simp only [Act.put, gT, gS, gZ, sT, sZ, sS]
      refine tkH 8 ?_ rfl (Or.inl ⟨by rfl, ?_⟩) ?_; rotate_left
      ·intro wq hSw; (try dsimp only at hSw); (try simp only [gT, gS, gZ]); go_simp; (try with_reducible rfl)
      simp only [Act.put, gT, gS, gZ, sT, sZ, sS]
      refine tkH 9 ?_ rfl (Or.inl ⟨by rfl, ?_⟩) ?_; rotate_left
      ·intro wq hSw; (try dsimp only at hSw); (try simp only [gT, gS, gZ]); go_simp; (try with_reducible rfl)
      simp only [Act.put, gT, gS, gZ, sT, sZ, sS]
      refine wpAnyH_ready (rs := [10]) (by kernel_rfl) (by simp) ?_
      refine AllReadyH.cons rfl (fun K hK => ?_) AllReadyH.nil
      (try simp only [gT, gS, gZ])
      go_simp
      go_at_call 91
      refine (accept_new g 9 base _ _ _ q.gs A b r2 q.ms.length _ HKd.out.wgot HKd.out.bg HA.out (by omega) HHB.out (by omega) HQ1.out hk2).mono ?_
      rintro e w4 ⟨rfl, hp⟩
      rw [← HDD.out]
      obtain ⟨⟨vg4, hk4, hbs4⟩, hb4⟩ := turn_got_at HKd.out HBSd.out hp
      have hS := (show w4.cell? ⟨g, 4, none⟩ = some (.slice am q.ms.length cm) from hk4.bk.cell rfl)
      have HK4 := Lib.hid hk4
      have HBS4 := Lib.hid hbs4
      have HB4 := Lib.hid (HB.out.drew.trans hb4)
      clear hp hk4 hbs4 hb4 c4
      refine hK.out _ _ hS (fun hHeld => ?_)
      clear hK K
      refine tkH 11 ?_ rfl (Or.inl ⟨by rfl, ?_⟩) ?_; rotate_left
      ·intro wq hSw; (try dsimp only at hSw); (try simp only [gT, gS, gZ]); go_simp; (try with_reducible rfl)
      simp only [Act.put, gT, gS, gZ, sT, sZ, sS]
      refine wpAnyH_done (by kernel_rfl) ?_ _
      by_cases h5 : q.bs.length < 5
      ·have HV := Lib.hid ((HTK.out.trans (congrArg (fun x => Ls.told x b) HK1'.out)).trans (Ls.told_yes (s := { q with gs := q.gs ++ [bzL r2] }) h5))
       go_wp2_with fail
       have hS := (show (w4.cell? ⟨g, 0, none⟩ = some (.int .i64 q.c.codec) ∧ w4.cell? ⟨g, 1, none⟩ = some (.int .i64 q.c.sum) ∧ w4.cell? ⟨g, 2, none⟩ = some (.int .i64 q.c.most) ∧ w4.cell? ⟨g, 3, none⟩ = some (.int .i64 q.c.map)) from ⟨HK4.out.bk.cell rfl, HK4.out.bk.cell rfl, HK4.out.bk.cell rfl, HK4.out.bk.cell rfl⟩)
       refine wp_region_held_drew (S := (fun wx => wx.cell? ⟨g, 0, none⟩ = some (.int .i64 q.c.codec) ∧ wx.cell? ⟨g, 1, none⟩ = some (.int .i64 q.c.sum) ∧ wx.cell? ⟨g, 2, none⟩ = some (.int .i64 q.c.most) ∧ wx.cell? ⟨g, 3, none⟩ = some (.int .i64 q.c.map))) (by kernel_rfl) hS (fun hHeld => ?_)
       refine tkH 0 ?_ rfl (Or.inl ⟨by rfl, ?_⟩) ?_; rotate_left
       ·intro wq hSw; (try dsimp only at hSw); (try simp only [gT, gZ]); go_simp; (try with_reducible rfl)
       simp only [Act.put, gT, gZ, sT, sZ, sS]
       refine tkH 1 ?_ rfl (Or.inl ⟨by rfl, ?_⟩) ?_; rotate_left
       ·intro wq hSw; (try dsimp only at hSw); (try simp only [gT, gS, gZ]); go_simp; (try with_reducible rfl)
       simp only [Act.put, gT, gS, gZ, sT, sZ, sS]
       refine tkH 2 ?_ rfl (Or.inl ⟨by rfl, ?_⟩) ?_; rotate_left
       ·intro wq hSw; (try dsimp only at hSw); (try simp only [gT, gS, gZ]); go_simp; (try with_reducible rfl)
       simp only [Act.put, gT, gS, gZ, sT, sZ, sS]
       refine tkH 3 ?_ rfl (Or.inl ⟨by rfl, ?_⟩) ?_; rotate_left
       ·intro wq hSw; (try dsimp only at hSw); (try simp only [gT, gS, gZ]); go_simp; (try with_reducible rfl)
       simp only [Act.put, gT, gS, gZ, sT, sZ, sS]
       refine tkH 4 ?_ rfl (Or.inl ⟨by rfl, ?_⟩) ?_; rotate_left
       ·intro wq hSw; (try dsimp only at hSw); (try simp only [gT, gS, gZ]); go_simp; (try with_reducible rfl)
       simp only [Act.put, gT, gS, gZ, sT, sZ, sS]
       refine tkH 5 ?_ rfl (Or.inl ⟨by rfl, ?_⟩) ?_; rotate_left
       ·intro wq hSw; (try dsimp only at hSw); (try simp only [gT, gS, gZ]); go_simp; (try with_reducible rfl)
       simp only [Act.put, gT, gS, gZ, sT, sZ, sS]
       refine tkH 6 ?_ rfl (Or.inl ⟨by rfl, ?_⟩) ?_; rotate_left
       ·intro wq hSw; (try dsimp only at hSw); (try simp only [gT, gS, gZ]); go_simp; (try with_reducible rfl)
       simp only [Act.put, gT, gS, gZ, sT, sZ, sS]
       refine tkH 7 ?_ rfl (Or.inl ⟨by rfl, ?_⟩) ?_; rotate_left
       ·intro wq hSw; (try dsimp only at hSw); (try simp only [gT, gS, gZ]); go_simp; (try with_reducible rfl)
       simp only [Act.put, gT, gS, gZ, sT, sZ, sS]
       refine tkH 8 ?_ rfl (Or.inl ⟨by rfl, ?_⟩) ?_; rotate_left
       ·intro wq hSw; (try dsimp only at hSw); (try simp only [gT, gS, gZ]); go_simp; (try with_reducible rfl)
       simp only [Act.put, gT, gS, gZ, sT, sZ, sS]
       refine wpAnyH_ready (rs := [9]) (by kernel_rfl) (by simp) ?_
       refine AllReadyH.cons rfl (fun K hK => ?_) AllReadyH.nil
       (try simp only [gT, gS, gZ])
       go_simp
       go_at_call 87
       refine (HFS.out D _ (by unfold maxLen; omega)).mono ?_
       rintro e w5 ⟨rfl, hb5⟩
       rw [HDL.out]
       have hS := And.intro (cell_keep hb5 hS.1) (And.intro (cell_keep hb5 hS.2.1) (And.intro (cell_keep hb5 hS.2.2.1) (cell_keep hb5 hS.2.2.2)))
       have HK5 := Lib.hid ((HK4.out.below (Below.refl _ _).drew).below hb5)
       have HBS5 := Lib.hid ((HBS4.out.below (Below.refl _ _).drew).below hb5)
       have HB5 := Lib.hid (HB4.out.trans ((Below.trans (Below.refl w4.heap.size w4).drew hb5).mono HK4.out.bw))
       clear hb5
       refine hK.out _ _ hS (fun hHeld => ?_)
       clear hK K
       refine wpAnyH_ready (rs := [10]) (by kernel_rfl) (by simp) ?_
       refine AllReadyH.cons rfl (fun K hK => ?_) AllReadyH.nil
       (try simp only [gT, gS, gZ])
       go_simp
       go_at_call 86
       refine (put_room g 8 base _ _ _ q.bs _ _ HK5.out.wback HK5.out.bg h5).mono ?_
       rintro e w6 ⟨rfl, hp⟩
       obtain ⟨⟨vb6, hk6, hbs6⟩, hb6⟩ := turn_back_at HK5.out HBS5.out hp
       have hS := (show (w6.cell? ⟨g, 0, none⟩ = some (.int .i64 q.c.codec) ∧ w6.cell? ⟨g, 1, none⟩ = some (.int .i64 q.c.sum) ∧ w6.cell? ⟨g, 2, none⟩ = some (.int .i64 q.c.most) ∧ w6.cell? ⟨g, 3, none⟩ = some (.int .i64 q.c.map)) from ⟨hk6.bk.cell rfl, hk6.bk.cell rfl, hk6.bk.cell rfl, hk6.bk.cell rfl⟩)
       have HK6 := Lib.hid hk6
       have HBS6 := Lib.hid hbs6
       have HB6 := Lib.hid (HB5.out.trans hb6)
       clear hp hk6 hbs6 hb6
       refine hK.out _ _ hS (fun hHeld => ?_)
       clear hK K
       refine wpAnyH_done (by kernel_rfl) ?_ _
       go_wp2
       go_roundw
       case rel => exact ⟨k + 1, vb6, _, by omega, by go_num, by rw [HV.out]; exact HK6.out, HBS6.out, HB6.out⟩
       case measure => simp [intOf]; omega
      ·have HV := Lib.hid ((HTK.out.trans (congrArg (fun x => Ls.told x b) HK1'.out)).trans (Ls.told_no (s := { q with gs := q.gs ++ [bzL r2] }) h5))
       go_wp2_with fail
       have hS := (show (w4.cell? ⟨g, 0, none⟩ = some (.int .i64 q.c.codec) ∧ w4.cell? ⟨g, 1, none⟩ = some (.int .i64 q.c.sum) ∧ w4.cell? ⟨g, 2, none⟩ = some (.int .i64 q.c.most) ∧ w4.cell? ⟨g, 3, none⟩ = some (.int .i64 q.c.map)) from ⟨HK4.out.bk.cell rfl, HK4.out.bk.cell rfl, HK4.out.bk.cell rfl, HK4.out.bk.cell rfl⟩)
       refine wp_region_held_drew (S := (fun wx => wx.cell? ⟨g, 0, none⟩ = some (.int .i64 q.c.codec) ∧ wx.cell? ⟨g, 1, none⟩ = some (.int .i64 q.c.sum) ∧ wx.cell? ⟨g, 2, none⟩ = some (.int .i64 q.c.most) ∧ wx.cell? ⟨g, 3, none⟩ = some (.int .i64 q.c.map))) (by kernel_rfl) hS (fun hHeld => ?_)
       refine tkH 0 ?_ rfl (Or.inl ⟨by rfl, ?_⟩) ?_; rotate_left
       ·intro wq hSw; (try dsimp only at hSw); (try simp only [gT, gZ]); go_simp; (try with_reducible rfl)
       simp only [Act.put, gT, gZ, sT, sZ, sS]
       refine tkH 1 ?_ rfl (Or.inl ⟨by rfl, ?_⟩) ?_; rotate_left
       ·intro wq hSw; (try dsimp only at hSw); (try simp only [gT, gS, gZ]); go_simp; (try with_reducible rfl)
       simp only [Act.put, gT, gS, gZ, sT, sZ, sS]
       refine tkH 2 ?_ rfl (Or.inl ⟨by rfl, ?_⟩) ?_; rotate_left
       ·intro wq hSw; (try dsimp only at hSw); (try simp only [gT, gS, gZ]); go_simp; (try with_reducible rfl)
       simp only [Act.put, gT, gS, gZ, sT, sZ, sS]
       refine tkH 3 ?_ rfl (Or.inl ⟨by rfl, ?_⟩) ?_; rotate_left
       ·intro wq hSw; (try dsimp only at hSw); (try simp only [gT, gS, gZ]); go_simp; (try with_reducible rfl)
       simp only [Act.put, gT, gS, gZ, sT, sZ, sS]
       refine tkH 4 ?_ rfl (Or.inl ⟨by rfl, ?_⟩) ?_; rotate_left
       ·intro wq hSw; (try dsimp only at hSw); (try simp only [gT, gS, gZ]); go_simp; (try with_reducible rfl)
       simp only [Act.put, gT, gS, gZ, sT, sZ, sS]
       refine tkH 5 ?_ rfl (Or.inl ⟨by rfl, ?_⟩) ?_; rotate_left
       ·intro wq hSw; (try dsimp only at hSw); (try simp only [gT, gS, gZ]); go_simp; (try with_reducible rfl)
       simp only [Act.put, gT, gS, gZ, sT, sZ, sS]
       refine tkH 6 ?_ rfl (Or.inl ⟨by rfl, ?_⟩) ?_; rotate_left
       ·intro wq hSw; (try dsimp only at hSw); (try simp only [gT, gS, gZ]); go_simp; (try with_reducible rfl)
       simp only [Act.put, gT, gS, gZ, sT, sZ, sS]
       refine tkH 7 ?_ rfl (Or.inl ⟨by rfl, ?_⟩) ?_; rotate_left
       ·intro wq hSw; (try dsimp only at hSw); (try simp only [gT, gS, gZ]); go_simp; (try with_reducible rfl)
       simp only [Act.put, gT, gS, gZ, sT, sZ, sS]
       refine tkH 8 ?_ rfl (Or.inl ⟨by rfl, ?_⟩) ?_; rotate_left
       ·intro wq hSw; (try dsimp only at hSw); (try simp only [gT, gS, gZ]); go_simp; (try with_reducible rfl)
       simp only [Act.put, gT, gS, gZ, sT, sZ, sS]
       refine wpAnyH_ready (rs := [9]) (by kernel_rfl) (by simp) ?_
       refine AllReadyH.cons rfl (fun K hK => ?_) AllReadyH.nil
       (try simp only [gT, gS, gZ])
       go_simp
       go_at_call 87
       refine (HFS.out D _ (by unfold maxLen; omega)).mono ?_
       rintro e w5 ⟨rfl, hb5⟩
       rw [HDL.out]
       have hS := And.intro (cell_keep hb5 hS.1) (And.intro (cell_keep hb5 hS.2.1) (And.intro (cell_keep hb5 hS.2.2.1) (cell_keep hb5 hS.2.2.2)))
       have HK5 := Lib.hid ((HK4.out.below (Below.refl _ _).drew).below hb5)
       have HBS5 := Lib.hid ((HBS4.out.below (Below.refl _ _).drew).below hb5)
       have HB5 := Lib.hid (HB4.out.trans ((Below.trans (Below.refl w4.heap.size w4).drew hb5).mono HK4.out.bw))
       clear hb5
       refine hK.out _ _ hS (fun hHeld => ?_)
       clear hK K
       refine wpAnyH_ready (rs := [10]) (by kernel_rfl) (by simp) ?_
       refine AllReadyH.cons rfl (fun K hK => ?_) AllReadyH.nil
       (try simp only [gT, gS, gZ])
       go_simp
       go_at_call 86
       refine (put_full g 8 base _ _ _ q.bs _ _ HK5.out.wback (by omega) (by omega)).mono ?_
       rintro e w6 ⟨rfl, rfl⟩
       refine hK.out _ _ hS (fun hHeld => ?_)
       clear hK K
       refine wpAnyH_done (by kernel_rfl) ?_ _
       go_wp2
       go_roundw
       case rel => exact ⟨k + 1, _, _, by omega, by go_num, by rw [HV.out]; exact HK5.out, HBS5.out, HB5.out⟩
       case measure => simp [intOf]; omega
     ·have HNO := Lib.hid hkp
      have HK1' := Lib.hid (Ls.kept_no (s := q) (r := r2) hkp)
      clear hkp
      go_wp2_with fail
      have hS := c4
      refine wp_region_held_drew (S := (fun wx => wx.cell? ⟨g, 4, none⟩ = some (.slice am q.ms.length cm))) (by kernel_rfl) hS (fun hHeld => ?_)
      refine tkH 0 ?_ rfl (Or.inl ⟨by rfl, ?_⟩) ?_; rotate_left
      ·intro wq hSw; (try dsimp only at hSw); (try simp only [gT, gZ]); go_simp; (try with_reducible rfl)
      simp only [Act.put, gT, gZ, sT, sZ, sS]
      refine tkH 1 ?_ rfl (Or.inl ⟨by rfl, ?_⟩) ?_; rotate_left
      ·intro wq hSw; (try dsimp only at hSw); (try simp only [gT, gS, gZ]); go_simp; (try with_reducible rfl)
      simp only [Act.put, gT, gS, gZ, sT, sZ, sS]
      refine tkH 2 ?_ rfl (Or.inl ⟨by rfl, ?_⟩) ?_; rotate_left
      ·intro wq hSw; (try dsimp only at hSw); (try simp only [gT, gS, gZ]); go_simp; (try with_reducible rfl)
      simp only [Act.put, gT, gS, gZ, sT, sZ, sS]
      refine tkH 3 ?_ rfl (Or.inl ⟨by rfl, ?_⟩) ?_; rotate_left
      ·intro wq hSw; (try dsimp only at hSw); (try simp only [gT, gS, gZ]); go_simp; (try with_reducible rfl)
      simp only [Act.put, gT, gS, gZ, sT, sZ, sS]
      refine tkH 4 ?_ rfl (Or.inl ⟨by rfl, ?_⟩) ?_; rotate_left
      ·intro wq hSw; (try dsimp only at hSw); (try simp only [gT, gS, gZ]); go_simp; (try with_reducible rfl)
      simp only [Act.put, gT, gS, gZ, sT, sZ, sS]
      refine tkH 5 ?_ rfl (Or.inl ⟨by rfl, ?_⟩) ?_; rotate_left
      ·intro wq hSw; (try dsimp only at hSw); (try simp only [gT, gS, gZ]); go_simp; (try with_reducible rfl)
      simp only [Act.put, gT, gS, gZ, sT, sZ, sS]
      refine tkH 6 ?_ rfl (Or.inl ⟨by rfl, ?_⟩) ?_; rotate_left
      ·intro wq hSw; (try dsimp only at hSw); (try simp only [gT, gS, gZ]); go_simp; (try with_reducible rfl)
      simp only [Act.put, gT, gS, gZ, sT, sZ, sS]
      refine tkH 7 ?_ rfl (Or.inl ⟨by rfl, ?_⟩) ?_; rotate_left
      ·intro wq hSw; (try dsimp only at hSw); (try simp only [gT, gS, gZ]); go_simp; (try with_reducible rfl)
      simp only [Act.put, gT, gS, gZ, sT, sZ, sS]
      refine tkH 8 ?_ rfl (Or.inl ⟨by rfl, ?_⟩) ?_; rotate_left
      ·intro wq hSw; (try dsimp only at hSw); (try simp only [gT, gS, gZ]); go_simp; (try with_reducible rfl)
      simp only [Act.put, gT, gS, gZ, sT, sZ, sS]
      refine tkH 9 ?_ rfl (Or.inl ⟨by rfl, ?_⟩) ?_; rotate_left
      ·intro wq hSw; (try dsimp only at hSw); (try simp only [gT, gS, gZ]); go_simp; (try with_reducible rfl)
      simp only [Act.put, gT, gS, gZ, sT, sZ, sS]
      refine wpAnyH_ready (rs := [10]) (by kernel_rfl) (by simp) ?_
      refine AllReadyH.cons rfl (fun K hK => ?_) AllReadyH.nil
      (try simp only [gT, gS, gZ])
      go_simp
      go_at_call 91
      refine (accept_old g 9 base _ _ _ q.gs A b r2 q.ms.length _ HKd.out.wgot HA.out (by omega) HHB.out (by omega) (by omega) HNO.out).mono ?_
      rintro e w4 ⟨rfl, hw4⟩
      rw [← HDD.out]
      subst hw4
      refine hK.out _ _ hS (fun hHeld => ?_)
      clear hK K
      refine tkH 11 ?_ rfl (Or.inl ⟨by rfl, ?_⟩) ?_; rotate_left
      ·intro wq hSw; (try dsimp only at hSw); (try simp only [gT, gS, gZ]); go_simp; (try with_reducible rfl)
      simp only [Act.put, gT, gS, gZ, sT, sZ, sS]
      refine wpAnyH_done (by kernel_rfl) ?_ _
      by_cases h5 : q.bs.length < 5
      ·have HV := Lib.hid ((HTK.out.trans (congrArg (fun x => Ls.told x b) HK1'.out)).trans (Ls.told_yes (s := q) h5))
       go_wp2_with fail
       have hS := (show (wr.drew.cell? ⟨g, 0, none⟩ = some (.int .i64 q.c.codec) ∧ wr.drew.cell? ⟨g, 1, none⟩ = some (.int .i64 q.c.sum) ∧ wr.drew.cell? ⟨g, 2, none⟩ = some (.int .i64 q.c.most) ∧ wr.drew.cell? ⟨g, 3, none⟩ = some (.int .i64 q.c.map)) from ⟨HKd.out.bk.cell rfl, HKd.out.bk.cell rfl, HKd.out.bk.cell rfl, HKd.out.bk.cell rfl⟩)
       refine wp_region_held_drew (S := (fun wx => wx.cell? ⟨g, 0, none⟩ = some (.int .i64 q.c.codec) ∧ wx.cell? ⟨g, 1, none⟩ = some (.int .i64 q.c.sum) ∧ wx.cell? ⟨g, 2, none⟩ = some (.int .i64 q.c.most) ∧ wx.cell? ⟨g, 3, none⟩ = some (.int .i64 q.c.map))) (by kernel_rfl) hS (fun hHeld => ?_)
       refine tkH 0 ?_ rfl (Or.inl ⟨by rfl, ?_⟩) ?_; rotate_left
       ·intro wq hSw; (try dsimp only at hSw); (try simp only [gT, gZ]); go_simp; (try with_reducible rfl)
       simp only [Act.put, gT, gZ, sT, sZ, sS]
       refine tkH 1 ?_ rfl (Or.inl ⟨by rfl, ?_⟩) ?_; rotate_left
       ·intro wq hSw; (try dsimp only at hSw); (try simp only [gT, gS, gZ]); go_simp; (try with_reducible rfl)
       simp only [Act.put, gT, gS, gZ, sT, sZ, sS]
       refine tkH 2 ?_ rfl (Or.inl ⟨by rfl, ?_⟩) ?_; rotate_left
       ·intro wq hSw; (try dsimp only at hSw); (try simp only [gT, gS, gZ]); go_simp; (try with_reducible rfl)
       simp only [Act.put, gT, gS, gZ, sT, sZ, sS]
       refine tkH 3 ?_ rfl (Or.inl ⟨by rfl, ?_⟩) ?_; rotate_left
       ·intro wq hSw; (try dsimp only at hSw); (try simp only [gT, gS, gZ]); go_simp; (try with_reducible rfl)
       simp only [Act.put, gT, gS, gZ, sT, sZ, sS]
       refine tkH 4 ?_ rfl (Or.inl ⟨by rfl, ?_⟩) ?_; rotate_left
       ·intro wq hSw; (try dsimp only at hSw); (try simp only [gT, gS, gZ]); go_simp; (try with_reducible rfl)
       simp only [Act.put, gT, gS, gZ, sT, sZ, sS]
       refine tkH 5 ?_ rfl (Or.inl ⟨by rfl, ?_⟩) ?_; rotate_left
       ·intro wq hSw; (try dsimp only at hSw); (try simp only [gT, gS, gZ]); go_simp; (try with_reducible rfl)
       simp only [Act.put, gT, gS, gZ, sT, sZ, sS]
       refine tkH 6 ?_ rfl (Or.inl ⟨by rfl, ?_⟩) ?_; rotate_left
       ·intro wq hSw; (try dsimp only at hSw); (try simp only [gT, gS, gZ]); go_simp; (try with_reducible rfl)
       simp only [Act.put, gT, gS, gZ, sT, sZ, sS]
       refine tkH 7 ?_ rfl (Or.inl ⟨by rfl, ?_⟩) ?_; rotate_left
       ·intro wq hSw; (try dsimp only at hSw); (try simp only [gT, gS, gZ]); go_simp; (try with_reducible rfl)
       simp only [Act.put, gT, gS, gZ, sT, sZ, sS]
       refine tkH 8 ?_ rfl (Or.inl ⟨by rfl, ?_⟩) ?_; rotate_left
       ·intro wq hSw; (try dsimp only at hSw); (try simp only [gT, gS, gZ]); go_simp; (try with_reducible rfl)
       simp only [Act.put, gT, gS, gZ, sT, sZ, sS]
       refine wpAnyH_ready (rs := [9]) (by kernel_rfl) (by simp) ?_
       refine AllReadyH.cons rfl (fun K hK => ?_) AllReadyH.nil
       (try simp only [gT, gS, gZ])
       go_simp
       go_at_call 87
       refine (HFS.out D _ (by unfold maxLen; omega)).mono ?_
       rintro e w5 ⟨rfl, hb5⟩
       rw [HDL.out]
       have hS := And.intro (cell_keep hb5 hS.1) (And.intro (cell_keep hb5 hS.2.1) (And.intro (cell_keep hb5 hS.2.2.1) (cell_keep hb5 hS.2.2.2)))
       have HK5 := Lib.hid ((HKd.out.below (Below.refl _ _).drew).below hb5)
       have HBS5 := Lib.hid ((HBSd.out.below (Below.refl _ _).drew).below hb5)
       have HB5 := Lib.hid (HB.out.drew.trans ((Below.trans (Below.refl wr.drew.heap.size wr.drew).drew hb5).mono HKd.out.bw))
       clear hb5
       refine hK.out _ _ hS (fun hHeld => ?_)
       clear hK K
       refine wpAnyH_ready (rs := [10]) (by kernel_rfl) (by simp) ?_
       refine AllReadyH.cons rfl (fun K hK => ?_) AllReadyH.nil
       (try simp only [gT, gS, gZ])
       go_simp
       go_at_call 86
       refine (put_room g 8 base _ _ _ q.bs _ _ HK5.out.wback HK5.out.bg h5).mono ?_
       rintro e w6 ⟨rfl, hp⟩
       obtain ⟨⟨vb6, hk6, hbs6⟩, hb6⟩ := turn_back_at HK5.out HBS5.out hp
       have hS := (show (w6.cell? ⟨g, 0, none⟩ = some (.int .i64 q.c.codec) ∧ w6.cell? ⟨g, 1, none⟩ = some (.int .i64 q.c.sum) ∧ w6.cell? ⟨g, 2, none⟩ = some (.int .i64 q.c.most) ∧ w6.cell? ⟨g, 3, none⟩ = some (.int .i64 q.c.map)) from ⟨hk6.bk.cell rfl, hk6.bk.cell rfl, hk6.bk.cell rfl, hk6.bk.cell rfl⟩)
       have HK6 := Lib.hid hk6
       have HBS6 := Lib.hid hbs6
       have HB6 := Lib.hid (HB5.out.trans hb6)
       clear hp hk6 hbs6 hb6
       refine hK.out _ _ hS (fun hHeld => ?_)
       clear hK K
       refine wpAnyH_done (by kernel_rfl) ?_ _
       go_wp2
       go_roundw
       case rel => exact ⟨k + 1, vb6, _, by omega, by go_num, by rw [HV.out]; exact HK6.out, HBS6.out, HB6.out⟩
       case measure => simp [intOf]; omega
      ·have HV := Lib.hid ((HTK.out.trans (congrArg (fun x => Ls.told x b) HK1'.out)).trans (Ls.told_no (s := q) h5))
       go_wp2_with fail
       have hS := (show (wr.drew.cell? ⟨g, 0, none⟩ = some (.int .i64 q.c.codec) ∧ wr.drew.cell? ⟨g, 1, none⟩ = some (.int .i64 q.c.sum) ∧ wr.drew.cell? ⟨g, 2, none⟩ = some (.int .i64 q.c.most) ∧ wr.drew.cell? ⟨g, 3, none⟩ = some (.int .i64 q.c.map)) from ⟨HKd.out.bk.cell rfl, HKd.out.bk.cell rfl, HKd.out.bk.cell rfl, HKd.out.bk.cell rfl⟩)
       refine wp_region_held_drew (S := (fun wx => wx.cell? ⟨g, 0, none⟩ = some (.int .i64 q.c.codec) ∧ wx.cell? ⟨g, 1, none⟩ = some (.int .i64 q.c.sum) ∧ wx.cell? ⟨g, 2, none⟩ = some (.int .i64 q.c.most) ∧ wx.cell? ⟨g, 3, none⟩ = some (.int .i64 q.c.map))) (by kernel_rfl) hS (fun hHeld => ?_)
       refine tkH 0 ?_ rfl (Or.inl ⟨by rfl, ?_⟩) ?_; rotate_left
       ·intro wq hSw; (try dsimp only at hSw); (try simp only [gT, gZ]); go_simp; (try with_reducible rfl)
       simp only [Act.put, gT, gZ, sT, sZ, sS]
       refine tkH 1 ?_ rfl (Or.inl ⟨by rfl, ?_⟩) ?_; rotate_left
       ·intro wq hSw; (try dsimp only at hSw); (try simp only [gT, gS, gZ]); go_simp; (try with_reducible rfl)
       simp only [Act.put, gT, gS, gZ, sT, sZ, sS]
       refine tkH 2 ?_ rfl (Or.inl ⟨by rfl, ?_⟩) ?_; rotate_left
       ·intro wq hSw; (try dsimp only at hSw); (try simp only [gT, gS, gZ]); go_simp; (try with_reducible rfl)
       simp only [Act.put, gT, gS, gZ, sT, sZ, sS]
       refine tkH 3 ?_ rfl (Or.inl ⟨by rfl, ?_⟩) ?_; rotate_left
       ·intro wq hSw; (try dsimp only at hSw); (try simp only [gT, gS, gZ]); go_simp; (try with_reducible rfl)
       simp only [Act.put, gT, gS, gZ, sT, sZ, sS]
       refine tkH 4 ?_ rfl (Or.inl ⟨by rfl, ?_⟩) ?_; rotate_left
       ·intro wq hSw; (try dsimp only at hSw); (try simp only [gT, gS, gZ]); go_simp; (try with_reducible rfl)
       simp only [Act.put, gT, gS, gZ, sT, sZ, sS]
       refine tkH 5 ?_ rfl (Or.inl ⟨by rfl, ?_⟩) ?_; rotate_left
       ·intro wq hSw; (try dsimp only at hSw); (try simp only [gT, gS, gZ]); go_simp; (try with_reducible rfl)
       simp only [Act.put, gT, gS, gZ, sT, sZ, sS]
       refine tkH 6 ?_ rfl (Or.inl ⟨by rfl, ?_⟩) ?_; rotate_left
       ·intro wq hSw; (try dsimp only at hSw); (try simp only [gT, gS, gZ]); go_simp; (try with_reducible rfl)
       simp only [Act.put, gT, gS, gZ, sT, sZ, sS]
       refine tkH 7 ?_ rfl (Or.inl ⟨by rfl, ?_⟩) ?_; rotate_left
       ·intro wq hSw; (try dsimp only at hSw); (try simp only [gT, gS, gZ]); go_simp; (try with_reducible rfl)
       simp only [Act.put, gT, gS, gZ, sT, sZ, sS]
       refine tkH 8 ?_ rfl (Or.inl ⟨by rfl, ?_⟩) ?_; rotate_left
       ·intro wq hSw; (try dsimp only at hSw); (try simp only [gT, gS, gZ]); go_simp; (try with_reducible rfl)
       simp only [Act.put, gT, gS, gZ, sT, sZ, sS]
       refine wpAnyH_ready (rs := [9]) (by kernel_rfl) (by simp) ?_
       refine AllReadyH.cons rfl (fun K hK => ?_) AllReadyH.nil
       (try simp only [gT, gS, gZ])
       go_simp
       go_at_call 87
       refine (HFS.out D _ (by unfold maxLen; omega)).mono ?_
       rintro e w5 ⟨rfl, hb5⟩
       rw [HDL.out]
       have hS := And.intro (cell_keep hb5 hS.1) (And.intro (cell_keep hb5 hS.2.1) (And.intro (cell_keep hb5 hS.2.2.1) (cell_keep hb5 hS.2.2.2)))
       have HK5 := Lib.hid ((HKd.out.below (Below.refl _ _).drew).below hb5)
       have HBS5 := Lib.hid ((HBSd.out.below (Below.refl _ _).drew).below hb5)
       have HB5 := Lib.hid (HB.out.drew.trans ((Below.trans (Below.refl wr.drew.heap.size wr.drew).drew hb5).mono HKd.out.bw))
       clear hb5
       refine hK.out _ _ hS (fun hHeld => ?_)
       clear hK K
       refine wpAnyH_ready (rs := [10]) (by kernel_rfl) (by simp) ?_
       refine AllReadyH.cons rfl (fun K hK => ?_) AllReadyH.nil
       (try simp only [gT, gS, gZ])
       go_simp
       go_at_call 86
       refine (put_full g 8 base _ _ _ q.bs _ _ HK5.out.wback (by omega) (by omega)).mono ?_
       rintro e w6 ⟨rfl, rfl⟩
       refine hK.out _ _ hS (fun hHeld => ?_)
       clear hK K
       refine wpAnyH_done (by kernel_rfl) ?_ _
       go_wp2
       go_roundw
       case rel => exact ⟨k + 1, _, _, by omega, by go_num, by rw [HV.out]; exact HK5.out, HBS5.out, HB5.out⟩
       case measure => simp [intOf]; omega
   ·have hke : k = fr.length := by omega
    have HV := Lib.hid (show s.there = (fr.take k).foldl Ls.takeP { s with ts := r, f := fd } by rw [HE.out, hke, List.take_length])
    clear hke
    go_wp2
    go_ret
    exact ⟨rfl, by rw [HV.out]; exact ⟨_, _, _, _, HK.out⟩, HB.out⟩
end Go.Proofs.YtmggoiabcboaiaaGreat
