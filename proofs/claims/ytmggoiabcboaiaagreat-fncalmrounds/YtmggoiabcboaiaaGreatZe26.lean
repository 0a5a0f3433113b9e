/- Parts of a proof, 26: LkQ. -/
import Derived.Test.YtmggoiabcboaiaaGreatZe1
import Derived.Test.YtmggoiabcboaiaaGreatZe2
import Derived.Test.YtmggoiabcboaiaaGreatZe3
import Derived.Test.YtmggoiabcboaiaaGreatZe4
import Derived.Test.YtmggoiabcboaiaaGreatZe5
import Derived.Test.YtmggoiabcboaiaaGreatZe6
import Derived.Test.YtmggoiabcboaiaaGreatZe7
import Derived.Test.YtmggoiabcboaiaaGreatZe8
import Derived.Test.YtmggoiabcboaiaaGreatZe9
import Derived.Test.YtmggoiabcboaiaaGreatZe10
import Derived.Test.YtmggoiabcboaiaaGreatZe11
import Derived.Test.YtmggoiabcboaiaaGreatZe12
import Derived.Test.YtmggoiabcboaiaaGreatZe13
import Derived.Test.YtmggoiabcboaiaaGreatZe14
import Derived.Test.YtmggoiabcboaiaaGreatZe15
import Derived.Test.YtmggoiabcboaiaaGreatZe16
import Derived.Test.YtmggoiabcboaiaaGreatZe17
import Derived.Test.YtmggoiabcboaiaaGreatZe18
import Derived.Test.YtmggoiabcboaiaaGreatZe19
import Derived.Test.YtmggoiabcboaiaaGreatZe20
import Derived.Test.YtmggoiabcboaiaaGreatZe21
import Derived.Test.YtmggoiabcboaiaaGreatZe23
import Derived.Test.YtmggoiabcboaiaaGreatZe24
import Derived.Test.YtmggoiabcboaiaaGreatZe25
namespace Go.Proofs.YtmggoiabcboaiaaGreat
open Go.ChangeShapes Go.WideShapes Go.ChangeAt Go.RowKit
set_option linter.unusedVariables false
set_option maxRecDepth 100000 in
set_option maxHeartbeats 2000000 in
theorem l8Here_anyB {base : Nat} (s : Ls) (hs : s.Ok) (vm vb vg vt : Value) (w : World) (h0 : OL w base vm s.ms vg s.gs vt s.ts vb s.bs) (hbs : base ≤ w.heap.size) :
  Calls Tryz.prog 54 #[lsV s vm vb vg vt] w (SPostB base w s.here) := by
 obtain ⟨i0, hi0, hz0, hz1, hz2⟩ := info_parts info_str
 have HI := Lib.hid hi0
 have HZ0 := Lib.hid hz0
 have HZ1 := Lib.hid hz1
 have HZ2 := Lib.hid hz2
 have h := h0.reads
 have hB : w.heap.size ≤ w.heap.size := Nat.le_refl _
 obtain ⟨am, cm, rfl⟩ := h.1.shape
 obtain ⟨ag, cg, rfl⟩ := h.2.1.shape
 obtain ⟨at_, ct, rfl⟩ := h.2.2.1.shape
 obtain ⟨ab, cb, rfl⟩ := h.2.2.2.shape
 have hzl := zero_line
 have hml := hs.ml
 have hnx := hs.nxl
 have htl := hs.tl
 have hgl := hs.gl
 have hbl := hs.bl
 have hcf := hs.conf
 have hmost := (confB_yes hs.conf).2.2.1
 have hk := (BK.new w #[.int .i64 s.c.codec, .int .i64 s.c.sum, .int .i64 s.c.most, .int .i64 s.c.map, .slice am s.ms.length cm, .int .i64 (s.nx : Int), .slice ag s.gs.length cg, .string (bzL s.f.held), .bool s.f.over, .string (bzL s.h.held), .bool s.h.over, .slice at_ s.ts.length ct, .slice ab s.bs.length cb] 32).alloc (.cells #[.int .i64 0, .int .i64 0, .int .i64 0, .int .i64 0, .slice none 0 0, .int .i64 0, .slice none 0 0, .string ⟨#[]⟩, .bool false, .string ⟨#[]⟩, .bool false, .slice none 0 0, .slice none 0 0] 32)
 have hq := BK.new (w.alloc (.cells #[.int .i64 s.c.codec, .int .i64 s.c.sum, .int .i64 s.c.most, .int .i64 s.c.map, .slice am s.ms.length cm, .int .i64 (s.nx : Int), .slice ag s.gs.length cg, .string (bzL s.f.held), .bool s.f.over, .string (bzL s.h.held), .bool s.h.over, .slice at_ s.ts.length ct, .slice ab s.bs.length cb] 32)) #[.int .i64 0, .int .i64 0, .int .i64 0, .int .i64 0, .slice none 0 0, .int .i64 0, .slice none 0 0, .string ⟨#[]⟩, .bool false, .string ⟨#[]⟩, .bool false, .slice none 0 0, .slice none 0 0] 32
 rw [World.size_alloc] at hq
 have hb := ((Below.refl w.heap.size w).alloc (Nat.le_refl _) (.cells #[.int .i64 s.c.codec, .int .i64 s.c.sum, .int .i64 s.c.most, .int .i64 s.c.map, .slice am s.ms.length cm, .int .i64 (s.nx : Int), .slice ag s.gs.length cg, .string (bzL s.f.held), .bool s.f.over, .string (bzL s.h.held), .bool s.h.over, .slice at_ s.ts.length ct, .slice ab s.bs.length cb] 32)).alloc (by simp) (.cells #[.int .i64 0, .int .i64 0, .int .i64 0, .int .i64 0, .slice none 0 0, .int .i64 0, .slice none 0 0, .string ⟨#[]⟩, .bool false, .string ⟨#[]⟩, .bool false, .slice none 0 0, .slice none 0 0] 32)
 have HR := Lib.hid ((h.mono hB).below hb)
 have HB := Lib.hid hb
 have HQ := Lib.hid hq
 have HK := Lib.hid hk
 have HH := Lib.hid h
 obtain ⟨w0, hw0⟩ : ∃ w0, w0 = (w.alloc (.cells #[.int .i64 s.c.codec, .int .i64 s.c.sum, .int .i64 s.c.most, .int .i64 s.c.map, .slice am s.ms.length cm, .int .i64 (s.nx : Int), .slice ag s.gs.length cg, .string (bzL s.f.held), .bool s.f.over, .string (bzL s.h.held), .bool s.h.over, .slice at_ s.ts.length ct, .slice ab s.bs.length cb] 32)).alloc (.cells #[.int .i64 0, .int .i64 0, .int .i64 0, .int .i64 0, .slice none 0 0, .int .i64 0, .slice none 0 0, .string ⟨#[]⟩, .bool false, .string ⟨#[]⟩, .bool false, .slice none 0 0, .slice none 0 0] 32) := ⟨_, rfl⟩
 rw [← hw0] at HR HB HQ HK
 have HW := Lib.hid hw0
 have HOm := Lib.hid (h0.1.below HB.out)
 have HOg := Lib.hid (h0.2.1.below HB.out)
 have HOt := Lib.hid (h0.2.2.1.below HB.out)
 have HOb := Lib.hid (h0.2.2.2.below HB.out)
 have HLm := Lib.hid (fun k hk => (h0.1.low k hk).2)
 have HLg := Lib.hid (fun k hk => (h0.2.1.low k hk).2)
 have HLt := Lib.hid (fun k hk => (h0.2.2.1.low k hk).2)
 have HLb := Lib.hid (fun k hk => (h0.2.2.2.low k hk).2)
 have HH0 := Lib.hid h0
 have hk0 := HK.out
 have hq0 := HQ.out
 rw [hw0] at hk0 hq0
 obtain ⟨c0, c1, c2, c3, c4, c5, c6, c7, c8, c9, c10, c11, c12⟩ := cells13 hk0
 obtain ⟨z0, z1, z2, z3, z4, z5, z6, z7, z8, z9, z10, z11, z12⟩ := cells13 hq0
 obtain ⟨f0, f1, f2, f3, f4, f5, f6, f7, f8, f9, f10, f11, f12⟩ := free13 hq0
 have hN : w.heap.size + 2 = w0.heap.size := by rw [hw0]; simp
 have HSOK := Lib.hid hs
 clear h h0 hk hq hb hk0 hq0 hi0 hz0 hz1 hz2 hw0 hs
 rcases (show s.bs = [] ∨ ∃ t r, s.bs = t :: r by cases h : s.bs with | nil => exact .inl rfl | cons t r => exact .inr ⟨t, r, rfl⟩) with ht | ⟨t, r, ht⟩
 ·skip
  have hqF := BK.new (w.alloc (.cells #[.int .i64 s.c.codec, .int .i64 s.c.sum, .int .i64 s.c.most, .int .i64 s.c.map, .slice am s.ms.length cm, .int .i64 (s.nx : Int), .slice ag s.gs.length cg, .string (bzL s.f.held), .bool s.f.over, .string (bzL s.h.held), .bool s.h.over, .slice at_ s.ts.length ct, .slice ab s.bs.length cb] 32)) #[.int .i64 s.c.codec, .int .i64 s.c.sum, .int .i64 s.c.most, .int .i64 s.c.map, .slice am s.ms.length cm, .int .i64 (s.nx : Int), .slice ag s.gs.length cg, .string (bzL s.f.held), .bool s.f.over, .string (bzL s.h.held), .bool s.h.over, .slice at_ s.ts.length ct, .slice ab s.bs.length cb] 32
  rw [World.size_alloc] at hqF
  have hbF := ((Below.refl w.heap.size w).alloc (Nat.le_refl _) (.cells #[.int .i64 s.c.codec, .int .i64 s.c.sum, .int .i64 s.c.most, .int .i64 s.c.map, .slice am s.ms.length cm, .int .i64 (s.nx : Int), .slice ag s.gs.length cg, .string (bzL s.f.held), .bool s.f.over, .string (bzL s.h.held), .bool s.h.over, .slice at_ s.ts.length ct, .slice ab s.bs.length cb] 32)).alloc (by simp) (.cells #[.int .i64 s.c.codec, .int .i64 s.c.sum, .int .i64 s.c.most, .int .i64 s.c.map, .slice am s.ms.length cm, .int .i64 (s.nx : Int), .slice ag s.gs.length cg, .string (bzL s.f.held), .bool s.f.over, .string (bzL s.h.held), .bool s.h.over, .slice at_ s.ts.length ct, .slice ab s.bs.length cb] 32)
  have HRF := Lib.hid (HH0.out.below hbF)
  have HQF := Lib.hid hqF
  have HBF := Lib.hid hbF
  clear hqF hbF
  have HE := Lib.hid (show s.here = s by unfold Ls.here; rw [ht])
  have hl0 : s.bs.length = 0 := by rw [ht]; rfl
  rw [hl0] at HQF HRF HBF
  clear ht
  go_enter Tryz.func54, Tryz.ntmps54
  go_wp2
  rw [HE.out]
  exact line_ret2 Tryz.results54 HQF.out rfl rfl rfl ⟨_, _, _, _, _, rfl, HRF.out, HBF.out⟩
 ·have HE := Lib.hid (Ls.here_cons ht)
  have HL1 := Lib.hid (show s.bs.length = r.length + 1 by rw [ht]; rfl)
  have hpos : 0 < s.bs.length := by rw [HL1.out]; omega
  have hl1 : ((s.bs.length : Int) == 0) = false := beq_eq_false_iff_ne.2 (by omega)
  have htz := HSOK.out.bz t (by rw [ht]; simp)
  have HFR := Lib.hid (fun u => l7Feed_any s.c.codec s.c.sum s.c.most s.c.map (bzL s.h.held) s.h.over t u HSOK.out.okh htz)
  rw [show ffeed ⟨s.c.codec, s.c.sum, s.c.most, s.c.map⟩ ⟨(bzL s.h.held).data.toList, s.h.over⟩ t.data.toList = ffeed s.c s.h t.data.toList from rfl] at HFR
  have hfl := ffeed_len s.c t.data.toList s.h
  rw [size_list] at hfl
  have HFG := Lib.hid (wFfeed_good hcf t.data.toList s.h)
  have HOK := Lib.hid (show ({ s with bs := r, h := (ffeed s.c s.h t.data.toList).1 } : Ls).Ok from { HSOK.out with okh := ffeed_ok _ HSOK.out.okh, bl := by show r.length ≤ 5; have := HL1.out; omega, bz := fun x hx => HSOK.out.bz x (by rw [ht]; simp [hx]) })
  have HTT := Lib.hid ht
  clear ht
  generalize ffeed s.c s.h t.data.toList = p at *
  obtain ⟨fd, evs⟩ := p
  simp only at hfl HFG HOK HE
  unfold FeedPost at HFR
  simp only at HFR
  go_enter Tryz.func54, Tryz.ntmps54
  go_wp2_with fail
  rw [← HW.out]
  obtain ⟨gt, cb2, e, _, hgt⟩ := HOb.out.pos hpos
  injection e with e1 _ e2
  subst e1 e2
  have d0 := HOb.out.cellAt (k := 0) hpos
  have ht0 : s.bs[0]'hpos = t := by simp [HTT.out]
  rw [ht0] at d0
  clear ht0
  have hxt : gt < w.heap.size := HLb.out gt rfl
  have hMS : ∀ wx : World, Mid w0 wx w.heap.size #[.int .i64 s.c.codec, .int .i64 s.c.sum, .int .i64 s.c.most, .int .i64 s.c.map, .slice am s.ms.length cm, .int .i64 (s.nx : Int), .slice ag s.gs.length cg, .string (bzL s.f.held), .bool s.f.over, .string (bzL s.h.held), .bool s.h.over, .slice at_ s.ts.length ct, .slice (some ⟨gt, 0, none⟩) s.bs.length cb] #[.int .i64 0, .int .i64 0, .int .i64 0, .int .i64 0, .slice none 0 0, .int .i64 0, .slice none 0 0, .string ⟨#[]⟩, .bool false, .string ⟨#[]⟩, .bool false, .slice none 0 0, .slice none 0 0] → (wx.cell? ⟨w.heap.size, 0, none⟩ = some (.int .i64 s.c.codec) ∧ wx.cell? ⟨w.heap.size, 1, none⟩ = some (.int .i64 s.c.sum) ∧ wx.cell? ⟨w.heap.size, 2, none⟩ = some (.int .i64 s.c.most) ∧ wx.cell? ⟨w.heap.size, 3, none⟩ = some (.int .i64 s.c.map) ∧ wx.cell? ⟨w.heap.size, 4, none⟩ = some (.slice am s.ms.length cm) ∧ wx.cell? ⟨w.heap.size, 5, none⟩ = some (.int .i64 (s.nx : Int)) ∧ wx.cell? ⟨w.heap.size, 6, none⟩ = some (.slice ag s.gs.length cg) ∧ wx.cell? ⟨w.heap.size, 7, none⟩ = some (.string (bzL s.f.held)) ∧ wx.cell? ⟨w.heap.size, 8, none⟩ = some (.bool s.f.over) ∧ wx.cell? ⟨w.heap.size, 9, none⟩ = some (.string (bzL s.h.held)) ∧ wx.cell? ⟨w.heap.size, 10, none⟩ = some (.bool s.h.over) ∧ wx.cell? ⟨w.heap.size, 11, none⟩ = some (.slice at_ s.ts.length ct) ∧ wx.cell? ⟨w.heap.size, 12, none⟩ = some (.slice (some ⟨gt, 0, none⟩) s.bs.length cb)) ∧ wx.cell? ⟨gt, 0, none⟩ = some (.string t) := fun wx h => ⟨⟨h.bk.cell rfl, h.bk.cell rfl, h.bk.cell rfl, h.bk.cell rfl, h.bk.cell rfl, h.bk.cell rfl, h.bk.cell rfl, h.bk.cell rfl, h.bk.cell rfl, h.bk.cell rfl, h.bk.cell rfl, h.bk.cell rfl, h.bk.cell rfl⟩, (h.bl.cell hxt).trans d0⟩
  have HMS := Lib.hid hMS
  have HD0 := Lib.hid d0
  clear c0 c1 c2 c3 c4 c5 c6 c7 c8 c9 c10 c11 c12 z0 z1 z2 z3 z4 z5 z6 z7 z8 z9 z10 z11 z12 f0 f1 f2 f3 f4 f5 f6 f7 f8 f9 f10 f11 f12 hMS d0
  go_cut [4, 5] (fun s4 s5 wx => ∃ gq, s4 = .pointer (some ⟨gq, 0, none⟩) ∧ XAt w0.drew wx gq (bzL fd.held) fd.over s5 evs)
  case first =>
   have hM : Mid w0 w0.drew w.heap.size #[.int .i64 s.c.codec, .int .i64 s.c.sum, .int .i64 s.c.most, .int .i64 s.c.map, .slice am s.ms.length cm, .int .i64 (s.nx : Int), .slice ag s.gs.length cg, .string (bzL s.f.held), .bool s.f.over, .string (bzL s.h.held), .bool s.h.over, .slice at_ s.ts.length ct, .slice (some ⟨gt, 0, none⟩) s.bs.length cb] #[.int .i64 0, .int .i64 0, .int .i64 0, .int .i64 0, .slice none 0 0, .int .i64 0, .slice none 0 0, .string ⟨#[]⟩, .bool false, .string ⟨#[]⟩, .bool false, .slice none 0 0, .slice none 0 0] := ⟨HK.out, HQ.out, (Below.refl _ _).drew⟩
   have hS := HMS.out _ hM
   have hfz := zero_find
   refine wp_region_held_drew (S := (fun wx => (wx.cell? ⟨w.heap.size, 0, none⟩ = some (.int .i64 s.c.codec) ∧ wx.cell? ⟨w.heap.size, 1, none⟩ = some (.int .i64 s.c.sum) ∧ wx.cell? ⟨w.heap.size, 2, none⟩ = some (.int .i64 s.c.most) ∧ wx.cell? ⟨w.heap.size, 3, none⟩ = some (.int .i64 s.c.map) ∧ wx.cell? ⟨w.heap.size, 4, none⟩ = some (.slice am s.ms.length cm) ∧ wx.cell? ⟨w.heap.size, 5, none⟩ = some (.int .i64 (s.nx : Int)) ∧ wx.cell? ⟨w.heap.size, 6, none⟩ = some (.slice ag s.gs.length cg) ∧ wx.cell? ⟨w.heap.size, 7, none⟩ = some (.string (bzL s.f.held)) ∧ wx.cell? ⟨w.heap.size, 8, none⟩ = some (.bool s.f.over) ∧ wx.cell? ⟨w.heap.size, 9, none⟩ = some (.string (bzL s.h.held)) ∧ wx.cell? ⟨w.heap.size, 10, none⟩ = some (.bool s.h.over) ∧ wx.cell? ⟨w.heap.size, 11, none⟩ = some (.slice at_ s.ts.length ct) ∧ wx.cell? ⟨w.heap.size, 12, none⟩ = some (.slice (some ⟨gt, 0, none⟩) s.bs.length cb)) ∧ wx.cell? ⟨gt, 0, none⟩ = some (.string t))) (by kernel_rfl) hS (fun hHeld => ?_)
   obtain ⟨wd, hwd⟩ : ∃ wd, wd = w0.drew := ⟨_, rfl⟩
   rw [← hwd] at hM hS ⊢
   have HWD := Lib.hid hwd
   clear hwd
   refine tkH 0 ?_ rfl (Or.inl ⟨by rfl, ?_⟩) ?_; rotate_left
   ·intro wq hSw; (try dsimp only at hSw); (try simp only [gT, gZ]); go_simp; (try with_reducible rfl)
   simp only [Act.put, gT, gZ, sT, sZ, sS]
   refine tkH 1 ?_ rfl (Or.inl ⟨by rfl, ?_⟩) ?_; rotate_left
   ·intro wq hSw; (try dsimp only at hSw); (try simp only [gT, gS, gZ]); go_simp; (try with_reducible rfl)
   simp only [Act.put, gT, gS, gZ, sT, sZ, sS]
   refine tkH 2 ?_ rfl (Or.inl ⟨by rfl, ?_⟩) ?_; rotate_left
   ·intro wq hSw; (try dsimp only at hSw); (try simp only [gT, gS, gZ]); go_simp; (try with_reducible rfl)
   simp only [Act.put, gT, gS, gZ, sT, sZ, sS]
   refine tkH 3 ?_ rfl (Or.inl ⟨by rfl, ?_⟩) ?_; rotate_left
   ·intro wq hSw; (try dsimp only at hSw); (try simp only [gT, gS, gZ]); go_simp; (try with_reducible rfl)
   simp only [Act.put, gT, gS, gZ, sT, sZ, sS]
   refine tkH 4 ?_ rfl (Or.inl ⟨by rfl, ?_⟩) ?_; rotate_left
   ·intro wq hSw; (try dsimp only at hSw); (try simp only [gT, gS, gZ]); go_simp; (try with_reducible rfl)
   simp only [Act.put, gT, gS, gZ, sT, sZ, sS]
   refine tkH 5 ?_ rfl (Or.inl ⟨by rfl, ?_⟩) ?_; rotate_left
   ·intro wq hSw; (try dsimp only at hSw); (try simp only [gT, gS, gZ]); go_simp; (try with_reducible rfl)
   simp only [Act.put, gT, gS, gZ, sT, sZ, sS]
   refine tkH 6 ?_ rfl (Or.inl ⟨by rfl, ?_⟩) ?_; rotate_left
   ·intro wq hSw; (try dsimp only at hSw); (try simp only [gT, gS, gZ]); go_simp; (try with_reducible rfl)
   simp only [Act.put, gT, gS, gZ, sT, sZ, sS]
   refine tkH 7 ?_ rfl (Or.inl ⟨by rfl, ?_⟩) ?_; rotate_left
   ·intro wq hSw; (try dsimp only at hSw); (try simp only [gT, gS, gZ]); go_simp; (try with_reducible rfl)
   simp only [Act.put, gT, gS, gZ, sT, sZ, sS]
   have hMa := hM.below ((Below.refl _ _).alloc (Nat.le_refl _) (.cells #[.string ⟨#[]⟩, .bool false] 30))
   have hSa := HMS.out _ hMa
   refine wpAnyH_ready (rs := [8, 12]) (by kernel_rfl) (by simp) ?_
   refine AllReadyH.cons rfl ?_ (AllReadyH.cons rfl ?_ AllReadyH.nil)
   ·intro K hK
    (try simp only [gT, gS, gZ])
    go_simp
    go_at_call 81
    refine (HFR.out _).mono ?_
    rintro e w4 ⟨ve, rfl, hoe, hb4⟩
    have hM4 := hM.below hb4
    have hS := HMS.out _ hM4
    refine hK.out _ _ hS (fun hHeld => ?_)
    clear hK K
    refine tkH 9 ?_ rfl (Or.inl ⟨by rfl, ?_⟩) ?_; rotate_left
    ·intro wq hSw; (try dsimp only at hSw); (try simp only [gT, gS, gZ]); go_simp; (try with_reducible rfl)
    simp only [Act.put, gT, gS, gZ, sT, sZ, sS]
    refine tkH 10 ?_ rfl (Or.inl ⟨by rfl, ?_⟩) ?_; rotate_left
    ·intro wq hSw; (try dsimp only at hSw); (try simp only [gT, gS, gZ]); go_simp; (try with_reducible rfl)
    simp only [Act.put, gT, gS, gZ, sT, sZ, sS]
    refine tkH 11 ?_ rfl (Or.inl ⟨by rfl, ?_⟩) ?_; rotate_left
    ·intro wq hSw; (try dsimp only at hSw); (try simp only [gT, gS, gZ]); go_simp; (try with_reducible rfl)
    simp only [Act.put, gT, gS, gZ, sT, sZ, sS]
    have hM5 := hM4.below ((Below.refl _ _).alloc (Nat.le_refl _) (.cells #[.string ⟨#[]⟩, .bool false] 30))
    have hS := HMS.out _ hM5
    refine wpAnyH_ready (rs := [12]) (by kernel_rfl) (by simp) ?_
    refine AllReadyH.cons rfl (fun K hK => ?_) AllReadyH.nil
    (try simp only [gT, gS, gZ])
    skip
    go_simp
    skip
    refine hK.out _ _ hS (fun hHeld => ?_)
    clear hK K
    have hM6 := hM4.below ((Below.refl _ _).alloc (Nat.le_refl _) (.cells #[.string (bzL fd.held), .bool fd.over] 30))
    have hS := HMS.out _ hM6
    have hXA := x_last hb4 hoe.reads (bzL fd.held) fd.over
    refine wpAnyH_ready (rs := [13]) (by kernel_rfl) (by simp) ?_
    refine AllReadyH.cons rfl (fun K hK => ?_) AllReadyH.nil
    (try simp only [gT, gS, gZ])
    skip
    go_simp
    skip
    refine hK.out _ _ hS (fun hHeld => ?_)
    clear hK K
    refine tkH 14 ?_ rfl (Or.inl ⟨by rfl, ?_⟩) ?_; rotate_left
    ·intro wq hSw; (try dsimp only at hSw); (try simp only [gT, gS, gZ]); go_simp; (try with_reducible rfl)
    simp only [Act.put, gT, gS, gZ, sT, sZ, sS]
    refine wpAnyH_done (by kernel_rfl) ?_ _
    go_wp2
    go_meet
    exact ⟨_, rfl, by rw [← HWD.out]; exact hXA⟩
   ·intro K hK
    (try simp only [gT, gS, gZ])
    go_simp
    refine hK.out _ _ hSa (fun hHeld => ?_)
    clear hK K
    have hS := hSa
    refine wpAnyH_ready (rs := [8]) (by kernel_rfl) (by simp) ?_
    refine AllReadyH.cons rfl (fun K hK => ?_) AllReadyH.nil
    (try simp only [gT, gS, gZ])
    go_simp
    go_at_call 81
    refine (HFR.out _).mono ?_
    rintro e w4 ⟨ve, rfl, hoe, hb4⟩
    have hM4 := hMa.below hb4
    have hS := HMS.out _ hM4
    refine hK.out _ _ hS (fun hHeld => ?_)
    clear hK K
    refine tkH 9 ?_ rfl (Or.inl ⟨by rfl, ?_⟩) ?_; rotate_left
    ·intro wq hSw; (try dsimp only at hSw); (try simp only [gT, gS, gZ]); go_simp; (try with_reducible rfl)
    simp only [Act.put, gT, gS, gZ, sT, sZ, sS]
    refine tkH 10 ?_ rfl (Or.inl ⟨by rfl, ?_⟩) ?_; rotate_left
    ·intro wq hSw; (try dsimp only at hSw); (try simp only [gT, gS, gZ]); go_simp; (try with_reducible rfl)
    simp only [Act.put, gT, gS, gZ, sT, sZ, sS]
    refine tkH 11 ?_ rfl (Or.inl ⟨by rfl, ?_⟩) ?_; rotate_left
    ·intro wq hSw; (try dsimp only at hSw); (try simp only [gT, gS, gZ]); go_simp; (try with_reducible rfl)
    simp only [Act.put, gT, gS, gZ, sT, sZ, sS]
    have hkq := (BK.new wd #[.string ⟨#[]⟩, .bool false] 30).from hb4
    obtain ⟨q0, q1⟩ : _ ∧ _ := ⟨hkq.cell (i := 0) rfl, hkq.cell (i := 1) rfl⟩
    have qf0 := hkq.free 0
    have qf1 := hkq.free 1
    have hXA := x_ahead hb4 hoe.reads (bzL fd.held) fd.over
    have hM6 := hM.below hXA.2.2.2
    have hS := HMS.out _ hM6
    refine wpAnyH_ready (rs := [13]) (by kernel_rfl) (by simp) ?_
    refine AllReadyH.cons rfl (fun K hK => ?_) AllReadyH.nil
    (try simp only [gT, gS, gZ])
    skip
    go_simp
    skip
    refine hK.out _ _ hS (fun hHeld => ?_)
    clear hK K
    refine tkH 14 ?_ rfl (Or.inl ⟨by rfl, ?_⟩) ?_; rotate_left
    ·intro wq hSw; (try dsimp only at hSw); (try simp only [gT, gS, gZ]); go_simp; (try with_reducible rfl)
    simp only [Act.put, gT, gS, gZ, sT, sZ, sS]
    refine wpAnyH_done (by kernel_rfl) ?_ _
    go_wp2
    go_meet
    exact ⟨_, rfl, by rw [← HWD.out]; exact hXA⟩
  case rest =>
   obtain ⟨gq, rfl, hbk, hgg, hre, hbl⟩ := hcut
   have hMc : Mid w0 wc w.heap.size #[.int .i64 s.c.codec, .int .i64 s.c.sum, .int .i64 s.c.most, .int .i64 s.c.map, .slice am s.ms.length cm, .int .i64 (s.nx : Int), .slice ag s.gs.length cg, .string (bzL s.f.held), .bool s.f.over, .string (bzL s.h.held), .bool s.h.over, .slice at_ s.ts.length ct, .slice (some ⟨gt, 0, none⟩) s.bs.length cb] #[.int .i64 0, .int .i64 0, .int .i64 0, .int .i64 0, .slice none 0 0, .int .i64 0, .slice none 0 0, .string ⟨#[]⟩, .bool false, .string ⟨#[]⟩, .bool false, .slice none 0 0, .slice none 0 0] := (⟨HK.out, HQ.out, (Below.refl _ _).drew⟩ : Mid w0 w0.drew w.heap.size _ _).below hbl
   have hOtc := OS.under HOb.out HLb.out hMc.bl
   obtain ⟨A5, C5, rfl⟩ := hre.shape
   obtain ⟨A27, C27, hsl, hrr⟩ := tail_slice hOtc HTT.out
   have hNc : w.heap.size + 2 ≤ wc.heap.size := by rw [hN]; exact hMc.bl.size
   have hgq2 : w.heap.size + 2 ≤ gq := by rw [hN]; exact hgg
   have HM1 := Lib.hid (hMc.below ((Below.refl _ _).alloc (Nat.le_refl _) (.cells #[] 9)))
   have HBK1 := Lib.hid (hbk.alloc (.cells #[] 9))
   have HRE1 := Lib.hid (hre.below ((Below.refl _ _).alloc (Nat.le_refl _) (.cells #[] 9)))
   have hgqc : gq < wc.heap.size := hbk.lt
   have hO24 : OS (wc.alloc (.cells #[] 9)) wc.heap.size (.slice (some ⟨wc.heap.size, 0, none⟩) 0 0) [] := OS_made wc rfl (Nat.le_refl _)
   have HO24 := Lib.hid hO24
   have HRR := Lib.hid (hrr.below ((Below.refl _ _).alloc (Nat.le_refl _) (.cells #[] 9)))
   have k11 : (wc.alloc (.cells #[] 9)).cell? ⟨w.heap.size, 12, none⟩ = some (.slice (some ⟨gt, 0, none⟩) s.bs.length cb) := HM1.out.bk.cell rfl
   have kq11 : wc.cell? ⟨w.heap.size, 12, none⟩ = some (.slice (some ⟨gt, 0, none⟩) s.bs.length cb) := hMc.bk.cell rfl
   clear hbk hgg hre hbl hMc hOtc hO24 hrr
   have htl5 : r.length ≤ 5 := HOK.out.bl
   go_wp2_with (at_builtin; refine wpList_append_os _ rfl _ _ 25 rfl wc.heap.size i0 Tryz.underlying25 HI.out HZ0.out HZ1.out HZ2.out _ [] rfl HO24.out _ _ r rfl HRR.out (by simp; omega) (by simp) ?_; intro v28 w5 hown hg5 hat5; rw [List.nil_append] at hown; obtain ⟨A28, C28, hsh⟩ := hown.reads.shape; subst hsh; have hM5 := HM1.out.grown (HO24.out.mono (by omega)) hg5; have hbk5 := HBK1.out.os (by decide) HO24.out hg5; have hb5 := (Below.refl wc.heap.size _).grown hg5 (by simp) (fun k hk => (HO24.out.low k hk).1); have hgc : wc.heap.size ≤ w5.heap.size := Nat.le_trans (by simp) hg5.size; have hre5 := HRE1.out.below hb5; have HM5 := Lib.hid hM5; have HO28 := Lib.hid (hown.mono (base' := base) (by omega)); have HRE5 := Lib.hid hre5; have HBK5 := Lib.hid hbk5; have k11b : w5.cell? ⟨w.heap.size, 12, none⟩ = some (.slice (some ⟨gt, 0, none⟩) s.bs.length cb) := hM5.bk.cell rfl; have f11b := hM5.bk.free 12; have hM5a := hM5.set (i := 12) (.slice A28 r.length C28); have k7 : (w5.setCell ⟨w.heap.size, 12, none⟩ (.slice A28 r.length C28)).cell? ⟨w.heap.size, 9, none⟩ = some (.string (bzL s.h.held)) := hM5a.bk.cell rfl; have k8 : (w5.setCell ⟨w.heap.size, 12, none⟩ (.slice A28 r.length C28)).cell? ⟨w.heap.size, 10, none⟩ = some (.bool s.h.over) := hM5a.bk.cell rfl; have f7 := hM5a.bk.free 9; have f8 := hM5a.bk.free 10; have hbk5a := hbk5.far (j := w.heap.size) (o := 12) (by omega) (.slice A28 r.length C28); have q0 := hbk5a.cell (i := 0) rfl; have q1 := hbk5a.cell (i := 1) rfl; clear hM5 hown hg5 hat5 hbk5 hb5 hre5 hM5a hbk5a k11 kq11)
   have hM6 : Mid w0 (((w5.setCell ⟨w.heap.size, 12, none⟩ (.slice A28 r.length C28)).setCell ⟨w.heap.size, 9, none⟩ (.string (bzL fd.held))).setCell ⟨w.heap.size, 10, none⟩ (.bool fd.over)) w.heap.size (lsC { s with bs := r, h := fd } (.slice am s.ms.length cm) (.slice A28 r.length C28) (.slice ag s.gs.length cg) (.slice at_ s.ts.length ct)) #[.int .i64 0, .int .i64 0, .int .i64 0, .int .i64 0, .slice none 0 0, .int .i64 0, .slice none 0 0, .string ⟨#[]⟩, .bool false, .string ⟨#[]⟩, .bool false, .slice none 0 0, .slice none 0 0] := ((HM5.out.set (i := 12) (.slice A28 r.length C28)).set (i := 9) (.string (bzL fd.held))).set (i := 10) (.bool fd.over)
   have hL6 : OL (((w5.setCell ⟨w.heap.size, 12, none⟩ (.slice A28 r.length C28)).setCell ⟨w.heap.size, 9, none⟩ (.string (bzL fd.held))).setCell ⟨w.heap.size, 10, none⟩ (.bool fd.over)) base (.slice am s.ms.length cm) s.ms (.slice ag s.gs.length cg) s.gs (.slice at_ s.ts.length ct) s.ts (.slice A28 r.length C28) r := ⟨os_set (os_set (os_set (OS.under HOm.out HLm.out HM5.out.bl) (own_ne HM5.out.bk line_str (OS.under HOm.out HLm.out HM5.out.bl)) (i := 12) (.slice A28 r.length C28)) (own_ne HM5.out.bk line_str (OS.under HOm.out HLm.out HM5.out.bl)) (i := 9) (.string (bzL fd.held))) (own_ne HM5.out.bk line_str (OS.under HOm.out HLm.out HM5.out.bl)) (i := 10) (.bool fd.over), os_set (os_set (os_set (OS.under HOg.out HLg.out HM5.out.bl) (own_ne HM5.out.bk line_str (OS.under HOg.out HLg.out HM5.out.bl)) (i := 12) (.slice A28 r.length C28)) (own_ne HM5.out.bk line_str (OS.under HOg.out HLg.out HM5.out.bl)) (i := 9) (.string (bzL fd.held))) (own_ne HM5.out.bk line_str (OS.under HOg.out HLg.out HM5.out.bl)) (i := 10) (.bool fd.over), os_set (os_set (os_set (OS.under HOt.out HLt.out HM5.out.bl) (own_ne HM5.out.bk line_str (OS.under HOt.out HLt.out HM5.out.bl)) (i := 12) (.slice A28 r.length C28)) (own_ne HM5.out.bk line_str (OS.under HOt.out HLt.out HM5.out.bl)) (i := 9) (.string (bzL fd.held))) (own_ne HM5.out.bk line_str (OS.under HOt.out HLt.out HM5.out.bl)) (i := 10) (.bool fd.over), os_set (os_set (os_set (HO28.out) (own_ne HM5.out.bk line_str (HO28.out)) (i := 12) (.slice A28 r.length C28)) (own_ne HM5.out.bk line_str (HO28.out)) (i := 9) (.string (bzL fd.held))) (own_ne HM5.out.bk line_str (HO28.out)) (i := 10) (.bool fd.over)⟩
   have hR6 := ((HRE5.out.setCell (p := ⟨w.heap.size, 12, none⟩) (by simp; omega) (.slice A28 r.length C28)).setCell (p := ⟨w.heap.size, 9, none⟩) (by simp; omega) (.string (bzL fd.held))).setCell (p := ⟨w.heap.size, 10, none⟩) (by simp; omega) (.bool fd.over)
   have HM6 := Lib.hid hM6
   have HL6 := Lib.hid hL6
   have HR6 := Lib.hid hR6
   clear hM6 hL6 hR6 k11b f11b k7 k8 f7 f8 q0 q1
   go_loopw [6] (fun i wr => ∃ (k : Nat) (um ub ug ut : Value), k ≤ evs.length ∧ i = .int .i64 (k : Int) ∧ Mid w0 wr w.heap.size (lsC ((framesL (evs.take k)).foldl Ls.confP { s with bs := r, h := fd }) um ub ug ut) #[.int .i64 0, .int .i64 0, .int .i64 0, .int .i64 0, .slice none 0 0, .int .i64 0, .slice none 0 0, .string ⟨#[]⟩, .bool false, .string ⟨#[]⟩, .bool false, .slice none 0 0, .slice none 0 0] ∧ OL wr base um ((framesL (evs.take k)).foldl Ls.confP { s with bs := r, h := fd }).ms ug ((framesL (evs.take k)).foldl Ls.confP { s with bs := r, h := fd }).gs ut ((framesL (evs.take k)).foldl Ls.confP { s with bs := r, h := fd }).ts ub ((framesL (evs.take k)).foldl Ls.confP { s with bs := r, h := fd }).bs ∧ RE wr w0.drew.heap.size wc.heap.size (.slice A5 evs.length C5) evs ∧ wc.heap.size ≤ wr.heap.size) (fun i _ => evs.length - (intOf i).toNat)
   case atStart => exact ⟨0, _, _, _, _, Nat.zero_le _, rfl, HM6.out, HL6.out, HR6.out, by simpa using hgc⟩
   case round =>
    obtain ⟨k, um, ub, ug, ut, hk, rfl, hm, hol, hre, hgrow⟩ := hrel
    have HMk := Lib.hid hm
    have HLk := Lib.hid hol
    have HRk := Lib.hid hre
    clear hm hol hre HM6 HL6 HR6
    have hevl : evs.length ≤ 1048576 := by omega
    by_cases hlt : k < evs.length
    ·have HFS := Lib.hid (show framesL (evs.take (k + 1)) = framesL (evs.take k) ++ if evs[k].kind = 1 then [⟨evs[k].text.toArray⟩] else [] by rw [List.take_succ_eq_append_getElem hlt, framesL_snoc])
     have hqo := HOK.out.confs (framesL (evs.take k))
     obtain ⟨ge, hge, hge2, hge3, e0, e1⟩ := HRk.out.at_ hlt
     subst hge
     have HE1 := Lib.hid e1
     obtain ⟨q, hq⟩ : ∃ q, q = (framesL (evs.take k)).foldl Ls.confP { s with bs := r, h := fd } := ⟨_, rfl⟩
     have HQD := Lib.hid hq
     rw [← hq] at HMk HLk hqo
     clear hq
     obtain ⟨am2, cm2, rfl⟩ := HLk.out.1.reads.shape
     have y5 : wr.cell? ⟨w.heap.size, 5, none⟩ = some (.int .i64 (q.nx : Int)) := HMk.out.bk.cell rfl
     have y4 : wr.cell? ⟨w.heap.size, 4, none⟩ = some (.slice am2 q.ms.length cm2) := HMk.out.bk.cell rfl
     obtain ⟨kd, hkd⟩ : ∃ kd, kd = evs[k].kind := ⟨_, rfl⟩
     obtain ⟨F, hF⟩ : ∃ F : ByteArray, F = ⟨evs[k].text.toArray⟩ := ⟨_, rfl⟩
     have HST0 := Lib.hid (show (framesL (evs.take (k + 1))).foldl Ls.confP { s with bs := r, h := fd } = if kd = 1 then q.confP F else q by
      rw [HFS.out, hkd, hF]
      by_cases h1 : evs[k].kind = 1
      ·rw [if_pos h1, if_pos h1, List.foldl_append, ← HQD.out]; rfl
      ·rw [if_neg h1, if_neg h1, List.append_nil, ← HQD.out])
     rw [← hF] at e1
     rw [← hkd] at e0
     obtain ⟨D, hD⟩ : ∃ D : ByteArray, D = ⟨#[parB q.nx]⟩ := ⟨_, rfl⟩
     have HBD := Lib.hid hD
     have hmlq := hqo.ml
     have hnxq := hqo.nxl
     have HQE := Lib.hid (show (F.toList == D.toList) = decide (F = D) by
      by_cases h : F = D
      ·rw [h]; simp
      ·rw [decide_eq_false h]
       refine beq_eq_false_iff_ne.2 (fun e => h ?_)
       rw [Lib.toList_data, Lib.toList_data] at e
       rw [← Lib.mk_data F, e, Lib.mk_data])
     clear hF hkd hD hqo HFS HE1
     by_cases hk1 : kd = 1
     ·subst hk1
      have HST1 := Lib.hid (HST0.out.trans (if_pos rfl))
      by_cases hfd : F = D
      ·have hq2 : (F.toList == D.toList) = true := by rw [HQE.out]; exact decide_eq_true hfd
       have HFD := Lib.hid (hfd.trans HBD.out)
       clear hfd
       by_cases hm : q.nx < q.ms.length
       ·have HST := Lib.hid (HST1.out.trans (Ls.confP_yes ⟨HFD.out, hm⟩))
        go_wp2_with fail
        have hS := (show (wr.drew.cell? ⟨ge, k * 2, none⟩ = some (.int .i64 1) ∧ wr.drew.cell? ⟨ge, k * 2 + 1, none⟩ = some (.string F) ∧ wr.drew.cell? ⟨w.heap.size, 5, none⟩ = some (.int .i64 (q.nx : Int)) ∧ wr.drew.cell? ⟨w.heap.size, 4, none⟩ = some (.slice am2 q.ms.length cm2)) from ⟨e0, e1, y5, y4⟩)
        clear y4 y5 e0 e1
        refine wp_region_held_drew (S := (fun wx => wx.cell? ⟨ge, k * 2, none⟩ = some (.int .i64 1) ∧ wx.cell? ⟨ge, k * 2 + 1, none⟩ = some (.string F) ∧ wx.cell? ⟨w.heap.size, 5, none⟩ = some (.int .i64 (q.nx : Int)) ∧ wx.cell? ⟨w.heap.size, 4, none⟩ = some (.slice am2 q.ms.length cm2))) (by kernel_rfl) hS (fun hHeld => ?_)
        refine tkH 0 ?_ rfl (Or.inl ⟨by rfl, ?_⟩) ?_; rotate_left
        ·intro wq hSw; (try dsimp only at hSw); (try simp only [gT, gZ]); go_simp; (try with_reducible rfl)
        simp only [Act.put, gT, gZ, sT, sZ, sS]
        refine tkH 1 ?_ rfl (Or.inl ⟨by rfl, ?_⟩) ?_; rotate_left
        ·intro wq hSw; (try dsimp only at hSw); (try simp only [gT, gS, gZ]); go_simp; (try with_reducible rfl)
        simp only [Act.put, gT, gS, gZ, sT, sZ, sS]
        refine tkH 2 ?_ rfl (Or.inl ⟨by rfl, ?_⟩) ?_; rotate_left
        ·intro wq hSw; (try dsimp only at hSw); (try simp only [gT, gS, gZ]); go_simp; (try with_reducible rfl)
        simp only [Act.put, gT, gS, gZ, sT, sZ, sS]
        refine tkH 3 ?_ rfl (Or.inl ⟨by rfl, ?_⟩) ?_; rotate_left
        ·intro wq hSw; (try dsimp only at hSw); (try simp only [gT, gS, gZ]); go_simp; (try with_reducible rfl)
        simp only [Act.put, gT, gS, gZ, sT, sZ, sS]
        refine tkH 4 ?_ rfl (Or.inl ⟨by rfl, ?_⟩) ?_; rotate_left
        ·intro wq hSw; (try dsimp only at hSw); (try simp only [gT, gS, gZ]); go_simp; (try with_reducible rfl)
        simp only [Act.put, gT, gS, gZ, sT, sZ, sS]
        refine tkH 5 ?_ rfl (Or.inl ⟨by rfl, ?_⟩) ?_; rotate_left
        ·intro wq hSw; (try dsimp only at hSw); (try simp only [gT, gS, gZ]); go_simp; (try with_reducible rfl)
        simp only [Act.put, gT, gS, gZ, sT, sZ, sS]
        refine tkH 6 ?_ rfl (Or.inl ⟨by rfl, ?_⟩) ?_; rotate_left
        ·intro wq hSw; (try dsimp only at hSw); (try simp only [gT, gS, gZ]); go_simp; (try with_reducible rfl)
        simp only [Act.put, gT, gS, gZ, sT, sZ, sS]
        refine tkH 7 ?_ rfl (Or.inl ⟨by rfl, ?_⟩) ?_; rotate_left
        ·intro wq hSw; (try dsimp only at hSw); (try simp only [gT, gS, gZ]); go_simp; (try with_reducible rfl)
        simp only [Act.put, gT, gS, gZ, sT, sZ, sS]
        refine tkH 8 ?_ rfl (Or.inl ⟨by rfl, ?_⟩) ?_; rotate_left
        ·intro wq hSw; (try dsimp only at hSw); (try simp only [gT, gS, gZ]); go_simp; (try with_reducible rfl)
        simp only [Act.put, gT, gS, gZ, sT, sZ, sS]
        refine tkH 9 ?_ rfl (Or.inl ⟨by rfl, ?_⟩) ?_; rotate_left
        ·intro wq hSw; (try dsimp only at hSw); (try simp only [gT, gS, gZ]); go_simp; (try with_reducible rfl)
        simp only [Act.put, gT, gS, gZ, sT, sZ, sS]
        refine tkH 10 ?_ rfl (Or.inl ⟨by rfl, ?_⟩) ?_; rotate_left
        ·intro wq hSw; (try dsimp only at hSw); (try simp only [gT, gS, gZ]); go_simp; (try with_reducible rfl)
        simp only [Act.put, gT, gS, gZ, sT, sZ, sS]
        refine tkH 11 ?_ rfl (Or.inl ⟨by rfl, ?_⟩) ?_; rotate_left
        ·intro wq hSw; (try dsimp only at hSw); (try simp only [gT, gS, gZ]); go_simp; (try with_reducible rfl)
        simp only [Act.put, gT, gS, gZ, sT, sZ, sS]
        refine tkH 12 ?_ rfl (Or.inl ⟨by rfl, ?_⟩) ?_; rotate_left
        ·intro wq hSw; (try dsimp only at hSw); (try simp only [gT, gS, gZ]); go_simp; (try with_reducible rfl)
        simp only [Act.put, gT, gS, gZ, sT, sZ, sS]
        refine tkH 13 ?_ rfl (Or.inl ⟨by rfl, ?_⟩) ?_; rotate_left
        ·intro wq hSw; (try dsimp only at hSw); (try simp only [gT, gS, gZ]); go_simp; (try with_reducible rfl)
        simp only [Act.put, gT, gS, gZ, sT, sZ, sS]
        refine wpAnyH_ready (rs := [14]) (by kernel_rfl) (by simp) ?_
        refine AllReadyH.cons rfl (fun K hK => ?_) AllReadyH.nil
        (try simp only [gT, gS, gZ])
        go_simp
        go_at_call 83
        refine (l8Bit_any q.nx _ (by omega)).mono ?_
        rintro e w7 ⟨rfl, hb7⟩
        rw [← HBD.out]
        have hS := And.intro (cell_keep hb7 hS.1) (And.intro (cell_keep hb7 hS.2.1) (And.intro (cell_keep hb7 hS.2.2.1) (cell_keep hb7 hS.2.2.2)))
        have HM7 := Lib.hid (HMk.out.drew.below hb7)
        have HL7 := Lib.hid (HLk.out.drew.below hb7)
        have HR7 := Lib.hid (HRk.out.drew.below (hb7.mono (show wc.heap.size ≤ wr.drew.heap.size from hgrow)))
        have hg7 : wc.heap.size ≤ w7.heap.size := Nat.le_trans hgrow hb7.size
        clear hb7
        refine hK.out _ _ hS (fun hHeld => ?_)
        clear hK K
        refine tkH 15 ?_ rfl (Or.inl ⟨by rfl, ?_⟩) ?_; rotate_left
        ·intro wq hSw; (try dsimp only at hSw); (try simp only [gT, gS, gZ]); go_simp; (try with_reducible rfl)
        simp only [Act.put, gT, gS, gZ, sT, sZ, sS]
        refine tkH 16 ?_ rfl (Or.inl ⟨by rfl, ?_⟩) ?_; rotate_left
        ·intro wq hSw; (try dsimp only at hSw); (try simp only [gT, gS, gZ]); go_simp; (try with_reducible rfl)
        simp only [Act.put, gT, gS, gZ, sT, sZ, sS]
        refine tkH 17 ?_ rfl (Or.inl ⟨by rfl, ?_⟩) ?_; rotate_left
        ·intro wq hSw; (try dsimp only at hSw); (try simp only [gT, gS, gZ]); go_simp; (try with_reducible rfl)
        simp only [Act.put, gT, gS, gZ, sT, sZ, sS]
        refine tkH 18 ?_ rfl (Or.inl ⟨by rfl, ?_⟩) ?_; rotate_left
        ·intro wq hSw; (try dsimp only at hSw); (try simp only [gT, gS, gZ]); go_simp; (try with_reducible rfl)
        simp only [Act.put, gT, gS, gZ, sT, sZ, sS]
        refine tkH 19 ?_ rfl (Or.inl ⟨by rfl, ?_⟩) ?_; rotate_left
        ·intro wq hSw; (try dsimp only at hSw); (try simp only [gT, gS, gZ]); go_simp; (try with_reducible rfl)
        simp only [Act.put, gT, gS, gZ, sT, sZ, sS]
        refine tkH 20 ?_ rfl (Or.inl ⟨by rfl, ?_⟩) ?_; rotate_left
        ·intro wq hSw; (try dsimp only at hSw); (try simp only [gT, gS, gZ]); go_simp; (try with_reducible rfl)
        simp only [Act.put, gT, gS, gZ, sT, sZ, sS]
        refine tkH 21 ?_ rfl (Or.inl ⟨by rfl, ?_⟩) ?_; rotate_left
        ·intro wq hSw; (try dsimp only at hSw); (try simp only [gT, gS, gZ]); go_simp; (try with_reducible rfl)
        simp only [Act.put, gT, gS, gZ, sT, sZ, sS]
        refine tkH 22 ?_ rfl (Or.inl ⟨by rfl, ?_⟩) ?_; rotate_left
        ·intro wq hSw; (try dsimp only at hSw); (try simp only [gT, gS, gZ]); go_simp; (try with_reducible rfl)
        simp only [Act.put, gT, gS, gZ, sT, sZ, sS]
        refine tkH 23 ?_ rfl (Or.inl ⟨by rfl, ?_⟩) ?_; rotate_left
        ·intro wq hSw; (try dsimp only at hSw); (try simp only [gT, gS, gZ]); go_simp; (try with_reducible rfl)
        simp only [Act.put, gT, gS, gZ, sT, sZ, sS]
        refine tkH 24 ?_ rfl (Or.inl ⟨by rfl, ?_⟩) ?_; rotate_left
        ·intro wq hSw; (try dsimp only at hSw); (try simp only [gT, gS, gZ]); go_simp; (try with_reducible rfl)
        simp only [Act.put, gT, gS, gZ, sT, sZ, sS]
        refine wpAnyH_done (by kernel_rfl) ?_ _
        have hM7 := HM7.out
        have n5 : w7.cell? ⟨w.heap.size, 5, none⟩ = some (.int .i64 (q.nx : Int)) := hM7.bk.cell rfl
        have nf5 := hM7.bk.free 5
        have HM8 := Lib.hid (hM7.set (i := 5) (.int .i64 ((q.nx + 1 : Nat) : Int)))
        have HL8 := Lib.hid (show OL (w7.setCell ⟨w.heap.size, 5, none⟩ (.int .i64 ((q.nx + 1 : Nat) : Int))) base _ q.ms _ q.gs _ q.ts _ q.bs from ⟨os_set HL7.out.1 (own_ne hM7.bk line_str HL7.out.1) _, os_set HL7.out.2.1 (own_ne hM7.bk line_str HL7.out.2.1) _, os_set HL7.out.2.2.1 (own_ne hM7.bk line_str HL7.out.2.2.1) _, os_set HL7.out.2.2.2 (own_ne hM7.bk line_str HL7.out.2.2.2) _⟩)
        have HR8 := Lib.hid (HR7.out.setCell (p := ⟨w.heap.size, 5, none⟩) (by simp; omega) (.int .i64 ((q.nx + 1 : Nat) : Int)))
        clear hM7 hS
        have hwr : IntKind.i64.wrap ((q.nx : Int) + 1) = ((q.nx + 1 : Nat) : Int) := wrap_in _ (by omega) (by omega)
        go_wp2
        go_roundw
        case rel => exact ⟨k + 1, _, _, _, _, by omega, by go_num, by rw [HST.out]; exact HM8.out, by rw [HST.out]; exact HL8.out, HR8.out, by simp; exact hg7⟩
        case measure => simp [intOf]; omega
       ·have HST := Lib.hid (HST1.out.trans (Ls.confP_no (fun h => hm h.2)))
        go_wp2_with fail
        have hS := (show (wr.drew.cell? ⟨ge, k * 2, none⟩ = some (.int .i64 1) ∧ wr.drew.cell? ⟨ge, k * 2 + 1, none⟩ = some (.string F) ∧ wr.drew.cell? ⟨w.heap.size, 5, none⟩ = some (.int .i64 (q.nx : Int)) ∧ wr.drew.cell? ⟨w.heap.size, 4, none⟩ = some (.slice am2 q.ms.length cm2)) from ⟨e0, e1, y5, y4⟩)
        clear y4 y5 e0 e1
        refine wp_region_held_drew (S := (fun wx => wx.cell? ⟨ge, k * 2, none⟩ = some (.int .i64 1) ∧ wx.cell? ⟨ge, k * 2 + 1, none⟩ = some (.string F) ∧ wx.cell? ⟨w.heap.size, 5, none⟩ = some (.int .i64 (q.nx : Int)) ∧ wx.cell? ⟨w.heap.size, 4, none⟩ = some (.slice am2 q.ms.length cm2))) (by kernel_rfl) hS (fun hHeld => ?_)
        refine tkH 0 ?_ rfl (Or.inl ⟨by rfl, ?_⟩) ?_; rotate_left
        ·intro wq hSw; (try dsimp only at hSw); (try simp only [gT, gZ]); go_simp; (try with_reducible rfl)
        simp only [Act.put, gT, gZ, sT, sZ, sS]
        refine tkH 1 ?_ rfl (Or.inl ⟨by rfl, ?_⟩) ?_; rotate_left
        ·intro wq hSw; (try dsimp only at hSw); (try simp only [gT, gS, gZ]); go_simp; (try with_reducible rfl)
        simp only [Act.put, gT, gS, gZ, sT, sZ, sS]
        refine tkH 2 ?_ rfl (Or.inl ⟨by rfl, ?_⟩) ?_; rotate_left
        ·intro wq hSw; (try dsimp only at hSw); (try simp only [gT, gS, gZ]); go_simp; (try with_reducible rfl)
        simp only [Act.put, gT, gS, gZ, sT, sZ, sS]
        refine tkH 3 ?_ rfl (Or.inl ⟨by rfl, ?_⟩) ?_; rotate_left
        ·intro wq hSw; (try dsimp only at hSw); (try simp only [gT, gS, gZ]); go_simp; (try with_reducible rfl)
        simp only [Act.put, gT, gS, gZ, sT, sZ, sS]
        refine tkH 4 ?_ rfl (Or.inl ⟨by rfl, ?_⟩) ?_; rotate_left
        ·intro wq hSw; (try dsimp only at hSw); (try simp only [gT, gS, gZ]); go_simp; (try with_reducible rfl)
        simp only [Act.put, gT, gS, gZ, sT, sZ, sS]
        refine tkH 5 ?_ rfl (Or.inl ⟨by rfl, ?_⟩) ?_; rotate_left
        ·intro wq hSw; (try dsimp only at hSw); (try simp only [gT, gS, gZ]); go_simp; (try with_reducible rfl)
        simp only [Act.put, gT, gS, gZ, sT, sZ, sS]
        refine tkH 6 ?_ rfl (Or.inl ⟨by rfl, ?_⟩) ?_; rotate_left
        ·intro wq hSw; (try dsimp only at hSw); (try simp only [gT, gS, gZ]); go_simp; (try with_reducible rfl)
        simp only [Act.put, gT, gS, gZ, sT, sZ, sS]
        refine tkH 7 ?_ rfl (Or.inl ⟨by rfl, ?_⟩) ?_; rotate_left
        ·intro wq hSw; (try dsimp only at hSw); (try simp only [gT, gS, gZ]); go_simp; (try with_reducible rfl)
        simp only [Act.put, gT, gS, gZ, sT, sZ, sS]
        refine tkH 8 ?_ rfl (Or.inl ⟨by rfl, ?_⟩) ?_; rotate_left
        ·intro wq hSw; (try dsimp only at hSw); (try simp only [gT, gS, gZ]); go_simp; (try with_reducible rfl)
        simp only [Act.put, gT, gS, gZ, sT, sZ, sS]
        refine tkH 9 ?_ rfl (Or.inl ⟨by rfl, ?_⟩) ?_; rotate_left
        ·intro wq hSw; (try dsimp only at hSw); (try simp only [gT, gS, gZ]); go_simp; (try with_reducible rfl)
        simp only [Act.put, gT, gS, gZ, sT, sZ, sS]
        refine tkH 10 ?_ rfl (Or.inl ⟨by rfl, ?_⟩) ?_; rotate_left
        ·intro wq hSw; (try dsimp only at hSw); (try simp only [gT, gS, gZ]); go_simp; (try with_reducible rfl)
        simp only [Act.put, gT, gS, gZ, sT, sZ, sS]
        refine tkH 11 ?_ rfl (Or.inl ⟨by rfl, ?_⟩) ?_; rotate_left
        ·intro wq hSw; (try dsimp only at hSw); (try simp only [gT, gS, gZ]); go_simp; (try with_reducible rfl)
        simp only [Act.put, gT, gS, gZ, sT, sZ, sS]
        refine tkH 12 ?_ rfl (Or.inl ⟨by rfl, ?_⟩) ?_; rotate_left
        ·intro wq hSw; (try dsimp only at hSw); (try simp only [gT, gS, gZ]); go_simp; (try with_reducible rfl)
        simp only [Act.put, gT, gS, gZ, sT, sZ, sS]
        refine tkH 13 ?_ rfl (Or.inl ⟨by rfl, ?_⟩) ?_; rotate_left
        ·intro wq hSw; (try dsimp only at hSw); (try simp only [gT, gS, gZ]); go_simp; (try with_reducible rfl)
        simp only [Act.put, gT, gS, gZ, sT, sZ, sS]
        refine wpAnyH_ready (rs := [14]) (by kernel_rfl) (by simp) ?_
        refine AllReadyH.cons rfl (fun K hK => ?_) AllReadyH.nil
        (try simp only [gT, gS, gZ])
        go_simp
        go_at_call 83
        refine (l8Bit_any q.nx _ (by omega)).mono ?_
        rintro e w7 ⟨rfl, hb7⟩
        rw [← HBD.out]
        have hS := And.intro (cell_keep hb7 hS.1) (And.intro (cell_keep hb7 hS.2.1) (And.intro (cell_keep hb7 hS.2.2.1) (cell_keep hb7 hS.2.2.2)))
        have HM7 := Lib.hid (HMk.out.drew.below hb7)
        have HL7 := Lib.hid (HLk.out.drew.below hb7)
        have HR7 := Lib.hid (HRk.out.drew.below (hb7.mono (show wc.heap.size ≤ wr.drew.heap.size from hgrow)))
        have hg7 : wc.heap.size ≤ w7.heap.size := Nat.le_trans hgrow hb7.size
        clear hb7
        refine hK.out _ _ hS (fun hHeld => ?_)
        clear hK K
        refine tkH 15 ?_ rfl (Or.inl ⟨by rfl, ?_⟩) ?_; rotate_left
        ·intro wq hSw; (try dsimp only at hSw); (try simp only [gT, gS, gZ]); go_simp; (try with_reducible rfl)
        simp only [Act.put, gT, gS, gZ, sT, sZ, sS]
        refine tkH 16 ?_ rfl (Or.inl ⟨by rfl, ?_⟩) ?_; rotate_left
        ·intro wq hSw; (try dsimp only at hSw); (try simp only [gT, gS, gZ]); go_simp; (try with_reducible rfl)
        simp only [Act.put, gT, gS, gZ, sT, sZ, sS]
        refine tkH 17 ?_ rfl (Or.inl ⟨by rfl, ?_⟩) ?_; rotate_left
        ·intro wq hSw; (try dsimp only at hSw); (try simp only [gT, gS, gZ]); go_simp; (try with_reducible rfl)
        simp only [Act.put, gT, gS, gZ, sT, sZ, sS]
        refine tkH 18 ?_ rfl (Or.inl ⟨by rfl, ?_⟩) ?_; rotate_left
        ·intro wq hSw; (try dsimp only at hSw); (try simp only [gT, gS, gZ]); go_simp; (try with_reducible rfl)
        simp only [Act.put, gT, gS, gZ, sT, sZ, sS]
        refine tkH 19 ?_ rfl (Or.inl ⟨by rfl, ?_⟩) ?_; rotate_left
        ·intro wq hSw; (try dsimp only at hSw); (try simp only [gT, gS, gZ]); go_simp; (try with_reducible rfl)
        simp only [Act.put, gT, gS, gZ, sT, sZ, sS]
        refine tkH 20 ?_ rfl (Or.inl ⟨by rfl, ?_⟩) ?_; rotate_left
        ·intro wq hSw; (try dsimp only at hSw); (try simp only [gT, gS, gZ]); go_simp; (try with_reducible rfl)
        simp only [Act.put, gT, gS, gZ, sT, sZ, sS]
        refine tkH 21 ?_ rfl (Or.inl ⟨by rfl, ?_⟩) ?_; rotate_left
        ·intro wq hSw; (try dsimp only at hSw); (try simp only [gT, gS, gZ]); go_simp; (try with_reducible rfl)
        simp only [Act.put, gT, gS, gZ, sT, sZ, sS]
        refine tkH 22 ?_ rfl (Or.inl ⟨by rfl, ?_⟩) ?_; rotate_left
        ·intro wq hSw; (try dsimp only at hSw); (try simp only [gT, gS, gZ]); go_simp; (try with_reducible rfl)
        simp only [Act.put, gT, gS, gZ, sT, sZ, sS]
        refine tkH 23 ?_ rfl (Or.inl ⟨by rfl, ?_⟩) ?_; rotate_left
        ·intro wq hSw; (try dsimp only at hSw); (try simp only [gT, gS, gZ]); go_simp; (try with_reducible rfl)
        simp only [Act.put, gT, gS, gZ, sT, sZ, sS]
        refine tkH 24 ?_ rfl (Or.inl ⟨by rfl, ?_⟩) ?_; rotate_left
        ·intro wq hSw; (try dsimp only at hSw); (try simp only [gT, gS, gZ]); go_simp; (try with_reducible rfl)
        simp only [Act.put, gT, gS, gZ, sT, sZ, sS]
        refine wpAnyH_done (by kernel_rfl) ?_ _
        clear hS
        go_wp2
        go_roundw
        case rel => exact ⟨k + 1, _, _, _, _, by omega, by go_num, by rw [HST.out]; exact HM7.out, by rw [HST.out]; exact HL7.out, HR7.out, hg7⟩
        case measure => simp [intOf]; omega
      ·have hq2 : (F.toList == D.toList) = false := by rw [HQE.out]; exact decide_eq_false hfd
       have HST := Lib.hid (HST1.out.trans (Ls.confP_no (fun h => hfd (h.1.trans HBD.out.symm))))
       clear hfd
       go_wp2_with fail
       have hS := (show (wr.drew.cell? ⟨ge, k * 2, none⟩ = some (.int .i64 1) ∧ wr.drew.cell? ⟨ge, k * 2 + 1, none⟩ = some (.string F) ∧ wr.drew.cell? ⟨w.heap.size, 5, none⟩ = some (.int .i64 (q.nx : Int)) ∧ wr.drew.cell? ⟨w.heap.size, 4, none⟩ = some (.slice am2 q.ms.length cm2)) from ⟨e0, e1, y5, y4⟩)
       clear y4 y5 e0 e1
       refine wp_region_held_drew (S := (fun wx => wx.cell? ⟨ge, k * 2, none⟩ = some (.int .i64 1) ∧ wx.cell? ⟨ge, k * 2 + 1, none⟩ = some (.string F) ∧ wx.cell? ⟨w.heap.size, 5, none⟩ = some (.int .i64 (q.nx : Int)) ∧ wx.cell? ⟨w.heap.size, 4, none⟩ = some (.slice am2 q.ms.length cm2))) (by kernel_rfl) hS (fun hHeld => ?_)
       refine tkH 0 ?_ rfl (Or.inl ⟨by rfl, ?_⟩) ?_; rotate_left
       ·intro wq hSw; (try dsimp only at hSw); (try simp only [gT, gZ]); go_simp; (try with_reducible rfl)
       simp only [Act.put, gT, gZ, sT, sZ, sS]
       refine tkH 1 ?_ rfl (Or.inl ⟨by rfl, ?_⟩) ?_; rotate_left
       ·intro wq hSw; (try dsimp only at hSw); (try simp only [gT, gS, gZ]); go_simp; (try with_reducible rfl)
       simp only [Act.put, gT, gS, gZ, sT, sZ, sS]
       refine tkH 2 ?_ rfl (Or.inl ⟨by rfl, ?_⟩) ?_; rotate_left
       ·intro wq hSw; (try dsimp only at hSw); (try simp only [gT, gS, gZ]); go_simp; (try with_reducible rfl)
       simp only [Act.put, gT, gS, gZ, sT, sZ, sS]
       refine tkH 3 ?_ rfl (Or.inl ⟨by rfl, ?_⟩) ?_; rotate_left
       ·intro wq hSw; (try dsimp only at hSw); (try simp only [gT, gS, gZ]); go_simp; (try with_reducible rfl)
       simp only [Act.put, gT, gS, gZ, sT, sZ, sS]
       refine tkH 4 ?_ rfl (Or.inl ⟨by rfl, ?_⟩) ?_; rotate_left
       ·intro wq hSw; (try dsimp only at hSw); (try simp only [gT, gS, gZ]); go_simp; (try with_reducible rfl)
       simp only [Act.put, gT, gS, gZ, sT, sZ, sS]
       refine tkH 5 ?_ rfl (Or.inl ⟨by rfl, ?_⟩) ?_; rotate_left
       ·intro wq hSw; (try dsimp only at hSw); (try simp only [gT, gS, gZ]); go_simp; (try with_reducible rfl)
       simp only [Act.put, gT, gS, gZ, sT, sZ, sS]
       refine tkH 6 ?_ rfl (Or.inl ⟨by rfl, ?_⟩) ?_; rotate_left
       ·intro wq hSw; (try dsimp only at hSw); (try simp only [gT, gS, gZ]); go_simp; (try with_reducible rfl)
       simp only [Act.put, gT, gS, gZ, sT, sZ, sS]
       refine tkH 7 ?_ rfl (Or.inl ⟨by rfl, ?_⟩) ?_; rotate_left
       ·intro wq hSw; (try dsimp only at hSw); (try simp only [gT, gS, gZ]); go_simp; (try with_reducible rfl)
       simp only [Act.put, gT, gS, gZ, sT, sZ, sS]
       refine tkH 8 ?_ rfl (Or.inl ⟨by rfl, ?_⟩) ?_; rotate_left
       ·intro wq hSw; (try dsimp only at hSw); (try simp only [gT, gS, gZ]); go_simp; (try with_reducible rfl)
       simp only [Act.put, gT, gS, gZ, sT, sZ, sS]
       refine tkH 9 ?_ rfl (Or.inl ⟨by rfl, ?_⟩) ?_; rotate_left
       ·intro wq hSw; (try dsimp only at hSw); (try simp only [gT, gS, gZ]); go_simp; (try with_reducible rfl)
       simp only [Act.put, gT, gS, gZ, sT, sZ, sS]
       refine tkH 10 ?_ rfl (Or.inl ⟨by rfl, ?_⟩) ?_; rotate_left
       ·intro wq hSw; (try dsimp only at hSw); (try simp only [gT, gS, gZ]); go_simp; (try with_reducible rfl)
       simp only [Act.put, gT, gS, gZ, sT, sZ, sS]
       refine tkH 11 ?_ rfl (Or.inl ⟨by rfl, ?_⟩) ?_; rotate_left
       ·intro wq hSw; (try dsimp only at hSw); (try simp only [gT, gS, gZ]); go_simp; (try with_reducible rfl)
       simp only [Act.put, gT, gS, gZ, sT, sZ, sS]
       refine tkH 12 ?_ rfl (Or.inl ⟨by rfl, ?_⟩) ?_; rotate_left
       ·intro wq hSw; (try dsimp only at hSw); (try simp only [gT, gS, gZ]); go_simp; (try with_reducible rfl)
       simp only [Act.put, gT, gS, gZ, sT, sZ, sS]
       refine tkH 13 ?_ rfl (Or.inl ⟨by rfl, ?_⟩) ?_; rotate_left
       ·intro wq hSw; (try dsimp only at hSw); (try simp only [gT, gS, gZ]); go_simp; (try with_reducible rfl)
       simp only [Act.put, gT, gS, gZ, sT, sZ, sS]
       refine wpAnyH_ready (rs := [14]) (by kernel_rfl) (by simp) ?_
       refine AllReadyH.cons rfl (fun K hK => ?_) AllReadyH.nil
       (try simp only [gT, gS, gZ])
       go_simp
       go_at_call 83
       refine (l8Bit_any q.nx _ (by omega)).mono ?_
       rintro e w7 ⟨rfl, hb7⟩
       rw [← HBD.out]
       have hS := And.intro (cell_keep hb7 hS.1) (And.intro (cell_keep hb7 hS.2.1) (And.intro (cell_keep hb7 hS.2.2.1) (cell_keep hb7 hS.2.2.2)))
       have HM7 := Lib.hid (HMk.out.drew.below hb7)
       have HL7 := Lib.hid (HLk.out.drew.below hb7)
       have HR7 := Lib.hid (HRk.out.drew.below (hb7.mono (show wc.heap.size ≤ wr.drew.heap.size from hgrow)))
       have hg7 : wc.heap.size ≤ w7.heap.size := Nat.le_trans hgrow hb7.size
       clear hb7
       refine hK.out _ _ hS (fun hHeld => ?_)
       clear hK K
       refine tkH 15 ?_ rfl (Or.inl ⟨by rfl, ?_⟩) ?_; rotate_left
       ·intro wq hSw; (try dsimp only at hSw); (try simp only [gT, gS, gZ]); go_simp; (try with_reducible rfl)
       simp only [Act.put, gT, gS, gZ, sT, sZ, sS]
       refine tkH 16 ?_ rfl (Or.inl ⟨by rfl, ?_⟩) ?_; rotate_left
       ·intro wq hSw; (try dsimp only at hSw); (try simp only [gT, gS, gZ]); go_simp; (try with_reducible rfl)
       simp only [Act.put, gT, gS, gZ, sT, sZ, sS]
       refine tkH 17 ?_ rfl (Or.inl ⟨by rfl, ?_⟩) ?_; rotate_left
       ·intro wq hSw; (try dsimp only at hSw); (try simp only [gT, gS, gZ]); go_simp; (try with_reducible rfl)
       simp only [Act.put, gT, gS, gZ, sT, sZ, sS]
       refine tkH 18 undef rfl (Or.inr ⟨by rfl, rfl⟩) ?_
       simp only [Act.put, gT, gS, gZ, sT, sZ, sS]
       refine tkH 19 undef rfl (Or.inr ⟨by rfl, rfl⟩) ?_
       simp only [Act.put, gT, gS, gZ, sT, sZ, sS]
       refine tkH 20 undef rfl (Or.inr ⟨by rfl, rfl⟩) ?_
       simp only [Act.put, gT, gS, gZ, sT, sZ, sS]
       refine tkH 21 undef rfl (Or.inr ⟨by rfl, rfl⟩) ?_
       simp only [Act.put, gT, gS, gZ, sT, sZ, sS]
       refine tkH 22 undef rfl (Or.inr ⟨by rfl, rfl⟩) ?_
       simp only [Act.put, gT, gS, gZ, sT, sZ, sS]
       refine tkH 23 undef rfl (Or.inr ⟨by rfl, rfl⟩) ?_
       simp only [Act.put, gT, gS, gZ, sT, sZ, sS]
       refine tkH 24 ?_ rfl (Or.inl ⟨by rfl, ?_⟩) ?_; rotate_left
       ·intro wq hSw; (try dsimp only at hSw); (try simp only [gT, gS, gZ]); go_simp; (try with_reducible rfl)
       simp only [Act.put, gT, gS, gZ, sT, sZ, sS]
       refine wpAnyH_done (by kernel_rfl) ?_ _
       clear hS
       go_wp2
       go_roundw
       case rel => exact ⟨k + 1, _, _, _, _, by omega, by go_num, by rw [HST.out]; exact HM7.out, by rw [HST.out]; exact HL7.out, HR7.out, hg7⟩
       case measure => simp [intOf]; omega
     ·have HST := Lib.hid (HST0.out.trans (if_neg hk1))
      have hkb : (kd == 1) = false := beq_eq_false_iff_ne.2 hk1
      go_wp2_with fail
      have hS := (show (wr.drew.cell? ⟨ge, k * 2, none⟩ = some (.int .i64 kd) ∧ wr.drew.cell? ⟨ge, k * 2 + 1, none⟩ = some (.string F) ∧ wr.drew.cell? ⟨w.heap.size, 5, none⟩ = some (.int .i64 (q.nx : Int)) ∧ wr.drew.cell? ⟨w.heap.size, 4, none⟩ = some (.slice am2 q.ms.length cm2)) from ⟨e0, e1, y5, y4⟩)
      clear y4 y5 e0 e1
      refine wp_region_held_drew (S := (fun wx => wx.cell? ⟨ge, k * 2, none⟩ = some (.int .i64 kd) ∧ wx.cell? ⟨ge, k * 2 + 1, none⟩ = some (.string F) ∧ wx.cell? ⟨w.heap.size, 5, none⟩ = some (.int .i64 (q.nx : Int)) ∧ wx.cell? ⟨w.heap.size, 4, none⟩ = some (.slice am2 q.ms.length cm2))) (by kernel_rfl) hS (fun hHeld => ?_)
      refine tkH 0 ?_ rfl (Or.inl ⟨by rfl, ?_⟩) ?_; rotate_left
      ·intro wq hSw; (try dsimp only at hSw); (try simp only [gT, gZ]); go_simp; (try with_reducible rfl)
      simp only [Act.put, gT, gZ, sT, sZ, sS]
      refine tkH 1 ?_ rfl (Or.inl ⟨by rfl, ?_⟩) ?_; rotate_left
      ·intro wq hSw; (try dsimp only at hSw); (try simp only [gT, gS, gZ]); go_simp; (try with_reducible rfl)
      simp only [Act.put, gT, gS, gZ, sT, sZ, sS]
      refine tkH 2 ?_ rfl (Or.inl ⟨by rfl, ?_⟩) ?_; rotate_left
      ·intro wq hSw; (try dsimp only at hSw); (try simp only [gT, gS, gZ]); go_simp; (try with_reducible rfl)
      simp only [Act.put, gT, gS, gZ, sT, sZ, sS]
      refine tkH 3 ?_ rfl (Or.inl ⟨by rfl, ?_⟩) ?_; rotate_left
      ·intro wq hSw; (try dsimp only at hSw); (try simp only [gT, gS, gZ]); go_simp; (try with_reducible rfl)
      simp only [Act.put, gT, gS, gZ, sT, sZ, sS]
      refine tkH 4 ?_ rfl (Or.inl ⟨by rfl, ?_⟩) ?_; rotate_left
      ·intro wq hSw; (try dsimp only at hSw); (try simp only [gT, gS, gZ]); go_simp; (try with_reducible rfl)
      simp only [Act.put, gT, gS, gZ, sT, sZ, sS]
      refine tkH 5 ?_ rfl (Or.inl ⟨by rfl, ?_⟩) ?_; rotate_left
      ·intro wq hSw; (try dsimp only at hSw); (try simp only [gT, gS, gZ]); go_simp; (try with_reducible rfl)
      simp only [Act.put, gT, gS, gZ, sT, sZ, sS]
      refine tkH 6 ?_ rfl (Or.inl ⟨by rfl, ?_⟩) ?_; rotate_left
      ·intro wq hSw; (try dsimp only at hSw); (try simp only [gT, gS, gZ]); go_simp; (try with_reducible rfl)
      simp only [Act.put, gT, gS, gZ, sT, sZ, sS]
      refine tkH 7 undef rfl (Or.inr ⟨by rfl, rfl⟩) ?_
      simp only [Act.put, gT, gS, gZ, sT, sZ, sS]
      refine tkH 8 undef rfl (Or.inr ⟨by rfl, rfl⟩) ?_
      simp only [Act.put, gT, gS, gZ, sT, sZ, sS]
      refine tkH 9 undef rfl (Or.inr ⟨by rfl, rfl⟩) ?_
      simp only [Act.put, gT, gS, gZ, sT, sZ, sS]
      refine tkH 10 undef rfl (Or.inr ⟨by rfl, rfl⟩) ?_
      simp only [Act.put, gT, gS, gZ, sT, sZ, sS]
      refine tkH 11 undef rfl (Or.inr ⟨by rfl, rfl⟩) ?_
      simp only [Act.put, gT, gS, gZ, sT, sZ, sS]
      refine tkH 12 undef rfl (Or.inr ⟨by rfl, rfl⟩) ?_
      simp only [Act.put, gT, gS, gZ, sT, sZ, sS]
      refine tkH 13 undef rfl (Or.inr ⟨by rfl, rfl⟩) ?_
      simp only [Act.put, gT, gS, gZ, sT, sZ, sS]
      refine tkH 14 undef rfl (Or.inr ⟨by rfl, rfl⟩) ?_
      simp only [Act.put, gT, gS, gZ, sT, sZ, sS]
      refine tkH 15 undef rfl (Or.inr ⟨by rfl, rfl⟩) ?_
      simp only [Act.put, gT, gS, gZ, sT, sZ, sS]
      refine tkH 16 ?_ rfl (Or.inl ⟨by rfl, ?_⟩) ?_; rotate_left
      ·intro wq hSw; (try dsimp only at hSw); (try simp only [gT, gS, gZ]); go_simp; (try with_reducible rfl)
      simp only [Act.put, gT, gS, gZ, sT, sZ, sS]
      refine tkH 17 ?_ rfl (Or.inl ⟨by rfl, ?_⟩) ?_; rotate_left
      ·intro wq hSw; (try dsimp only at hSw); (try simp only [gT, gS, gZ]); go_simp; (try with_reducible rfl)
      simp only [Act.put, gT, gS, gZ, sT, sZ, sS]
      refine tkH 18 undef rfl (Or.inr ⟨by rfl, rfl⟩) ?_
      simp only [Act.put, gT, gS, gZ, sT, sZ, sS]
      refine tkH 19 undef rfl (Or.inr ⟨by rfl, rfl⟩) ?_
      simp only [Act.put, gT, gS, gZ, sT, sZ, sS]
      refine tkH 20 undef rfl (Or.inr ⟨by rfl, rfl⟩) ?_
      simp only [Act.put, gT, gS, gZ, sT, sZ, sS]
      refine tkH 21 undef rfl (Or.inr ⟨by rfl, rfl⟩) ?_
      simp only [Act.put, gT, gS, gZ, sT, sZ, sS]
      refine tkH 22 undef rfl (Or.inr ⟨by rfl, rfl⟩) ?_
      simp only [Act.put, gT, gS, gZ, sT, sZ, sS]
      refine tkH 23 undef rfl (Or.inr ⟨by rfl, rfl⟩) ?_
      simp only [Act.put, gT, gS, gZ, sT, sZ, sS]
      refine tkH 24 ?_ rfl (Or.inl ⟨by rfl, ?_⟩) ?_; rotate_left
      ·intro wq hSw; (try dsimp only at hSw); (try simp only [gT, gS, gZ]); go_simp; (try with_reducible rfl)
      simp only [Act.put, gT, gS, gZ, sT, sZ, sS]
      refine wpAnyH_done (by kernel_rfl) ?_ _
      have HM7 := Lib.hid HMk.out.drew
      have HL7 := Lib.hid HLk.out.drew
      have HR7 := Lib.hid HRk.out.drew
      have hg7 : wc.heap.size ≤ wr.drew.heap.size := hgrow
      clear hS
      go_wp2
      go_roundw
      case rel => exact ⟨k + 1, _, _, _, _, by omega, by go_num, by rw [HST.out]; exact HM7.out, by rw [HST.out]; exact HL7.out, HR7.out, hg7⟩
      case measure => simp [intOf]; omega
    ·have hke : k = evs.length := by omega
     have HV := Lib.hid (show s.here = (framesL (evs.take k)).foldl Ls.confP { s with bs := r, h := fd } by rw [HE.out, hke, List.take_length])
     clear hke
     generalize (framesL (evs.take k)).foldl Ls.confP { s with bs := r, h := fd } = q2 at *
     obtain ⟨am2, cm2, rfl⟩ := HLk.out.1.reads.shape
     obtain ⟨ag2, cg2, rfl⟩ := HLk.out.2.1.reads.shape
     obtain ⟨at2, ct2, rfl⟩ := HLk.out.2.2.1.reads.shape
     obtain ⟨ab2, cb2, rfl⟩ := HLk.out.2.2.2.reads.shape
     obtain ⟨c0, c1, c2, c3, c4, c5, c6, c7, c8, c9, c10, c11, c12⟩ := cells13 HMk.out.bk
     obtain ⟨z0, z1, z2, z3, z4, z5, z6, z7, z8, z9, z10, z11, z12⟩ := cells13 HMk.out.bq
     obtain ⟨f0, f1, f2, f3, f4, f5, f6, f7, f8, f9, f10, f11, f12⟩ := free13 HMk.out.bq
     go_wp2
     have hq := set13_bk (v0 := .int .i64 q2.c.codec) (v1 := .int .i64 q2.c.sum) (v2 := .int .i64 q2.c.most) (v3 := .int .i64 q2.c.map) (v4 := (.slice am2 q2.ms.length cm2)) (v5 := .int .i64 (q2.nx : Int)) (v6 := (.slice ag2 q2.gs.length cg2)) (v7 := .string (bzL q2.f.held)) (v8 := .bool q2.f.over) (v9 := .string (bzL q2.h.held)) (v10 := .bool q2.h.over) (v11 := (.slice at2 q2.ts.length ct2)) (v12 := (.slice ab2 q2.bs.length cb2)) HMk.out.bq rfl
     rw [HV.out]
     exact line_ret2 Tryz.results54 hq rfl rfl rfl ⟨_, _, _, _, _, rfl, OL.whole2 HMk.out HLk.out, set13_below (HB.out.trans HMk.out.bl) (by omega)⟩
theorem l8Here_any (s : Ls) (hs : s.Ok) (vm vb vg vt : Value) (w : World) (h0 : OL w 0 vm s.ms vg s.gs vt s.ts vb s.bs) :
  Calls Tryz.prog 54 #[lsV s vm vb vg vt] w (SPost w s.here) := l8Here_anyB s hs vm vb vg vt w h0 (Nat.zero_le _)
end Go.Proofs.YtmggoiabcboaiaaGreat
