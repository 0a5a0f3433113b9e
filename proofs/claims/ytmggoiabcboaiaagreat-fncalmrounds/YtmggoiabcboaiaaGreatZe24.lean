/- Parts of a proof, 24: LkN. -/
import Derived.Test.YtmggoiabcboaiaaGreatZe1
import Derived.Test.YtmggoiabcboaiaaGreatZe2
import Derived.Test.YtmggoiabcboaiaaGreatZe3
import Derived.Test.YtmggoiabcboaiaaGreatZe4
import Derived.Test.YtmggoiabcboaiaaGreatZe5
import Derived.Test.YtmggoiabcboaiaaGreatZe6
import Derived.Test.YtmggoiabcboaiaaGreatZe7
import Derived.Test.YtmggoiabcboaiaaGreatZe8
import Derived.Test.YtmggoiabcboaiaaGreatZe9
import Derived.Test.YtmggoiabcboaiaaGreatZe10
import Derived.Test.YtmggoiabcboaiaaGreatZe11
import Derived.Test.YtmggoiabcboaiaaGreatZe12
import Derived.Test.YtmggoiabcboaiaaGreatZe13
import Derived.Test.YtmggoiabcboaiaaGreatZe14
import Derived.Test.YtmggoiabcboaiaaGreatZe15
import Derived.Test.YtmggoiabcboaiaaGreatZe16
import Derived.Test.YtmggoiabcboaiaaGreatZe17
import Derived.Test.YtmggoiabcboaiaaGreatZe18
import Derived.Test.YtmggoiabcboaiaaGreatZe19
import Derived.Test.YtmggoiabcboaiaaGreatZe20
import Derived.Test.YtmggoiabcboaiaaGreatZe21
import Derived.Test.YtmggoiabcboaiaaGreatZe23
namespace Go.Proofs.YtmggoiabcboaiaaGreat
open Go.ChangeShapes Go.WideShapes Go.ChangeAt Go.RowKit
set_option linter.unusedVariables false
def TPostB (base : Nat) (w : World) (s' : Ls) (e : Ending) (w' : World) : Prop := ∃ um ub ug ut, e = .returned (lsV s' um ub ug ut) ∧ OL w' base um s'.ms ug s'.gs ut s'.ts ub s'.bs ∧ Below w.heap.size w w'
abbrev TPost (w : World) (s' : Ls) : Ending → World → Prop := TPostB 0 w s'
set_option maxRecDepth 100000 in
set_option maxHeartbeats 4000000 in
theorem l8Take_anyB {base : Nat} (s : Ls) (hs : s.Ok) (F : ByteArray) (hFm : (F.size : Int) ≤ s.c.most) (vm vb vg vt : Value) (w : World) (h0 : OL w base vm s.ms vg s.gs vt s.ts vb s.bs) (hbs : base ≤ w.heap.size) :
  Calls Tryz.prog 82 #[lsV s vm vb vg vt, .string F] w (TPostB base w (s.takeP F)) := by
 obtain ⟨i0, hi0, hz0, hz1, hz2⟩ := info_parts info_str
 have HI := Lib.hid hi0
 have HZ0 := Lib.hid hz0
 have HZ1 := Lib.hid hz1
 have HZ2 := Lib.hid hz2
 have h := h0.reads
 have hB : w.heap.size ≤ w.heap.size := Nat.le_refl _
 obtain ⟨am, cm, rfl⟩ := h.1.shape
 obtain ⟨ag, cg, rfl⟩ := h.2.1.shape
 obtain ⟨at_, ct, rfl⟩ := h.2.2.1.shape
 obtain ⟨ab, cb, rfl⟩ := h.2.2.2.shape
 have hzl := zero_line
 have hml := hs.ml
 have hnx := hs.nxl
 have htl := hs.tl
 have hgl := hs.gl
 have hbl := hs.bl
 have hcf := hs.conf
 have hmost := (confB_yes hs.conf).2.2.1
 have hk := (BK.new w #[.int .i64 s.c.codec, .int .i64 s.c.sum, .int .i64 s.c.most, .int .i64 s.c.map, .slice am s.ms.length cm, .int .i64 (s.nx : Int), .slice ag s.gs.length cg, .string (bzL s.f.held), .bool s.f.over, .string (bzL s.h.held), .bool s.h.over, .slice at_ s.ts.length ct, .slice ab s.bs.length cb] 32).alloc (.cells #[.int .i64 0, .int .i64 0, .int .i64 0, .int .i64 0, .slice none 0 0, .int .i64 0, .slice none 0 0, .string ⟨#[]⟩, .bool false, .string ⟨#[]⟩, .bool false, .slice none 0 0, .slice none 0 0] 32)
 have hq := BK.new (w.alloc (.cells #[.int .i64 s.c.codec, .int .i64 s.c.sum, .int .i64 s.c.most, .int .i64 s.c.map, .slice am s.ms.length cm, .int .i64 (s.nx : Int), .slice ag s.gs.length cg, .string (bzL s.f.held), .bool s.f.over, .string (bzL s.h.held), .bool s.h.over, .slice at_ s.ts.length ct, .slice ab s.bs.length cb] 32)) #[.int .i64 0, .int .i64 0, .int .i64 0, .int .i64 0, .slice none 0 0, .int .i64 0, .slice none 0 0, .string ⟨#[]⟩, .bool false, .string ⟨#[]⟩, .bool false, .slice none 0 0, .slice none 0 0] 32
 rw [World.size_alloc] at hq
 have hb := ((Below.refl w.heap.size w).alloc (Nat.le_refl _) (.cells #[.int .i64 s.c.codec, .int .i64 s.c.sum, .int .i64 s.c.most, .int .i64 s.c.map, .slice am s.ms.length cm, .int .i64 (s.nx : Int), .slice ag s.gs.length cg, .string (bzL s.f.held), .bool s.f.over, .string (bzL s.h.held), .bool s.h.over, .slice at_ s.ts.length ct, .slice ab s.bs.length cb] 32)).alloc (by simp) (.cells #[.int .i64 0, .int .i64 0, .int .i64 0, .int .i64 0, .slice none 0 0, .int .i64 0, .slice none 0 0, .string ⟨#[]⟩, .bool false, .string ⟨#[]⟩, .bool false, .slice none 0 0, .slice none 0 0] 32)
 have HR := Lib.hid ((h.mono hB).below hb)
 have HB := Lib.hid hb
 have HQ := Lib.hid hq
 have HK := Lib.hid hk
 have HH := Lib.hid h
 obtain ⟨w0, hw0⟩ : ∃ w0, w0 = (w.alloc (.cells #[.int .i64 s.c.codec, .int .i64 s.c.sum, .int .i64 s.c.most, .int .i64 s.c.map, .slice am s.ms.length cm, .int .i64 (s.nx : Int), .slice ag s.gs.length cg, .string (bzL s.f.held), .bool s.f.over, .string (bzL s.h.held), .bool s.h.over, .slice at_ s.ts.length ct, .slice ab s.bs.length cb] 32)).alloc (.cells #[.int .i64 0, .int .i64 0, .int .i64 0, .int .i64 0, .slice none 0 0, .int .i64 0, .slice none 0 0, .string ⟨#[]⟩, .bool false, .string ⟨#[]⟩, .bool false, .slice none 0 0, .slice none 0 0] 32) := ⟨_, rfl⟩
 rw [← hw0] at HR HB HQ HK
 have HW := Lib.hid hw0
 have HOm := Lib.hid (h0.1.below HB.out)
 have HOg := Lib.hid (h0.2.1.below HB.out)
 have HOt := Lib.hid (h0.2.2.1.below HB.out)
 have HOb := Lib.hid (h0.2.2.2.below HB.out)
 have HLm := Lib.hid (fun k hk => (h0.1.low k hk).2)
 have HLg := Lib.hid (fun k hk => (h0.2.1.low k hk).2)
 have HLt := Lib.hid (fun k hk => (h0.2.2.1.low k hk).2)
 have HLb := Lib.hid (fun k hk => (h0.2.2.2.low k hk).2)
 have HH0 := Lib.hid h0
 have hk0 := HK.out
 have hq0 := HQ.out
 rw [hw0] at hk0 hq0
 obtain ⟨c0, c1, c2, c3, c4, c5, c6, c7, c8, c9, c10, c11, c12⟩ := cells13 hk0
 obtain ⟨z0, z1, z2, z3, z4, z5, z6, z7, z8, z9, z10, z11, z12⟩ := cells13 hq0
 obtain ⟨f0, f1, f2, f3, f4, f5, f6, f7, f8, f9, f10, f11, f12⟩ := free13 hq0
 have hN : w.heap.size + 2 = w0.heap.size := by rw [hw0]; simp
 have HSOK := Lib.hid hs
 clear h h0 hk hq hb hk0 hq0 hi0 hz0 hz1 hz2 hw0 hs
 cases hdg : digB F.data.toList with
 | false =>
  have hqF := BK.new (w.alloc (.cells #[.int .i64 s.c.codec, .int .i64 s.c.sum, .int .i64 s.c.most, .int .i64 s.c.map, .slice am s.ms.length cm, .int .i64 (s.nx : Int), .slice ag s.gs.length cg, .string (bzL s.f.held), .bool s.f.over, .string (bzL s.h.held), .bool s.h.over, .slice at_ s.ts.length ct, .slice ab s.bs.length cb] 32)) #[.int .i64 s.c.codec, .int .i64 s.c.sum, .int .i64 s.c.most, .int .i64 s.c.map, .slice am s.ms.length cm, .int .i64 (s.nx : Int), .slice ag s.gs.length cg, .string (bzL s.f.held), .bool s.f.over, .string (bzL s.h.held), .bool s.h.over, .slice at_ s.ts.length ct, .slice ab s.bs.length cb] 32
  rw [World.size_alloc] at hqF
  have hbF := ((Below.refl w.heap.size w).alloc (Nat.le_refl _) (.cells #[.int .i64 s.c.codec, .int .i64 s.c.sum, .int .i64 s.c.most, .int .i64 s.c.map, .slice am s.ms.length cm, .int .i64 (s.nx : Int), .slice ag s.gs.length cg, .string (bzL s.f.held), .bool s.f.over, .string (bzL s.h.held), .bool s.h.over, .slice at_ s.ts.length ct, .slice ab s.bs.length cb] 32)).alloc (by simp) (.cells #[.int .i64 s.c.codec, .int .i64 s.c.sum, .int .i64 s.c.most, .int .i64 s.c.map, .slice am s.ms.length cm, .int .i64 (s.nx : Int), .slice ag s.gs.length cg, .string (bzL s.f.held), .bool s.f.over, .string (bzL s.h.held), .bool s.h.over, .slice at_ s.ts.length ct, .slice ab s.bs.length cb] 32)
  have HRF := Lib.hid (HH0.out.below hbF)
  have HQF := Lib.hid hqF
  have HBF := Lib.hid hbF
  clear hqF hbF
  have HE := Lib.hid (Ls.takeP_no (s := s) hdg)
  have HF : F.size = 0 ∨ (0 < F.size ∧ ∃ h0 : 0 < F.size, (((F[0]'h0).toNat : Int) != 48) = true ∧ (((F[0]'h0).toNat : Int) != 49) = true) := by
   by_cases h0 : F.size = 0
   ·exact .inl h0
   ·have h1 : 0 < F.size := by omega
    refine .inr ⟨h1, h1, ?_⟩
    have hb : (F[0]'h1) ≠ 48 ∧ (F[0]'h1) ≠ 49 := by
     have e : F.data.toList = (F[0]'h1) :: F.data.toList.drop 1 := by
      have := List.drop_eq_getElem_cons (l := F.data.toList) (i := 0) (by rw [size_list]; omega)
      rw [List.drop_zero] at this
      exact this
     rw [e] at hdg
     simp only [digB, Bool.or_eq_false_iff, beq_eq_false_iff_ne] at hdg
     exact hdg
    constructor
    ·rw [bne_iff_ne]; intro e; apply hb.1; apply UInt8.toNat_inj.1; show _ = 48; omega
    ·rw [bne_iff_ne]; intro e; apply hb.2; apply UInt8.toNat_inj.1; show _ = 49; omega
  clear hdg
  rcases HF with h0 | ⟨h0, h1, h2, h3⟩
  ·obtain rfl := sz0 h0
   go_enter Tryz.func82, Tryz.ntmps82
   go_wp2
   rw [HE.out]
   exact line_ret Tryz.results82 HQF.out rfl rfl ⟨_, _, _, _, rfl, HRF.out, HBF.out⟩
  ·have hemp : F.toList.isEmpty = false := by rw [emp_size]; exact decide_eq_false (by omega)
   go_enter Tryz.func82, Tryz.ntmps82
   go_wp2
   rw [HE.out]
   exact line_ret Tryz.results82 HQF.out rfl rfl ⟨_, _, _, _, rfl, HRF.out, HBF.out⟩
 | true =>
  obtain ⟨b, r2, hA, hb⟩ := dig_split hdg
  obtain ⟨h0, hb0, hsz, hx0, hx1⟩ := head_at hA
  have HTK := Lib.hid (Ls.takeP_yes (s := s) hA hb)
  have hemp : F.toList.isEmpty = false := by rw [emp_size]; exact decide_eq_false (by omega)
  have hgt : (1 : Int) ≤ (F.size : Int) := by omega
  have hFz : F.size ≤ 40 := by omega
  have hbn : (F[0].toNat : Int) = 48 ∨ (F[0].toNat : Int) = 49 := by rw [hb0]; rcases hb with rfl | rfl <;> simp
  obtain ⟨D, hD⟩ : ∃ D, F.extract 0 1 = D := ⟨_, rfl⟩
  obtain ⟨X, hX⟩ : ∃ X, F.extract 1 F.size = X := ⟨_, rfl⟩
  obtain ⟨E, hE⟩ : ∃ E : ByteArray, E = ⟨#[parB s.gs.length]⟩ := ⟨_, rfl⟩
  have HD := Lib.hid (show D = ⟨#[b]⟩ by rw [← hD]; exact hx0)
  have HX := Lib.hid (show X = bzL r2 by rw [← hX]; exact hx1)
  have HQE := Lib.hid (show (D.toList == E.toList) = decide (b = parB s.gs.length) by
   rw [HD.out, hE, Lib.toList_data, Lib.toList_data]
   by_cases h : b = parB s.gs.length <;> simp [h])
  have HE := Lib.hid hE
  have HSZ := Lib.hid hsz
  have hMS : ∀ wx : World, Mid w0 wx w.heap.size #[.int .i64 s.c.codec, .int .i64 s.c.sum, .int .i64 s.c.most, .int .i64 s.c.map, .slice am s.ms.length cm, .int .i64 (s.nx : Int), .slice ag s.gs.length cg, .string (bzL s.f.held), .bool s.f.over, .string (bzL s.h.held), .bool s.h.over, .slice at_ s.ts.length ct, .slice ab s.bs.length cb] #[.int .i64 0, .int .i64 0, .int .i64 0, .int .i64 0, .slice none 0 0, .int .i64 0, .slice none 0 0, .string ⟨#[]⟩, .bool false, .string ⟨#[]⟩, .bool false, .slice none 0 0, .slice none 0 0] → (wx.cell? ⟨w.heap.size, 0, none⟩ = some (.int .i64 s.c.codec) ∧ wx.cell? ⟨w.heap.size, 1, none⟩ = some (.int .i64 s.c.sum) ∧ wx.cell? ⟨w.heap.size, 2, none⟩ = some (.int .i64 s.c.most) ∧ wx.cell? ⟨w.heap.size, 3, none⟩ = some (.int .i64 s.c.map) ∧ wx.cell? ⟨w.heap.size, 4, none⟩ = some (.slice am s.ms.length cm) ∧ wx.cell? ⟨w.heap.size, 5, none⟩ = some (.int .i64 (s.nx : Int)) ∧ wx.cell? ⟨w.heap.size, 6, none⟩ = some (.slice ag s.gs.length cg) ∧ wx.cell? ⟨w.heap.size, 7, none⟩ = some (.string (bzL s.f.held)) ∧ wx.cell? ⟨w.heap.size, 8, none⟩ = some (.bool s.f.over) ∧ wx.cell? ⟨w.heap.size, 9, none⟩ = some (.string (bzL s.h.held)) ∧ wx.cell? ⟨w.heap.size, 10, none⟩ = some (.bool s.h.over) ∧ wx.cell? ⟨w.heap.size, 11, none⟩ = some (.slice at_ s.ts.length ct) ∧ wx.cell? ⟨w.heap.size, 12, none⟩ = some (.slice ab s.bs.length cb)) := fun wx h => ⟨h.bk.cell rfl, h.bk.cell rfl, h.bk.cell rfl, h.bk.cell rfl, h.bk.cell rfl, h.bk.cell rfl, h.bk.cell rfl, h.bk.cell rfl, h.bk.cell rfl, h.bk.cell rfl, h.bk.cell rfl, h.bk.cell rfl, h.bk.cell rfl⟩
  have HMS := Lib.hid hMS
  have HLS := Lib.hid (fun (T : ByteArray) (u : World) (hT : T.size ≤ 500) => l7Send_any s.c.codec s.c.sum s.c.most s.c.map T u HSOK.out.conf hT)
  obtain ⟨Y, hY⟩ : ∃ Y : ByteArray, Y = ⟨(sendL ⟨s.c.codec, s.c.sum, s.c.most, s.c.map⟩ D.data.toList).toArray⟩ := ⟨_, rfl⟩
  have HY := Lib.hid hY
  have HYS := Lib.hid (show Y = bzL (sendA s.c [b]) by
   have h1 : sendOk s.c [b] = true := by unfold sendOk; rw [hcf]; simp only [List.length_singleton, Bool.true_and, decide_eq_true_eq]; omega
   rw [wSendA_yes h1, hY, HD.out]
   rfl)
  have hDs : D.size = 1 := by rw [HD.out]; rfl
  have HRb := Lib.hid HR.out.2.2.2
  clear hY
  clear hA hb hb0 hx0 hx1 hE hdg hMS hsz
  by_cases hkp : b = parB s.gs.length ∧ s.gs.length < s.ms.length
  ·obtain ⟨hk1, hk2⟩ := hkp
   have hq2 : (D.toList == E.toList) = true := by rw [HQE.out]; exact decide_eq_true hk1
   have HKP := Lib.hid (Ls.kept_yes (s := s) (r := r2) ⟨hk1, hk2⟩)
   clear hk1
   rcases hbn with hbn | hbn
   all_goals
    go_enter Tryz.func82, Tryz.ntmps82
    go_wp2_with fail
    rw [← HW.out]
    have hM : Mid w0 w0.drew w.heap.size #[.int .i64 s.c.codec, .int .i64 s.c.sum, .int .i64 s.c.most, .int .i64 s.c.map, .slice am s.ms.length cm, .int .i64 (s.nx : Int), .slice ag s.gs.length cg, .string (bzL s.f.held), .bool s.f.over, .string (bzL s.h.held), .bool s.h.over, .slice at_ s.ts.length ct, .slice ab s.bs.length cb] #[.int .i64 0, .int .i64 0, .int .i64 0, .int .i64 0, .slice none 0 0, .int .i64 0, .slice none 0 0, .string ⟨#[]⟩, .bool false, .string ⟨#[]⟩, .bool false, .slice none 0 0, .slice none 0 0] := ⟨HK.out, HQ.out, (Below.refl _ _).drew⟩
    have hS := HMS.out _ hM
    clear c0 c1 c2 c3 c4 c5 c6 c7 c8 c9 c10 c11 c12 z0 z1 z2 z3 z4 z5 z6 z7 z8 z9 z10 z11 z12 f0 f1 f2 f3 f4 f5 f6 f7 f8 f9 f10 f11 f12
    refine wp_region_held_drew (S := (fun wx => wx.cell? ⟨w.heap.size, 0, none⟩ = some (.int .i64 s.c.codec) ∧ wx.cell? ⟨w.heap.size, 1, none⟩ = some (.int .i64 s.c.sum) ∧ wx.cell? ⟨w.heap.size, 2, none⟩ = some (.int .i64 s.c.most) ∧ wx.cell? ⟨w.heap.size, 3, none⟩ = some (.int .i64 s.c.map) ∧ wx.cell? ⟨w.heap.size, 4, none⟩ = some (.slice am s.ms.length cm) ∧ wx.cell? ⟨w.heap.size, 5, none⟩ = some (.int .i64 (s.nx : Int)) ∧ wx.cell? ⟨w.heap.size, 6, none⟩ = some (.slice ag s.gs.length cg) ∧ wx.cell? ⟨w.heap.size, 7, none⟩ = some (.string (bzL s.f.held)) ∧ wx.cell? ⟨w.heap.size, 8, none⟩ = some (.bool s.f.over) ∧ wx.cell? ⟨w.heap.size, 9, none⟩ = some (.string (bzL s.h.held)) ∧ wx.cell? ⟨w.heap.size, 10, none⟩ = some (.bool s.h.over) ∧ wx.cell? ⟨w.heap.size, 11, none⟩ = some (.slice at_ s.ts.length ct) ∧ wx.cell? ⟨w.heap.size, 12, none⟩ = some (.slice ab s.bs.length cb))) (by kernel_rfl) hS (fun hHeld => ?_)
    refine tkH 0 ?_ rfl (Or.inl ⟨by rfl, ?_⟩) ?_; rotate_left
    ·intro wq hSw; (try dsimp only at hSw); (try simp only [gT, gZ]); go_simp; (try with_reducible rfl)
    simp only [Act.put, gT, gZ, sT, sZ, sS]
    refine tkH 1 ?_ rfl (Or.inl ⟨by rfl, ?_⟩) ?_; rotate_left
    ·intro wq hSw; (try dsimp only at hSw); (try simp only [gT, gS, gZ]); go_simp; (try with_reducible rfl)
    simp only [Act.put, gT, gS, gZ, sT, sZ, sS]
    refine tkH 2 ?_ rfl (Or.inl ⟨by rfl, ?_⟩) ?_; rotate_left
    ·intro wq hSw; (try dsimp only at hSw); (try simp only [gT, gS, gZ]); go_simp; (try with_reducible rfl)
    simp only [Act.put, gT, gS, gZ, sT, sZ, sS]
    refine tkH 3 ?_ rfl (Or.inl ⟨by rfl, ?_⟩) ?_; rotate_left
    ·intro wq hSw; (try dsimp only at hSw); (try simp only [gT, gS, gZ]); go_simp; (try with_reducible rfl)
    simp only [Act.put, gT, gS, gZ, sT, sZ, sS]
    refine tkH 4 ?_ rfl (Or.inl ⟨by rfl, ?_⟩) ?_; rotate_left
    ·intro wq hSw; (try dsimp only at hSw); (try simp only [gT, gS, gZ]); go_simp; (try with_reducible rfl)
    simp only [Act.put, gT, gS, gZ, sT, sZ, sS]
    refine wpAnyH_ready (rs := [5]) (by kernel_rfl) (by simp) ?_
    refine AllReadyH.cons rfl (fun K hK => ?_) AllReadyH.nil
    (try simp only [gT, gS, gZ])
    go_simp
    go_at_call 83
    refine (l8Bit_any s.gs.length _ (by omega)).mono ?_
    rintro e w4 ⟨rfl, hb4⟩
    rw [← HE.out]
    have hM := hM.below hb4
    have hS := HMS.out _ hM
    clear hb4
    refine hK.out _ _ hS (fun hHeld => ?_)
    clear hK K
    refine tkH 6 ?_ rfl (Or.inl ⟨by rfl, ?_⟩) ?_; rotate_left
    ·intro wq hSw; (try dsimp only at hSw); (try simp only [gT, gS, gZ]); go_simp; (try with_reducible rfl)
    simp only [Act.put, gT, gS, gZ, sT, sZ, sS]
    refine tkH 7 ?_ rfl (Or.inl ⟨by rfl, ?_⟩) ?_; rotate_left
    ·intro wq hSw; (try dsimp only at hSw); (try simp only [gT, gS, gZ]); go_simp; (try with_reducible rfl)
    simp only [Act.put, gT, gS, gZ, sT, sZ, sS]
    refine tkH 8 ?_ rfl (Or.inl ⟨by rfl, ?_⟩) ?_; rotate_left
    ·intro wq hSw; (try dsimp only at hSw); (try simp only [gT, gS, gZ]); go_simp; (try with_reducible rfl)
    simp only [Act.put, gT, gS, gZ, sT, sZ, sS]
    refine tkH 9 ?_ rfl (Or.inl ⟨by rfl, ?_⟩) ?_; rotate_left
    ·intro wq hSw; (try dsimp only at hSw); (try simp only [gT, gS, gZ]); go_simp; (try with_reducible rfl)
    simp only [Act.put, gT, gS, gZ, sT, sZ, sS]
    refine tkH 10 ?_ rfl (Or.inl ⟨by rfl, ?_⟩) ?_; rotate_left
    ·intro wq hSw; (try dsimp only at hSw); (try simp only [gT, gS, gZ]); go_simp; (try with_reducible rfl)
    simp only [Act.put, gT, gS, gZ, sT, sZ, sS]
    refine tkH 11 ?_ rfl (Or.inl ⟨by rfl, ?_⟩) ?_; rotate_left
    ·intro wq hSw; (try dsimp only at hSw); (try simp only [gT, gS, gZ]); go_simp; (try with_reducible rfl)
    simp only [Act.put, gT, gS, gZ, sT, sZ, sS]
    refine tkH 12 ?_ rfl (Or.inl ⟨by rfl, ?_⟩) ?_; rotate_left
    ·intro wq hSw; (try dsimp only at hSw); (try simp only [gT, gS, gZ]); go_simp; (try with_reducible rfl)
    simp only [Act.put, gT, gS, gZ, sT, sZ, sS]
    refine tkH 13 ?_ rfl (Or.inl ⟨by rfl, ?_⟩) ?_; rotate_left
    ·intro wq hSw; (try dsimp only at hSw); (try simp only [gT, gS, gZ]); go_simp; (try with_reducible rfl)
    simp only [Act.put, gT, gS, gZ, sT, sZ, sS]
    refine tkH 14 ?_ rfl (Or.inl ⟨by rfl, ?_⟩) ?_; rotate_left
    ·intro wq hSw; (try dsimp only at hSw); (try simp only [gT, gS, gZ]); go_simp; (try with_reducible rfl)
    simp only [Act.put, gT, gS, gZ, sT, sZ, sS]
    refine tkH 15 ?_ rfl (Or.inl ⟨by rfl, ?_⟩) ?_; rotate_left
    ·intro wq hSw; (try dsimp only at hSw); (try simp only [gT, gS, gZ]); go_simp; (try with_reducible rfl)
    simp only [Act.put, gT, gS, gZ, sT, sZ, sS]
    refine wpAnyH_done (by kernel_rfl) ?_ _
    have HM := Lib.hid hM
    have HRg := Lib.hid HR.out.2.1
    clear hM hS hHeld
    go_wp2_with fail
    go_cut [] (fun wx => ∃ A41 C41, Mid w0 wx w.heap.size #[.int .i64 s.c.codec, .int .i64 s.c.sum, .int .i64 s.c.most, .int .i64 s.c.map, .slice am s.ms.length cm, .int .i64 (s.nx : Int), .slice A41 (s.gs.length + 1) C41, .string (bzL s.f.held), .bool s.f.over, .string (bzL s.h.held), .bool s.h.over, .slice at_ s.ts.length ct, .slice ab s.bs.length cb] #[.int .i64 0, .int .i64 0, .int .i64 0, .int .i64 0, .slice none 0 0, .int .i64 0, .slice none 0 0, .string ⟨#[]⟩, .bool false, .string ⟨#[]⟩, .bool false, .slice none 0 0, .slice none 0 0] ∧ OS wx w.heap.size (.slice A41 (s.gs.length + 1) C41) (s.gs ++ [X]))
    case first =>
     have hM := HM.out.drew
     have hln : (s.gs ++ [X]).length = s.gs.length + 1 := by simp
     have hS := trivial
     refine wp_region_held_drew (S := (fun _ => True)) (by kernel_rfl) hS (fun hHeld => ?_)
     obtain ⟨wd, hwd⟩ : ∃ wd, wd = w4.drew := ⟨_, rfl⟩
     rw [← hwd] at hM ⊢
     have hNd : w.heap.size + 2 ≤ wd.heap.size := by rw [hN]; exact hM.bl.size
     clear hwd
     refine tkH 1 ?_ rfl (Or.inl ⟨by rfl, ?_⟩) ?_; rotate_left
     ·intro wq hSw; (try dsimp only at hSw); (try simp only [gT, gS, gZ]); go_simp; (try with_reducible rfl)
     simp only [Act.put, gT, gS, gZ, sT, sZ, sS]
     refine tkH 4 ?_ rfl (Or.inl ⟨by rfl, ?_⟩) ?_; rotate_left
     ·intro wq hSw; (try dsimp only at hSw); (try simp only [gT, gS, gZ]); go_simp; (try with_reducible rfl)
     simp only [Act.put, gT, gS, gZ, sT, sZ, sS]
     refine tkH 5 ?_ rfl (Or.inl ⟨by rfl, ?_⟩) ?_; rotate_left
     ·intro wq hSw; (try dsimp only at hSw); (try simp only [gT, gS, gZ]); go_simp; (try with_reducible rfl)
     simp only [Act.put, gT, gS, gZ, sT, sZ, sS]
     refine wpAnyH_ready (rs := [0, 2, 6]) (by kernel_rfl) (by simp) ?_
     refine AllReadyH.cons rfl ?_ (AllReadyH.cons rfl ?_ (AllReadyH.cons rfl ?_ AllReadyH.nil))
     ·intro K hK
      (try simp only [gT, gZ])
      go_simp
      refine hK.out _ _ trivial (fun hHeld => ?_)
      clear hK K
      have hM := hM.below ((Below.refl _ _).alloc (Nat.le_refl _) (.cells #[] 9))
      have hO0 : OS (wd.alloc (.cells #[] 9)) w.heap.size (.slice (some ⟨wd.heap.size, 0, none⟩) 0 0) [] := OS_made wd rfl (by omega)
      obtain ⟨u1, hwu1⟩ : ∃ x, x = wd.alloc (.cells #[] 9) := ⟨_, rfl⟩
      rw [← hwu1] at hM hO0 ⊢
      have hnu1 : wd.heap.size < u1.heap.size := by rw [hwu1]; simp
      clear hwu1
      refine wpAnyH_ready (rs := [2, 6]) (by kernel_rfl) (by simp) ?_
      refine AllReadyH.cons rfl ?_ (AllReadyH.cons rfl ?_ AllReadyH.nil)
      ·intro K hK
       (try simp only [gT, gS, gZ])
       have k6 := (show u1.cell? ⟨w.heap.size, 6, none⟩ = some (.slice ag s.gs.length cg) from hM.bk.cell rfl)
       go_simp
       refine hK.out _ _ trivial (fun hHeld => ?_)
       clear hK K k6
       refine wpAnyH_ready (rs := [3, 6]) (by kernel_rfl) (by simp) ?_
       refine AllReadyH.cons rfl ?_ (AllReadyH.cons rfl ?_ AllReadyH.nil)
       ·intro K hK
        (try simp only [gT, gS, gZ])
        rw [if_pos (by rfl)]
        refine opwp_append_osn _ _ 25 rfl w.heap.size i0 Tryz.underlying25 HI.out HZ0.out HZ1.out HZ2.out _ [] rfl hO0 _ _ s.gs rfl (HRg.out.below hM.bl) (by simp; omega) (by omega) ?_
        intro v3 u3 hO3 hg3 hat3
        rw [List.nil_append] at hO3
        have hM := hM.grown hO0 hg3
        have hnu3 := hg3.size
        obtain ⟨A37, C37, hsh⟩ := hO3.reads.shape
        subst hsh
        clear hg3 hat3
        refine hK.out _ _ trivial (fun hHeld => ?_)
        clear hK K
        simp only [Act.put, sT, sZ, sS]
        refine wpAnyH_ready (rs := [6]) (by kernel_rfl) (by simp) ?_
        refine AllReadyH.cons rfl ?_ AllReadyH.nil
        intro K hK
        (try simp only [gT, gS, gZ])
        go_simp
        refine hK.out _ _ trivial (fun hHeld => ?_)
        clear hK K
        have hM := hM.below ((Below.refl _ _).alloc (Nat.le_refl _) (.cells #[.string X] 9))
        have hO6 := OS_new1 u3 X w.heap.size (by omega)
        have hO3 := hO3.alloc (.cells #[.string X] 9)
        obtain ⟨u4, hwu4⟩ : ∃ x, x = u3.alloc (.cells #[.string X] 9) := ⟨_, rfl⟩
        rw [← hwu4] at hM hO3 hO6 ⊢
        have hnu4 : u3.heap.size < u4.heap.size := by rw [hwu4]; simp
        clear hwu4
        refine wpAnyH_ready (rs := [7]) (by kernel_rfl) (by simp) ?_
        refine AllReadyH.cons rfl (fun K hK => ?_) AllReadyH.nil
        (try simp only [gT, gS, gZ])
        rw [if_pos (by rfl)]
        refine opwp_append_os _ _ 25 rfl w.heap.size i0 Tryz.underlying25 HI.out HZ0.out HZ1.out HZ2.out _ s.gs rfl hO3 _ _ [X] rfl hO6.reads (by simp; omega) (by omega) ?_
        intro u7 x7 hO7 hg7
        have hM := hM.grown hO3 hg7
        have hS := trivial
        obtain ⟨A41, C41, hsh⟩ := hO7.reads.shape
        rw [hln] at hsh
        subst hsh
        clear hg7
        refine hK.out _ _ hS (fun hHeld => ?_)
        clear hK K
        simp only [Act.put, sT, sZ, sS]
        refine tkH 8 ?_ rfl (Or.inl ⟨by rfl, ?_⟩) ?_; rotate_left
        ·intro wq hSw; (try dsimp only at hSw); (try simp only [gT, gS, gZ]); go_simp; (try with_reducible rfl)
        simp only [Act.put, gT, gS, gZ, sT, sZ, sS]
        have k6 : x7.cell? ⟨w.heap.size, 6, none⟩ = some (.slice ag s.gs.length cg) := hM.bk.cell rfl
        have f6 := hM.bk.free 6
        have hO8 := os_set hO7 (own_ne hM.bk line_str hO7) (i := 6) (.slice A41 (s.gs.length + 1) C41)
        have hM8 := hM.set (i := 6) (.slice A41 (s.gs.length + 1) C41)
        refine wpAnyH_ready (rs := [9]) (by kernel_rfl) (by simp) ?_
        refine AllReadyH.cons rfl (fun K hK => ?_) AllReadyH.nil
        (try simp only [gT, gS, gZ])
        skip
        go_simp
        skip
        refine hK.out _ _ hS (fun hHeld => ?_)
        clear hK K
        refine wpAnyH_done (by kernel_rfl) ?_ _
        go_wp2
        go_meet
        exact ⟨A41, C41, hM8, hO8⟩
       ·intro K hK
        (try simp only [gT, gS, gZ])
        go_simp
        refine hK.out _ _ trivial (fun hHeld => ?_)
        clear hK K
        have hM := hM.below ((Below.refl _ _).alloc (Nat.le_refl _) (.cells #[.string X] 9))
        have hO6 := OS_new1 u1 X w.heap.size (by omega)
        have hO0 := hO0.alloc (.cells #[.string X] 9)
        obtain ⟨u5, hwu5⟩ : ∃ x, x = u1.alloc (.cells #[.string X] 9) := ⟨_, rfl⟩
        rw [← hwu5] at hM hO0 hO6 ⊢
        have hnu5 : u1.heap.size < u5.heap.size := by rw [hwu5]; simp
        clear hwu5
        refine wpAnyH_ready (rs := [3]) (by kernel_rfl) (by simp) ?_
        refine AllReadyH.cons rfl ?_ AllReadyH.nil
        intro K hK
        (try simp only [gT, gS, gZ])
        rw [if_pos (by rfl)]
        refine opwp_append_osn _ _ 25 rfl w.heap.size i0 Tryz.underlying25 HI.out HZ0.out HZ1.out HZ2.out _ [] rfl hO0 _ _ s.gs rfl (HRg.out.below hM.bl) (by simp; omega) (by omega) ?_
        intro v3 u6 hO3 hg3 hat3
        rw [List.nil_append] at hO3
        have hM := hM.grown hO0 hg3
        have hO6 := hO6.kept hg3 (.inr (fun e => by have e2 : u1.heap.size = wd.heap.size := Option.some.inj e; omega))
        have hnu6 := hg3.size
        obtain ⟨A37, C37, hsh⟩ := hO3.reads.shape
        subst hsh
        clear hg3 hat3
        refine hK.out _ _ trivial (fun hHeld => ?_)
        clear hK K
        simp only [Act.put, sT, sZ, sS]
        refine wpAnyH_ready (rs := [7]) (by kernel_rfl) (by simp) ?_
        refine AllReadyH.cons rfl (fun K hK => ?_) AllReadyH.nil
        (try simp only [gT, gS, gZ])
        rw [if_pos (by rfl)]
        refine opwp_append_os _ _ 25 rfl w.heap.size i0 Tryz.underlying25 HI.out HZ0.out HZ1.out HZ2.out _ s.gs rfl hO3 _ _ [X] rfl hO6.reads (by simp; omega) (by omega) ?_
        intro u7 x7 hO7 hg7
        have hM := hM.grown hO3 hg7
        have hS := trivial
        obtain ⟨A41, C41, hsh⟩ := hO7.reads.shape
        rw [hln] at hsh
        subst hsh
        clear hg7
        refine hK.out _ _ hS (fun hHeld => ?_)
        clear hK K
        simp only [Act.put, sT, sZ, sS]
        refine tkH 8 ?_ rfl (Or.inl ⟨by rfl, ?_⟩) ?_; rotate_left
        ·intro wq hSw; (try dsimp only at hSw); (try simp only [gT, gS, gZ]); go_simp; (try with_reducible rfl)
        simp only [Act.put, gT, gS, gZ, sT, sZ, sS]
        have k6 : x7.cell? ⟨w.heap.size, 6, none⟩ = some (.slice ag s.gs.length cg) := hM.bk.cell rfl
        have f6 := hM.bk.free 6
        have hO8 := os_set hO7 (own_ne hM.bk line_str hO7) (i := 6) (.slice A41 (s.gs.length + 1) C41)
        have hM8 := hM.set (i := 6) (.slice A41 (s.gs.length + 1) C41)
        refine wpAnyH_ready (rs := [9]) (by kernel_rfl) (by simp) ?_
        refine AllReadyH.cons rfl (fun K hK => ?_) AllReadyH.nil
        (try simp only [gT, gS, gZ])
        skip
        go_simp
        skip
        refine hK.out _ _ hS (fun hHeld => ?_)
        clear hK K
        refine wpAnyH_done (by kernel_rfl) ?_ _
        go_wp2
        go_meet
        exact ⟨A41, C41, hM8, hO8⟩
      ·intro K hK
       (try simp only [gT, gS, gZ])
       go_simp
       refine hK.out _ _ trivial (fun hHeld => ?_)
       clear hK K
       have hM := hM.below ((Below.refl _ _).alloc (Nat.le_refl _) (.cells #[.string X] 9))
       have hO6 := OS_new1 u1 X w.heap.size (by omega)
       have hO0 := hO0.alloc (.cells #[.string X] 9)
       obtain ⟨u7, hwu7⟩ : ∃ x, x = u1.alloc (.cells #[.string X] 9) := ⟨_, rfl⟩
       rw [← hwu7] at hM hO0 hO6 ⊢
       have hnu7 : u1.heap.size < u7.heap.size := by rw [hwu7]; simp
       clear hwu7
       refine wpAnyH_ready (rs := [2]) (by kernel_rfl) (by simp) ?_
       refine AllReadyH.cons rfl ?_ AllReadyH.nil
       intro K hK
       (try simp only [gT, gS, gZ])
       have k6 := (show u7.cell? ⟨w.heap.size, 6, none⟩ = some (.slice ag s.gs.length cg) from hM.bk.cell rfl)
       go_simp
       refine hK.out _ _ trivial (fun hHeld => ?_)
       clear hK K k6
       refine wpAnyH_ready (rs := [3]) (by kernel_rfl) (by simp) ?_
       refine AllReadyH.cons rfl ?_ AllReadyH.nil
       intro K hK
       (try simp only [gT, gS, gZ])
       rw [if_pos (by rfl)]
       refine opwp_append_osn _ _ 25 rfl w.heap.size i0 Tryz.underlying25 HI.out HZ0.out HZ1.out HZ2.out _ [] rfl hO0 _ _ s.gs rfl (HRg.out.below hM.bl) (by simp; omega) (by omega) ?_
       intro v3 u9 hO3 hg3 hat3
       rw [List.nil_append] at hO3
       have hM := hM.grown hO0 hg3
       have hO6 := hO6.kept hg3 (.inr (fun e => by have e2 : u1.heap.size = wd.heap.size := Option.some.inj e; omega))
       have hnu9 := hg3.size
       obtain ⟨A37, C37, hsh⟩ := hO3.reads.shape
       subst hsh
       clear hg3 hat3
       refine hK.out _ _ trivial (fun hHeld => ?_)
       clear hK K
       simp only [Act.put, sT, sZ, sS]
       refine wpAnyH_ready (rs := [7]) (by kernel_rfl) (by simp) ?_
       refine AllReadyH.cons rfl (fun K hK => ?_) AllReadyH.nil
       (try simp only [gT, gS, gZ])
       rw [if_pos (by rfl)]
       refine opwp_append_os _ _ 25 rfl w.heap.size i0 Tryz.underlying25 HI.out HZ0.out HZ1.out HZ2.out _ s.gs rfl hO3 _ _ [X] rfl hO6.reads (by simp; omega) (by omega) ?_
       intro u7 x7 hO7 hg7
       have hM := hM.grown hO3 hg7
       have hS := trivial
       obtain ⟨A41, C41, hsh⟩ := hO7.reads.shape
       rw [hln] at hsh
       subst hsh
       clear hg7
       refine hK.out _ _ hS (fun hHeld => ?_)
       clear hK K
       simp only [Act.put, sT, sZ, sS]
       refine tkH 8 ?_ rfl (Or.inl ⟨by rfl, ?_⟩) ?_; rotate_left
       ·intro wq hSw; (try dsimp only at hSw); (try simp only [gT, gS, gZ]); go_simp; (try with_reducible rfl)
       simp only [Act.put, gT, gS, gZ, sT, sZ, sS]
       have k6 : x7.cell? ⟨w.heap.size, 6, none⟩ = some (.slice ag s.gs.length cg) := hM.bk.cell rfl
       have f6 := hM.bk.free 6
       have hO8 := os_set hO7 (own_ne hM.bk line_str hO7) (i := 6) (.slice A41 (s.gs.length + 1) C41)
       have hM8 := hM.set (i := 6) (.slice A41 (s.gs.length + 1) C41)
       refine wpAnyH_ready (rs := [9]) (by kernel_rfl) (by simp) ?_
       refine AllReadyH.cons rfl (fun K hK => ?_) AllReadyH.nil
       (try simp only [gT, gS, gZ])
       skip
       go_simp
       skip
       refine hK.out _ _ hS (fun hHeld => ?_)
       clear hK K
       refine wpAnyH_done (by kernel_rfl) ?_ _
       go_wp2
       go_meet
       exact ⟨A41, C41, hM8, hO8⟩
     ·intro K hK
      (try simp only [gT, gS, gZ])
      have k6 := (show wd.cell? ⟨w.heap.size, 6, none⟩ = some (.slice ag s.gs.length cg) from hM.bk.cell rfl)
      go_simp
      refine hK.out _ _ trivial (fun hHeld => ?_)
      clear hK K k6
      refine wpAnyH_ready (rs := [0, 6]) (by kernel_rfl) (by simp) ?_
      refine AllReadyH.cons rfl ?_ (AllReadyH.cons rfl ?_ AllReadyH.nil)
      ·intro K hK
       (try simp only [gT, gZ])
       go_simp
       refine hK.out _ _ trivial (fun hHeld => ?_)
       clear hK K
       have hM := hM.below ((Below.refl _ _).alloc (Nat.le_refl _) (.cells #[] 9))
       have hO0 : OS (wd.alloc (.cells #[] 9)) w.heap.size (.slice (some ⟨wd.heap.size, 0, none⟩) 0 0) [] := OS_made wd rfl (by omega)
       obtain ⟨u11, hwu11⟩ : ∃ x, x = wd.alloc (.cells #[] 9) := ⟨_, rfl⟩
       rw [← hwu11] at hM hO0 ⊢
       have hnu11 : wd.heap.size < u11.heap.size := by rw [hwu11]; simp
       clear hwu11
       refine wpAnyH_ready (rs := [3, 6]) (by kernel_rfl) (by simp) ?_
       refine AllReadyH.cons rfl ?_ (AllReadyH.cons rfl ?_ AllReadyH.nil)
       ·intro K hK
        (try simp only [gT, gS, gZ])
        rw [if_pos (by rfl)]
        refine opwp_append_osn _ _ 25 rfl w.heap.size i0 Tryz.underlying25 HI.out HZ0.out HZ1.out HZ2.out _ [] rfl hO0 _ _ s.gs rfl (HRg.out.below hM.bl) (by simp; omega) (by omega) ?_
        intro v3 u12 hO3 hg3 hat3
        rw [List.nil_append] at hO3
        have hM := hM.grown hO0 hg3
        have hnu12 := hg3.size
        obtain ⟨A37, C37, hsh⟩ := hO3.reads.shape
        subst hsh
        clear hg3 hat3
        refine hK.out _ _ trivial (fun hHeld => ?_)
        clear hK K
        simp only [Act.put, sT, sZ, sS]
        refine wpAnyH_ready (rs := [6]) (by kernel_rfl) (by simp) ?_
        refine AllReadyH.cons rfl ?_ AllReadyH.nil
        intro K hK
        (try simp only [gT, gS, gZ])
        go_simp
        refine hK.out _ _ trivial (fun hHeld => ?_)
        clear hK K
        have hM := hM.below ((Below.refl _ _).alloc (Nat.le_refl _) (.cells #[.string X] 9))
        have hO6 := OS_new1 u12 X w.heap.size (by omega)
        have hO3 := hO3.alloc (.cells #[.string X] 9)
        obtain ⟨u13, hwu13⟩ : ∃ x, x = u12.alloc (.cells #[.string X] 9) := ⟨_, rfl⟩
        rw [← hwu13] at hM hO3 hO6 ⊢
        have hnu13 : u12.heap.size < u13.heap.size := by rw [hwu13]; simp
        clear hwu13
        refine wpAnyH_ready (rs := [7]) (by kernel_rfl) (by simp) ?_
        refine AllReadyH.cons rfl (fun K hK => ?_) AllReadyH.nil
        (try simp only [gT, gS, gZ])
        rw [if_pos (by rfl)]
        refine opwp_append_os _ _ 25 rfl w.heap.size i0 Tryz.underlying25 HI.out HZ0.out HZ1.out HZ2.out _ s.gs rfl hO3 _ _ [X] rfl hO6.reads (by simp; omega) (by omega) ?_
        intro u7 x7 hO7 hg7
        have hM := hM.grown hO3 hg7
        have hS := trivial
        obtain ⟨A41, C41, hsh⟩ := hO7.reads.shape
        rw [hln] at hsh
        subst hsh
        clear hg7
        refine hK.out _ _ hS (fun hHeld => ?_)
        clear hK K
        simp only [Act.put, sT, sZ, sS]
        refine tkH 8 ?_ rfl (Or.inl ⟨by rfl, ?_⟩) ?_; rotate_left
        ·intro wq hSw; (try dsimp only at hSw); (try simp only [gT, gS, gZ]); go_simp; (try with_reducible rfl)
        simp only [Act.put, gT, gS, gZ, sT, sZ, sS]
        have k6 : x7.cell? ⟨w.heap.size, 6, none⟩ = some (.slice ag s.gs.length cg) := hM.bk.cell rfl
        have f6 := hM.bk.free 6
        have hO8 := os_set hO7 (own_ne hM.bk line_str hO7) (i := 6) (.slice A41 (s.gs.length + 1) C41)
        have hM8 := hM.set (i := 6) (.slice A41 (s.gs.length + 1) C41)
        refine wpAnyH_ready (rs := [9]) (by kernel_rfl) (by simp) ?_
        refine AllReadyH.cons rfl (fun K hK => ?_) AllReadyH.nil
        (try simp only [gT, gS, gZ])
        skip
        go_simp
        skip
        refine hK.out _ _ hS (fun hHeld => ?_)
        clear hK K
        refine wpAnyH_done (by kernel_rfl) ?_ _
        go_wp2
        go_meet
        exact ⟨A41, C41, hM8, hO8⟩
       ·intro K hK
        (try simp only [gT, gS, gZ])
        go_simp
        refine hK.out _ _ trivial (fun hHeld => ?_)
        clear hK K
        have hM := hM.below ((Below.refl _ _).alloc (Nat.le_refl _) (.cells #[.string X] 9))
        have hO6 := OS_new1 u11 X w.heap.size (by omega)
        have hO0 := hO0.alloc (.cells #[.string X] 9)
        obtain ⟨u14, hwu14⟩ : ∃ x, x = u11.alloc (.cells #[.string X] 9) := ⟨_, rfl⟩
        rw [← hwu14] at hM hO0 hO6 ⊢
        have hnu14 : u11.heap.size < u14.heap.size := by rw [hwu14]; simp
        clear hwu14
        refine wpAnyH_ready (rs := [3]) (by kernel_rfl) (by simp) ?_
        refine AllReadyH.cons rfl ?_ AllReadyH.nil
        intro K hK
        (try simp only [gT, gS, gZ])
        rw [if_pos (by rfl)]
        refine opwp_append_osn _ _ 25 rfl w.heap.size i0 Tryz.underlying25 HI.out HZ0.out HZ1.out HZ2.out _ [] rfl hO0 _ _ s.gs rfl (HRg.out.below hM.bl) (by simp; omega) (by omega) ?_
        intro v3 u15 hO3 hg3 hat3
        rw [List.nil_append] at hO3
        have hM := hM.grown hO0 hg3
        have hO6 := hO6.kept hg3 (.inr (fun e => by have e2 : u11.heap.size = wd.heap.size := Option.some.inj e; omega))
        have hnu15 := hg3.size
        obtain ⟨A37, C37, hsh⟩ := hO3.reads.shape
        subst hsh
        clear hg3 hat3
        refine hK.out _ _ trivial (fun hHeld => ?_)
        clear hK K
        simp only [Act.put, sT, sZ, sS]
        refine wpAnyH_ready (rs := [7]) (by kernel_rfl) (by simp) ?_
        refine AllReadyH.cons rfl (fun K hK => ?_) AllReadyH.nil
        (try simp only [gT, gS, gZ])
        rw [if_pos (by rfl)]
        refine opwp_append_os _ _ 25 rfl w.heap.size i0 Tryz.underlying25 HI.out HZ0.out HZ1.out HZ2.out _ s.gs rfl hO3 _ _ [X] rfl hO6.reads (by simp; omega) (by omega) ?_
        intro u7 x7 hO7 hg7
        have hM := hM.grown hO3 hg7
        have hS := trivial
        obtain ⟨A41, C41, hsh⟩ := hO7.reads.shape
        rw [hln] at hsh
        subst hsh
        clear hg7
        refine hK.out _ _ hS (fun hHeld => ?_)
        clear hK K
        simp only [Act.put, sT, sZ, sS]
        refine tkH 8 ?_ rfl (Or.inl ⟨by rfl, ?_⟩) ?_; rotate_left
        ·intro wq hSw; (try dsimp only at hSw); (try simp only [gT, gS, gZ]); go_simp; (try with_reducible rfl)
        simp only [Act.put, gT, gS, gZ, sT, sZ, sS]
        have k6 : x7.cell? ⟨w.heap.size, 6, none⟩ = some (.slice ag s.gs.length cg) := hM.bk.cell rfl
        have f6 := hM.bk.free 6
        have hO8 := os_set hO7 (own_ne hM.bk line_str hO7) (i := 6) (.slice A41 (s.gs.length + 1) C41)
        have hM8 := hM.set (i := 6) (.slice A41 (s.gs.length + 1) C41)
        refine wpAnyH_ready (rs := [9]) (by kernel_rfl) (by simp) ?_
        refine AllReadyH.cons rfl (fun K hK => ?_) AllReadyH.nil
        (try simp only [gT, gS, gZ])
        skip
        go_simp
        skip
        refine hK.out _ _ hS (fun hHeld => ?_)
        clear hK K
        refine wpAnyH_done (by kernel_rfl) ?_ _
        go_wp2
        go_meet
        exact ⟨A41, C41, hM8, hO8⟩
      ·intro K hK
       (try simp only [gT, gS, gZ])
       go_simp
       refine hK.out _ _ trivial (fun hHeld => ?_)
       clear hK K
       have hM := hM.below ((Below.refl _ _).alloc (Nat.le_refl _) (.cells #[.string X] 9))
       have hO6 := OS_new1 wd X w.heap.size (by omega)
       obtain ⟨u16, hwu16⟩ : ∃ x, x = wd.alloc (.cells #[.string X] 9) := ⟨_, rfl⟩
       rw [← hwu16] at hM hO6 ⊢
       have hnu16 : wd.heap.size < u16.heap.size := by rw [hwu16]; simp
       clear hwu16
       refine wpAnyH_ready (rs := [0]) (by kernel_rfl) (by simp) ?_
       refine AllReadyH.cons rfl ?_ AllReadyH.nil
       intro K hK
       (try simp only [gT, gZ])
       go_simp
       refine hK.out _ _ trivial (fun hHeld => ?_)
       clear hK K
       have hM := hM.below ((Below.refl _ _).alloc (Nat.le_refl _) (.cells #[] 9))
       have hO0 : OS (u16.alloc (.cells #[] 9)) w.heap.size (.slice (some ⟨u16.heap.size, 0, none⟩) 0 0) [] := OS_made u16 rfl (by omega)
       have hO6 := hO6.alloc (.cells #[] 9)
       obtain ⟨u17, hwu17⟩ : ∃ x, x = u16.alloc (.cells #[] 9) := ⟨_, rfl⟩
       rw [← hwu17] at hM hO0 hO6 ⊢
       have hnu17 : u16.heap.size < u17.heap.size := by rw [hwu17]; simp
       clear hwu17
       refine wpAnyH_ready (rs := [3]) (by kernel_rfl) (by simp) ?_
       refine AllReadyH.cons rfl ?_ AllReadyH.nil
       intro K hK
       (try simp only [gT, gS, gZ])
       rw [if_pos (by rfl)]
       refine opwp_append_osn _ _ 25 rfl w.heap.size i0 Tryz.underlying25 HI.out HZ0.out HZ1.out HZ2.out _ [] rfl hO0 _ _ s.gs rfl (HRg.out.below hM.bl) (by simp; omega) (by omega) ?_
       intro v3 u18 hO3 hg3 hat3
       rw [List.nil_append] at hO3
       have hM := hM.grown hO0 hg3
       have hO6 := hO6.kept hg3 (.inr (fun e => by have e2 : wd.heap.size = u16.heap.size := Option.some.inj e; omega))
       have hnu18 := hg3.size
       obtain ⟨A37, C37, hsh⟩ := hO3.reads.shape
       subst hsh
       clear hg3 hat3
       refine hK.out _ _ trivial (fun hHeld => ?_)
       clear hK K
       simp only [Act.put, sT, sZ, sS]
       refine wpAnyH_ready (rs := [7]) (by kernel_rfl) (by simp) ?_
       refine AllReadyH.cons rfl (fun K hK => ?_) AllReadyH.nil
       (try simp only [gT, gS, gZ])
       rw [if_pos (by rfl)]
       refine opwp_append_os _ _ 25 rfl w.heap.size i0 Tryz.underlying25 HI.out HZ0.out HZ1.out HZ2.out _ s.gs rfl hO3 _ _ [X] rfl hO6.reads (by simp; omega) (by omega) ?_
       intro u7 x7 hO7 hg7
       have hM := hM.grown hO3 hg7
       have hS := trivial
       obtain ⟨A41, C41, hsh⟩ := hO7.reads.shape
       rw [hln] at hsh
       subst hsh
       clear hg7
       refine hK.out _ _ hS (fun hHeld => ?_)
       clear hK K
       simp only [Act.put, sT, sZ, sS]
       refine tkH 8 ?_ rfl (Or.inl ⟨by rfl, ?_⟩) ?_; rotate_left
       ·intro wq hSw; (try dsimp only at hSw); (try simp only [gT, gS, gZ]); go_simp; (try with_reducible rfl)
       simp only [Act.put, gT, gS, gZ, sT, sZ, sS]
       have k6 : x7.cell? ⟨w.heap.size, 6, none⟩ = some (.slice ag s.gs.length cg) := hM.bk.cell rfl
       have f6 := hM.bk.free 6
       have hO8 := os_set hO7 (own_ne hM.bk line_str hO7) (i := 6) (.slice A41 (s.gs.length + 1) C41)
       have hM8 := hM.set (i := 6) (.slice A41 (s.gs.length + 1) C41)
       refine wpAnyH_ready (rs := [9]) (by kernel_rfl) (by simp) ?_
       refine AllReadyH.cons rfl (fun K hK => ?_) AllReadyH.nil
       (try simp only [gT, gS, gZ])
       skip
       go_simp
       skip
       refine hK.out _ _ hS (fun hHeld => ?_)
       clear hK K
       refine wpAnyH_done (by kernel_rfl) ?_ _
       go_wp2
       go_meet
       exact ⟨A41, C41, hM8, hO8⟩
     ·intro K hK
      (try simp only [gT, gS, gZ])
      go_simp
      refine hK.out _ _ trivial (fun hHeld => ?_)
      clear hK K
      have hM := hM.below ((Below.refl _ _).alloc (Nat.le_refl _) (.cells #[.string X] 9))
      have hO6 := OS_new1 wd X w.heap.size (by omega)
      obtain ⟨u19, hwu19⟩ : ∃ x, x = wd.alloc (.cells #[.string X] 9) := ⟨_, rfl⟩
      rw [← hwu19] at hM hO6 ⊢
      have hnu19 : wd.heap.size < u19.heap.size := by rw [hwu19]; simp
      clear hwu19
      refine wpAnyH_ready (rs := [0, 2]) (by kernel_rfl) (by simp) ?_
      refine AllReadyH.cons rfl ?_ (AllReadyH.cons rfl ?_ AllReadyH.nil)
      ·intro K hK
       (try simp only [gT, gZ])
       go_simp
       refine hK.out _ _ trivial (fun hHeld => ?_)
       clear hK K
       have hM := hM.below ((Below.refl _ _).alloc (Nat.le_refl _) (.cells #[] 9))
       have hO0 : OS (u19.alloc (.cells #[] 9)) w.heap.size (.slice (some ⟨u19.heap.size, 0, none⟩) 0 0) [] := OS_made u19 rfl (by omega)
       have hO6 := hO6.alloc (.cells #[] 9)
       obtain ⟨u20, hwu20⟩ : ∃ x, x = u19.alloc (.cells #[] 9) := ⟨_, rfl⟩
       rw [← hwu20] at hM hO0 hO6 ⊢
       have hnu20 : u19.heap.size < u20.heap.size := by rw [hwu20]; simp
       clear hwu20
       refine wpAnyH_ready (rs := [2]) (by kernel_rfl) (by simp) ?_
       refine AllReadyH.cons rfl ?_ AllReadyH.nil
       intro K hK
       (try simp only [gT, gS, gZ])
       have k6 := (show u20.cell? ⟨w.heap.size, 6, none⟩ = some (.slice ag s.gs.length cg) from hM.bk.cell rfl)
       go_simp
       refine hK.out _ _ trivial (fun hHeld => ?_)
       clear hK K k6
       refine wpAnyH_ready (rs := [3]) (by kernel_rfl) (by simp) ?_
       refine AllReadyH.cons rfl ?_ AllReadyH.nil
       intro K hK
       (try simp only [gT, gS, gZ])
       rw [if_pos (by rfl)]
       refine opwp_append_osn _ _ 25 rfl w.heap.size i0 Tryz.underlying25 HI.out HZ0.out HZ1.out HZ2.out _ [] rfl hO0 _ _ s.gs rfl (HRg.out.below hM.bl) (by simp; omega) (by omega) ?_
       intro v3 u22 hO3 hg3 hat3
       rw [List.nil_append] at hO3
       have hM := hM.grown hO0 hg3
       have hO6 := hO6.kept hg3 (.inr (fun e => by have e2 : wd.heap.size = u19.heap.size := Option.some.inj e; omega))
       have hnu22 := hg3.size
       obtain ⟨A37, C37, hsh⟩ := hO3.reads.shape
       subst hsh
       clear hg3 hat3
       refine hK.out _ _ trivial (fun hHeld => ?_)
       clear hK K
       simp only [Act.put, sT, sZ, sS]
       refine wpAnyH_ready (rs := [7]) (by kernel_rfl) (by simp) ?_
       refine AllReadyH.cons rfl (fun K hK => ?_) AllReadyH.nil
       (try simp only [gT, gS, gZ])
       rw [if_pos (by rfl)]
       refine opwp_append_os _ _ 25 rfl w.heap.size i0 Tryz.underlying25 HI.out HZ0.out HZ1.out HZ2.out _ s.gs rfl hO3 _ _ [X] rfl hO6.reads (by simp; omega) (by omega) ?_
       intro u7 x7 hO7 hg7
       have hM := hM.grown hO3 hg7
       have hS := trivial
       obtain ⟨A41, C41, hsh⟩ := hO7.reads.shape
       rw [hln] at hsh
       subst hsh
       clear hg7
       refine hK.out _ _ hS (fun hHeld => ?_)
       clear hK K
       simp only [Act.put, sT, sZ, sS]
       refine tkH 8 ?_ rfl (Or.inl ⟨by rfl, ?_⟩) ?_; rotate_left
       ·intro wq hSw; (try dsimp only at hSw); (try simp only [gT, gS, gZ]); go_simp; (try with_reducible rfl)
       simp only [Act.put, gT, gS, gZ, sT, sZ, sS]
       have k6 : x7.cell? ⟨w.heap.size, 6, none⟩ = some (.slice ag s.gs.length cg) := hM.bk.cell rfl
       have f6 := hM.bk.free 6
       have hO8 := os_set hO7 (own_ne hM.bk line_str hO7) (i := 6) (.slice A41 (s.gs.length + 1) C41)
       have hM8 := hM.set (i := 6) (.slice A41 (s.gs.length + 1) C41)
       refine wpAnyH_ready (rs := [9]) (by kernel_rfl) (by simp) ?_
       refine AllReadyH.cons rfl (fun K hK => ?_) AllReadyH.nil
       (try simp only [gT, gS, gZ])
       skip
       go_simp
       skip
       refine hK.out _ _ hS (fun hHeld => ?_)
       clear hK K
       refine wpAnyH_done (by kernel_rfl) ?_ _
       go_wp2
       go_meet
       exact ⟨A41, C41, hM8, hO8⟩
      ·intro K hK
       (try simp only [gT, gS, gZ])
       have k6 := (show u19.cell? ⟨w.heap.size, 6, none⟩ = some (.slice ag s.gs.length cg) from hM.bk.cell rfl)
       go_simp
       refine hK.out _ _ trivial (fun hHeld => ?_)
       clear hK K k6
       refine wpAnyH_ready (rs := [0]) (by kernel_rfl) (by simp) ?_
       refine AllReadyH.cons rfl ?_ AllReadyH.nil
       intro K hK
       (try simp only [gT, gZ])
       go_simp
       refine hK.out _ _ trivial (fun hHeld => ?_)
       clear hK K
       have hM := hM.below ((Below.refl _ _).alloc (Nat.le_refl _) (.cells #[] 9))
       have hO0 : OS (u19.alloc (.cells #[] 9)) w.heap.size (.slice (some ⟨u19.heap.size, 0, none⟩) 0 0) [] := OS_made u19 rfl (by omega)
       have hO6 := hO6.alloc (.cells #[] 9)
       obtain ⟨u24, hwu24⟩ : ∃ x, x = u19.alloc (.cells #[] 9) := ⟨_, rfl⟩
       rw [← hwu24] at hM hO0 hO6 ⊢
       have hnu24 : u19.heap.size < u24.heap.size := by rw [hwu24]; simp
       clear hwu24
       refine wpAnyH_ready (rs := [3]) (by kernel_rfl) (by simp) ?_
       refine AllReadyH.cons rfl ?_ AllReadyH.nil
       intro K hK
       (try simp only [gT, gS, gZ])
       rw [if_pos (by rfl)]
       refine opwp_append_osn _ _ 25 rfl w.heap.size i0 Tryz.underlying25 HI.out HZ0.out HZ1.out HZ2.out _ [] rfl hO0 _ _ s.gs rfl (HRg.out.below hM.bl) (by simp; omega) (by omega) ?_
       intro v3 u25 hO3 hg3 hat3
       rw [List.nil_append] at hO3
       have hM := hM.grown hO0 hg3
       have hO6 := hO6.kept hg3 (.inr (fun e => by have e2 : wd.heap.size = u19.heap.size := Option.some.inj e; omega))
       have hnu25 := hg3.size
       obtain ⟨A37, C37, hsh⟩ := hO3.reads.shape
       subst hsh
       clear hg3 hat3
       refine hK.out _ _ trivial (fun hHeld => ?_)
       clear hK K
       simp only [Act.put, sT, sZ, sS]
       refine wpAnyH_ready (rs := [7]) (by kernel_rfl) (by simp) ?_
       refine AllReadyH.cons rfl (fun K hK => ?_) AllReadyH.nil
       (try simp only [gT, gS, gZ])
       rw [if_pos (by rfl)]
       refine opwp_append_os _ _ 25 rfl w.heap.size i0 Tryz.underlying25 HI.out HZ0.out HZ1.out HZ2.out _ s.gs rfl hO3 _ _ [X] rfl hO6.reads (by simp; omega) (by omega) ?_
       intro u7 x7 hO7 hg7
       have hM := hM.grown hO3 hg7
       have hS := trivial
       obtain ⟨A41, C41, hsh⟩ := hO7.reads.shape
       rw [hln] at hsh
       subst hsh
       clear hg7
       refine hK.out _ _ hS (fun hHeld => ?_)
       clear hK K
       simp only [Act.put, sT, sZ, sS]
       refine tkH 8 ?_ rfl (Or.inl ⟨by rfl, ?_⟩) ?_; rotate_left
       ·intro wq hSw; (try dsimp only at hSw); (try simp only [gT, gS, gZ]); go_simp; (try with_reducible rfl)
       simp only [Act.put, gT, gS, gZ, sT, sZ, sS]
       have k6 : x7.cell? ⟨w.heap.size, 6, none⟩ = some (.slice ag s.gs.length cg) := hM.bk.cell rfl
       have f6 := hM.bk.free 6
       have hO8 := os_set hO7 (own_ne hM.bk line_str hO7) (i := 6) (.slice A41 (s.gs.length + 1) C41)
       have hM8 := hM.set (i := 6) (.slice A41 (s.gs.length + 1) C41)
       refine wpAnyH_ready (rs := [9]) (by kernel_rfl) (by simp) ?_
       refine AllReadyH.cons rfl (fun K hK => ?_) AllReadyH.nil
       (try simp only [gT, gS, gZ])
       skip
       go_simp
       skip
       refine hK.out _ _ hS (fun hHeld => ?_)
       clear hK K
       refine wpAnyH_done (by kernel_rfl) ?_ _
       go_wp2
       go_meet
       exact ⟨A41, C41, hM8, hO8⟩
    case rest =>
     obtain ⟨A41, C41, hMt, hO41⟩ := hcut
     have HMt := Lib.hid hMt
     have HO41 := Lib.hid hO41
     clear hMt hO41
     have k12 := (show wc.cell? ⟨w.heap.size, 12, none⟩ = some (.slice ab s.bs.length cb) from HMt.out.bk.cell rfl)
     by_cases h5 : s.bs.length < 5
     ·have HV := Lib.hid (show s.takeP F = { { s with gs := s.gs ++ [bzL r2] } with bs := s.bs ++ [bzL (sendA s.c [b])] } by rw [HTK.out, HKP.out]; exact Ls.told_yes h5)
      go_wp2_with fail
      go_cut [] (fun wx => ∃ A57 C57, Mid w0 wx w.heap.size #[.int .i64 s.c.codec, .int .i64 s.c.sum, .int .i64 s.c.most, .int .i64 s.c.map, .slice am s.ms.length cm, .int .i64 (s.nx : Int), .slice A41 (s.gs.length + 1) C41, .string (bzL s.f.held), .bool s.f.over, .string (bzL s.h.held), .bool s.h.over, .slice at_ s.ts.length ct, .slice A57 (s.bs.length + 1) C57] #[.int .i64 0, .int .i64 0, .int .i64 0, .int .i64 0, .slice none 0 0, .int .i64 0, .slice none 0 0, .string ⟨#[]⟩, .bool false, .string ⟨#[]⟩, .bool false, .slice none 0 0, .slice none 0 0] ∧ OS wx w.heap.size (.slice A57 (s.bs.length + 1) C57) (s.bs ++ [Y]) ∧ OS wx w.heap.size (.slice A41 (s.gs.length + 1) C41) (s.gs ++ [X]))
      case first =>
       have hM := HMt.out.drew
       have hln : (s.bs ++ [Y]).length = s.bs.length + 1 := by simp
       have hS := (show wc.drew.cell? ⟨w.heap.size, 0, none⟩ = some (.int .i64 s.c.codec) ∧ wc.drew.cell? ⟨w.heap.size, 1, none⟩ = some (.int .i64 s.c.sum) ∧ wc.drew.cell? ⟨w.heap.size, 2, none⟩ = some (.int .i64 s.c.most) ∧ wc.drew.cell? ⟨w.heap.size, 3, none⟩ = some (.int .i64 s.c.map) from ⟨hM.bk.cell rfl, hM.bk.cell rfl, hM.bk.cell rfl, hM.bk.cell rfl⟩)
       refine wp_region_held_drew (S := (fun wx => wx.cell? ⟨w.heap.size, 0, none⟩ = some (.int .i64 s.c.codec) ∧ wx.cell? ⟨w.heap.size, 1, none⟩ = some (.int .i64 s.c.sum) ∧ wx.cell? ⟨w.heap.size, 2, none⟩ = some (.int .i64 s.c.most) ∧ wx.cell? ⟨w.heap.size, 3, none⟩ = some (.int .i64 s.c.map))) (by kernel_rfl) hS (fun hHeld => ?_)
       obtain ⟨wd, hwd⟩ : ∃ wd, wd = wc.drew := ⟨_, rfl⟩
       have hO41 := (show OS wc.drew w.heap.size (.slice A41 (s.gs.length + 1) C41) (s.gs ++ [X]) from HO41.out)
       rw [← hwd] at hM hS hO41 ⊢
       have hNd : w.heap.size + 2 ≤ wd.heap.size := by rw [hN]; exact hM.bl.size
       clear hwd
       refine tkH 1 ?_ rfl (Or.inl ⟨by rfl, ?_⟩) ?_; rotate_left
       ·intro wq hSw; (try dsimp only at hSw); (try simp only [gT, gS, gZ]); go_simp; (try with_reducible rfl)
       simp only [Act.put, gT, gS, gZ, sT, sZ, sS]
       refine tkH 4 ?_ rfl (Or.inl ⟨by rfl, ?_⟩) ?_; rotate_left
       ·intro wq hSw; (try dsimp only at hSw); (try simp only [gT, gS, gZ]); go_simp; (try with_reducible rfl)
       simp only [Act.put, gT, gS, gZ, sT, sZ, sS]
       refine tkH 5 ?_ rfl (Or.inl ⟨by rfl, ?_⟩) ?_; rotate_left
       ·intro wq hSw; (try dsimp only at hSw); (try simp only [gT, gS, gZ]); go_simp; (try with_reducible rfl)
       simp only [Act.put, gT, gS, gZ, sT, sZ, sS]
       refine tkH 6 ?_ rfl (Or.inl ⟨by rfl, ?_⟩) ?_; rotate_left
       ·intro wq hSw; (try dsimp only at hSw); (try simp only [gT, gS, gZ]); go_simp; (try with_reducible rfl)
       simp only [Act.put, gT, gS, gZ, sT, sZ, sS]
       refine tkH 7 ?_ rfl (Or.inl ⟨by rfl, ?_⟩) ?_; rotate_left
       ·intro wq hSw; (try dsimp only at hSw); (try simp only [gT, gS, gZ]); go_simp; (try with_reducible rfl)
       simp only [Act.put, gT, gS, gZ, sT, sZ, sS]
       have hM7 := hM.below ((Below.refl _ _).alloc (Nat.le_refl _) (.cells #[] 9))
       have hS7 := (show (wd.alloc (.cells #[] 9)).cell? ⟨w.heap.size, 0, none⟩ = some (.int .i64 s.c.codec) ∧ (wd.alloc (.cells #[] 9)).cell? ⟨w.heap.size, 1, none⟩ = some (.int .i64 s.c.sum) ∧ (wd.alloc (.cells #[] 9)).cell? ⟨w.heap.size, 2, none⟩ = some (.int .i64 s.c.most) ∧ (wd.alloc (.cells #[] 9)).cell? ⟨w.heap.size, 3, none⟩ = some (.int .i64 s.c.map) from ⟨hM7.bk.cell rfl, hM7.bk.cell rfl, hM7.bk.cell rfl, hM7.bk.cell rfl⟩)
       have hO7 : OS (wd.alloc (.cells #[] 9)) wd.heap.size (.slice (some ⟨wd.heap.size, 0, none⟩) 0 0) [] := OS_made wd rfl (Nat.le_refl _)
       have hBd7 : Below wd.heap.size wd (wd.alloc (.cells #[] 9)) := (Below.refl _ _).alloc (Nat.le_refl _) _
       have k12a : (wd.alloc (.cells #[] 9)).cell? ⟨w.heap.size, 12, none⟩ = some (.slice ab s.bs.length cb) := hM7.bk.cell rfl
       have k12b : wd.cell? ⟨w.heap.size, 12, none⟩ = some (.slice ab s.bs.length cb) := hM.bk.cell rfl
       refine wpAnyH_ready (rs := [0, 2]) (by kernel_rfl) (by simp) ?_
       refine AllReadyH.cons rfl ?_ (AllReadyH.cons rfl ?_ AllReadyH.nil)
       ·intro K hK
        (try simp only [gT, gZ])
        go_simp
        refine hK.out _ _ hS7 (fun hHeld => ?_)
        clear hK K
        have hS := hS7
        refine wpAnyH_ready (rs := [2]) (by kernel_rfl) (by simp) ?_
        refine AllReadyH.cons rfl (fun K hK => ?_) AllReadyH.nil
        (try simp only [gT, gS, gZ])
        skip
        go_simp
        skip
        refine hK.out _ _ hS (fun hHeld => ?_)
        clear hK K
        have hM := hM7
        have hRbs := HRb.out.below hM.bl
        refine wpAnyH_ready (rs := [3]) (by kernel_rfl) (by simp) ?_
        refine AllReadyH.cons rfl (fun K hK => ?_) AllReadyH.nil
        (try simp only [gT, gS, gZ])
        rw [if_pos (by rfl)]
        refine opwp_append_os _ _ 25 rfl wd.heap.size i0 Tryz.underlying25 HI.out HZ0.out HZ1.out HZ2.out _ [] rfl hO7 _ _ s.bs rfl hRbs (by simp; omega) (by simp) ?_
        intro u x3 hown hg3
        rw [List.nil_append] at hown
        have hM := hM.grown (hO7.mono (by omega)) hg3
        have hBd := hBd7.grown hg3 (by simp) (fun k hk => (hO7.low k hk).1)
        have hS := (show x3.cell? ⟨w.heap.size, 0, none⟩ = some (.int .i64 s.c.codec) ∧ x3.cell? ⟨w.heap.size, 1, none⟩ = some (.int .i64 s.c.sum) ∧ x3.cell? ⟨w.heap.size, 2, none⟩ = some (.int .i64 s.c.most) ∧ x3.cell? ⟨w.heap.size, 3, none⟩ = some (.int .i64 s.c.map) from ⟨hM.bk.cell rfl, hM.bk.cell rfl, hM.bk.cell rfl, hM.bk.cell rfl⟩)
        obtain ⟨A50, C50, hsh⟩ := hown.reads.shape
        subst hsh
        clear hg3
        refine hK.out _ _ hS (fun hHeld => ?_)
        clear hK K
        simp only [Act.put, sT, sZ, sS]
        refine wpAnyH_ready (rs := [8]) (by kernel_rfl) (by simp) ?_
        refine AllReadyH.cons rfl (fun K hK => ?_) AllReadyH.nil
        (try simp only [gT, gS, gZ])
        go_simp
        go_at_call 84
        refine (HLS.out D _ (by omega)).mono ?_
        rintro e x4 ⟨rfl, hb4⟩
        rw [← HY.out]
        have hM := hM.below hb4
        have hown := hown.below hb4
        have hBd := hBd.trans (hb4.mono hBd.size)
        have hS := (show x4.cell? ⟨w.heap.size, 0, none⟩ = some (.int .i64 s.c.codec) ∧ x4.cell? ⟨w.heap.size, 1, none⟩ = some (.int .i64 s.c.sum) ∧ x4.cell? ⟨w.heap.size, 2, none⟩ = some (.int .i64 s.c.most) ∧ x4.cell? ⟨w.heap.size, 3, none⟩ = some (.int .i64 s.c.map) from ⟨hM.bk.cell rfl, hM.bk.cell rfl, hM.bk.cell rfl, hM.bk.cell rfl⟩)
        clear hb4
        refine hK.out _ _ hS (fun hHeld => ?_)
        clear hK K
        have hA := RS_one x4 Y
        have hM := hM.below ((Below.refl _ _).alloc (Nat.le_refl _) (.cells #[.string Y] 9))
        have hown := hown.alloc (.cells #[.string Y] 9)
        have hBd := hBd.alloc hBd.size (.cells #[.string Y] 9)
        have hS := (show (x4.alloc (.cells #[.string Y] 9)).cell? ⟨w.heap.size, 0, none⟩ = some (.int .i64 s.c.codec) ∧ (x4.alloc (.cells #[.string Y] 9)).cell? ⟨w.heap.size, 1, none⟩ = some (.int .i64 s.c.sum) ∧ (x4.alloc (.cells #[.string Y] 9)).cell? ⟨w.heap.size, 2, none⟩ = some (.int .i64 s.c.most) ∧ (x4.alloc (.cells #[.string Y] 9)).cell? ⟨w.heap.size, 3, none⟩ = some (.int .i64 s.c.map) from ⟨hM.bk.cell rfl, hM.bk.cell rfl, hM.bk.cell rfl, hM.bk.cell rfl⟩)
        refine wpAnyH_ready (rs := [9]) (by kernel_rfl) (by simp) ?_
        refine AllReadyH.cons rfl (fun K hK => ?_) AllReadyH.nil
        (try simp only [gT, gS, gZ])
        skip
        go_simp
        skip
        refine hK.out _ _ hS (fun hHeld => ?_)
        clear hK K
        refine wpAnyH_ready (rs := [10]) (by kernel_rfl) (by simp) ?_
        refine AllReadyH.cons rfl (fun K hK => ?_) AllReadyH.nil
        (try simp only [gT, gS, gZ])
        rw [if_pos (by rfl)]
        refine opwp_append_os _ _ 25 rfl wd.heap.size i0 Tryz.underlying25 HI.out HZ0.out HZ1.out HZ2.out _ s.bs rfl hown _ _ [Y] rfl hA (by simp; omega) hBd.size ?_
        intro u x5 hO5 hg5
        have hM := hM.grown (hown.mono (by omega)) hg5
        have hBd := hBd.grown hg5 hBd.size (fun k hk => (hown.low k hk).1)
        have hS := (show x5.cell? ⟨w.heap.size, 0, none⟩ = some (.int .i64 s.c.codec) ∧ x5.cell? ⟨w.heap.size, 1, none⟩ = some (.int .i64 s.c.sum) ∧ x5.cell? ⟨w.heap.size, 2, none⟩ = some (.int .i64 s.c.most) ∧ x5.cell? ⟨w.heap.size, 3, none⟩ = some (.int .i64 s.c.map) from ⟨hM.bk.cell rfl, hM.bk.cell rfl, hM.bk.cell rfl, hM.bk.cell rfl⟩)
        obtain ⟨A57, C57, hsh⟩ := hO5.reads.shape
        rw [hln] at hsh
        subst hsh
        clear hg5
        refine hK.out _ _ hS (fun hHeld => ?_)
        clear hK K
        simp only [Act.put, sT, sZ, sS]
        refine tkH 11 ?_ rfl (Or.inl ⟨by rfl, ?_⟩) ?_; rotate_left
        ·intro wq hSw; (try dsimp only at hSw); (try simp only [gT, gS, gZ]); go_simp; (try with_reducible rfl)
        simp only [Act.put, gT, gS, gZ, sT, sZ, sS]
        have k12c : x5.cell? ⟨w.heap.size, 12, none⟩ = some (.slice ab s.bs.length cb) := hM.bk.cell rfl
        have f12c := hM.bk.free 12
        have hO5 := hO5.mono (base' := w.heap.size) (by omega)
        have hO8 := os_set hO5 (own_ne hM.bk line_str hO5) (i := 12) (.slice A57 (s.bs.length + 1) C57)
        have hO41c := OS.under hO41 (fun k hk => (hO41.low k hk).2) hBd
        have hO41d := os_set hO41c (own_ne hM.bk line_str hO41c) (i := 12) (.slice A57 (s.bs.length + 1) C57)
        have hM8 := hM.set (i := 12) (.slice A57 (s.bs.length + 1) C57)
        have hS := (show (x5.setCell ⟨w.heap.size, 12, none⟩ (.slice A57 (s.bs.length + 1) C57)).cell? ⟨w.heap.size, 0, none⟩ = some (.int .i64 s.c.codec) ∧ (x5.setCell ⟨w.heap.size, 12, none⟩ (.slice A57 (s.bs.length + 1) C57)).cell? ⟨w.heap.size, 1, none⟩ = some (.int .i64 s.c.sum) ∧ (x5.setCell ⟨w.heap.size, 12, none⟩ (.slice A57 (s.bs.length + 1) C57)).cell? ⟨w.heap.size, 2, none⟩ = some (.int .i64 s.c.most) ∧ (x5.setCell ⟨w.heap.size, 12, none⟩ (.slice A57 (s.bs.length + 1) C57)).cell? ⟨w.heap.size, 3, none⟩ = some (.int .i64 s.c.map) from ⟨hM8.bk.cell rfl, hM8.bk.cell rfl, hM8.bk.cell rfl, hM8.bk.cell rfl⟩)
        refine wpAnyH_ready (rs := [12]) (by kernel_rfl) (by simp) ?_
        refine AllReadyH.cons rfl (fun K hK => ?_) AllReadyH.nil
        (try simp only [gT, gS, gZ])
        skip
        go_simp
        skip
        refine hK.out _ _ hS (fun hHeld => ?_)
        clear hK K
        refine wpAnyH_done (by kernel_rfl) ?_ _
        go_wp2
        go_meet
        exact ⟨A57, C57, hM8, hO8, hO41d⟩
       ·intro K hK
        (try simp only [gT, gS, gZ])
        go_simp
        refine hK.out _ _ hS (fun hHeld => ?_)
        clear hK K
        have hS := hS7
        refine wpAnyH_ready (rs := [0]) (by kernel_rfl) (by simp) ?_
        refine AllReadyH.cons rfl (fun K hK => ?_) AllReadyH.nil
        (try simp only [gT, gZ])
        skip
        go_simp
        skip
        refine hK.out _ _ hS (fun hHeld => ?_)
        clear hK K
        have hM := hM7
        have hRbs := HRb.out.below hM.bl
        refine wpAnyH_ready (rs := [3]) (by kernel_rfl) (by simp) ?_
        refine AllReadyH.cons rfl (fun K hK => ?_) AllReadyH.nil
        (try simp only [gT, gS, gZ])
        rw [if_pos (by rfl)]
        refine opwp_append_os _ _ 25 rfl wd.heap.size i0 Tryz.underlying25 HI.out HZ0.out HZ1.out HZ2.out _ [] rfl hO7 _ _ s.bs rfl hRbs (by simp; omega) (by simp) ?_
        intro u x3 hown hg3
        rw [List.nil_append] at hown
        have hM := hM.grown (hO7.mono (by omega)) hg3
        have hBd := hBd7.grown hg3 (by simp) (fun k hk => (hO7.low k hk).1)
        have hS := (show x3.cell? ⟨w.heap.size, 0, none⟩ = some (.int .i64 s.c.codec) ∧ x3.cell? ⟨w.heap.size, 1, none⟩ = some (.int .i64 s.c.sum) ∧ x3.cell? ⟨w.heap.size, 2, none⟩ = some (.int .i64 s.c.most) ∧ x3.cell? ⟨w.heap.size, 3, none⟩ = some (.int .i64 s.c.map) from ⟨hM.bk.cell rfl, hM.bk.cell rfl, hM.bk.cell rfl, hM.bk.cell rfl⟩)
        obtain ⟨A50, C50, hsh⟩ := hown.reads.shape
        subst hsh
        clear hg3
        refine hK.out _ _ hS (fun hHeld => ?_)
        clear hK K
        simp only [Act.put, sT, sZ, sS]
        refine wpAnyH_ready (rs := [8]) (by kernel_rfl) (by simp) ?_
        refine AllReadyH.cons rfl (fun K hK => ?_) AllReadyH.nil
        (try simp only [gT, gS, gZ])
        go_simp
        go_at_call 84
        refine (HLS.out D _ (by omega)).mono ?_
        rintro e x4 ⟨rfl, hb4⟩
        rw [← HY.out]
        have hM := hM.below hb4
        have hown := hown.below hb4
        have hBd := hBd.trans (hb4.mono hBd.size)
        have hS := (show x4.cell? ⟨w.heap.size, 0, none⟩ = some (.int .i64 s.c.codec) ∧ x4.cell? ⟨w.heap.size, 1, none⟩ = some (.int .i64 s.c.sum) ∧ x4.cell? ⟨w.heap.size, 2, none⟩ = some (.int .i64 s.c.most) ∧ x4.cell? ⟨w.heap.size, 3, none⟩ = some (.int .i64 s.c.map) from ⟨hM.bk.cell rfl, hM.bk.cell rfl, hM.bk.cell rfl, hM.bk.cell rfl⟩)
        clear hb4
        refine hK.out _ _ hS (fun hHeld => ?_)
        clear hK K
        have hA := RS_one x4 Y
        have hM := hM.below ((Below.refl _ _).alloc (Nat.le_refl _) (.cells #[.string Y] 9))
        have hown := hown.alloc (.cells #[.string Y] 9)
        have hBd := hBd.alloc hBd.size (.cells #[.string Y] 9)
        have hS := (show (x4.alloc (.cells #[.string Y] 9)).cell? ⟨w.heap.size, 0, none⟩ = some (.int .i64 s.c.codec) ∧ (x4.alloc (.cells #[.string Y] 9)).cell? ⟨w.heap.size, 1, none⟩ = some (.int .i64 s.c.sum) ∧ (x4.alloc (.cells #[.string Y] 9)).cell? ⟨w.heap.size, 2, none⟩ = some (.int .i64 s.c.most) ∧ (x4.alloc (.cells #[.string Y] 9)).cell? ⟨w.heap.size, 3, none⟩ = some (.int .i64 s.c.map) from ⟨hM.bk.cell rfl, hM.bk.cell rfl, hM.bk.cell rfl, hM.bk.cell rfl⟩)
        refine wpAnyH_ready (rs := [9]) (by kernel_rfl) (by simp) ?_
        refine AllReadyH.cons rfl (fun K hK => ?_) AllReadyH.nil
        (try simp only [gT, gS, gZ])
        skip
        go_simp
        skip
        refine hK.out _ _ hS (fun hHeld => ?_)
        clear hK K
        refine wpAnyH_ready (rs := [10]) (by kernel_rfl) (by simp) ?_
        refine AllReadyH.cons rfl (fun K hK => ?_) AllReadyH.nil
        (try simp only [gT, gS, gZ])
        rw [if_pos (by rfl)]
        refine opwp_append_os _ _ 25 rfl wd.heap.size i0 Tryz.underlying25 HI.out HZ0.out HZ1.out HZ2.out _ s.bs rfl hown _ _ [Y] rfl hA (by simp; omega) hBd.size ?_
        intro u x5 hO5 hg5
        have hM := hM.grown (hown.mono (by omega)) hg5
        have hBd := hBd.grown hg5 hBd.size (fun k hk => (hown.low k hk).1)
        have hS := (show x5.cell? ⟨w.heap.size, 0, none⟩ = some (.int .i64 s.c.codec) ∧ x5.cell? ⟨w.heap.size, 1, none⟩ = some (.int .i64 s.c.sum) ∧ x5.cell? ⟨w.heap.size, 2, none⟩ = some (.int .i64 s.c.most) ∧ x5.cell? ⟨w.heap.size, 3, none⟩ = some (.int .i64 s.c.map) from ⟨hM.bk.cell rfl, hM.bk.cell rfl, hM.bk.cell rfl, hM.bk.cell rfl⟩)
        obtain ⟨A57, C57, hsh⟩ := hO5.reads.shape
        rw [hln] at hsh
        subst hsh
        clear hg5
        refine hK.out _ _ hS (fun hHeld => ?_)
        clear hK K
        simp only [Act.put, sT, sZ, sS]
        refine tkH 11 ?_ rfl (Or.inl ⟨by rfl, ?_⟩) ?_; rotate_left
        ·intro wq hSw; (try dsimp only at hSw); (try simp only [gT, gS, gZ]); go_simp; (try with_reducible rfl)
        simp only [Act.put, gT, gS, gZ, sT, sZ, sS]
        have k12c : x5.cell? ⟨w.heap.size, 12, none⟩ = some (.slice ab s.bs.length cb) := hM.bk.cell rfl
        have f12c := hM.bk.free 12
        have hO5 := hO5.mono (base' := w.heap.size) (by omega)
        have hO8 := os_set hO5 (own_ne hM.bk line_str hO5) (i := 12) (.slice A57 (s.bs.length + 1) C57)
        have hO41c := OS.under hO41 (fun k hk => (hO41.low k hk).2) hBd
        have hO41d := os_set hO41c (own_ne hM.bk line_str hO41c) (i := 12) (.slice A57 (s.bs.length + 1) C57)
        have hM8 := hM.set (i := 12) (.slice A57 (s.bs.length + 1) C57)
        have hS := (show (x5.setCell ⟨w.heap.size, 12, none⟩ (.slice A57 (s.bs.length + 1) C57)).cell? ⟨w.heap.size, 0, none⟩ = some (.int .i64 s.c.codec) ∧ (x5.setCell ⟨w.heap.size, 12, none⟩ (.slice A57 (s.bs.length + 1) C57)).cell? ⟨w.heap.size, 1, none⟩ = some (.int .i64 s.c.sum) ∧ (x5.setCell ⟨w.heap.size, 12, none⟩ (.slice A57 (s.bs.length + 1) C57)).cell? ⟨w.heap.size, 2, none⟩ = some (.int .i64 s.c.most) ∧ (x5.setCell ⟨w.heap.size, 12, none⟩ (.slice A57 (s.bs.length + 1) C57)).cell? ⟨w.heap.size, 3, none⟩ = some (.int .i64 s.c.map) from ⟨hM8.bk.cell rfl, hM8.bk.cell rfl, hM8.bk.cell rfl, hM8.bk.cell rfl⟩)
        refine wpAnyH_ready (rs := [12]) (by kernel_rfl) (by simp) ?_
        refine AllReadyH.cons rfl (fun K hK => ?_) AllReadyH.nil
        (try simp only [gT, gS, gZ])
        skip
        go_simp
        skip
        refine hK.out _ _ hS (fun hHeld => ?_)
        clear hK K
        refine wpAnyH_done (by kernel_rfl) ?_ _
        go_wp2
        go_meet
        exact ⟨A57, C57, hM8, hO8, hO41d⟩
      case rest =>
       obtain ⟨A57, C57, hM9, hO57, hO41⟩ := hcut
       have HM9 := Lib.hid hM9
       have HYV := Lib.hid (show bzL (sendA s.c [b]) = Y from HYS.out.symm)
       have HO57 := Lib.hid (show OS _ w.heap.size (.slice A57 (s.bs.length + 1) C57) (s.bs ++ [bzL (sendA s.c [b])]) by rw [HYV.out]; exact hO57)
       have HO41 := Lib.hid (show OS _ w.heap.size (.slice A41 (s.gs.length + 1) C41) (s.gs ++ [bzL r2]) by rw [← HX.out]; exact hO41)
       clear hM9 hO57 k12 hO41
       obtain ⟨c0, c1, c2, c3, c4, c5, c6, c7, c8, c9, c10, c11, c12⟩ := cells13 HM9.out.bk
       obtain ⟨z0, z1, z2, z3, z4, z5, z6, z7, z8, z9, z10, z11, z12⟩ := cells13 HM9.out.bq
       obtain ⟨f0, f1, f2, f3, f4, f5, f6, f7, f8, f9, f10, f11, f12⟩ := free13 HM9.out.bq
       go_wp2
       have hq := set13_bk (v0 := .int .i64 s.c.codec) (v1 := .int .i64 s.c.sum) (v2 := .int .i64 s.c.most) (v3 := .int .i64 s.c.map) (v4 := .slice am s.ms.length cm) (v5 := .int .i64 (s.nx : Int)) (v6 := .slice A41 (s.gs.length + 1) C41) (v7 := .string (bzL s.f.held)) (v8 := .bool s.f.over) (v9 := .string (bzL s.h.held)) (v10 := .bool s.h.over) (v11 := .slice at_ s.ts.length ct) (v12 := .slice A57 (s.bs.length + 1) C57) HM9.out.bq rfl
       rw [HV.out]
       exact line_ret Tryz.results82 hq rfl rfl ⟨_, _, _, _, rfl, ⟨set13_own (OS.under HOm.out HLm.out HM9.out.bl) (own_ne HM9.out.bq line_str (OS.under HOm.out HLm.out HM9.out.bl)), (set13_own HO41.out (own_ne HM9.out.bq line_str HO41.out)).mono hbs, set13_own (OS.under HOt.out HLt.out HM9.out.bl) (own_ne HM9.out.bq line_str (OS.under HOt.out HLt.out HM9.out.bl)), (set13_own HO57.out (own_ne HM9.out.bq line_str HO57.out)).mono hbs⟩, set13_below (HB.out.trans HM9.out.bl) (by omega)⟩
     ·have HV := Lib.hid (show s.takeP F = { s with gs := s.gs ++ [bzL r2] } by rw [HTK.out, HKP.out]; exact Ls.told_no h5)
      have HM9 := HMt
      have HO41 := Lib.hid (show OS _ w.heap.size (.slice A41 (s.gs.length + 1) C41) (s.gs ++ [bzL r2]) by rw [← HX.out]; exact HO41.out)
      clear k12
      obtain ⟨c0, c1, c2, c3, c4, c5, c6, c7, c8, c9, c10, c11, c12⟩ := cells13 HM9.out.bk
      obtain ⟨z0, z1, z2, z3, z4, z5, z6, z7, z8, z9, z10, z11, z12⟩ := cells13 HM9.out.bq
      obtain ⟨f0, f1, f2, f3, f4, f5, f6, f7, f8, f9, f10, f11, f12⟩ := free13 HM9.out.bq
      go_wp2
      have hq := set13_bk (v0 := .int .i64 s.c.codec) (v1 := .int .i64 s.c.sum) (v2 := .int .i64 s.c.most) (v3 := .int .i64 s.c.map) (v4 := .slice am s.ms.length cm) (v5 := .int .i64 (s.nx : Int)) (v6 := .slice A41 (s.gs.length + 1) C41) (v7 := .string (bzL s.f.held)) (v8 := .bool s.f.over) (v9 := .string (bzL s.h.held)) (v10 := .bool s.h.over) (v11 := .slice at_ s.ts.length ct) (v12 := .slice ab s.bs.length cb) HM9.out.bq rfl
      rw [HV.out]
      exact line_ret Tryz.results82 hq rfl rfl ⟨_, _, _, _, rfl, ⟨set13_own (OS.under HOm.out HLm.out HM9.out.bl) (own_ne HM9.out.bq line_str (OS.under HOm.out HLm.out HM9.out.bl)), (set13_own HO41.out (own_ne HM9.out.bq line_str HO41.out)).mono hbs, set13_own (OS.under HOt.out HLt.out HM9.out.bl) (own_ne HM9.out.bq line_str (OS.under HOt.out HLt.out HM9.out.bl)), set13_own (OS.under HOb.out HLb.out HM9.out.bl) (own_ne HM9.out.bq line_str (OS.under HOb.out HLb.out HM9.out.bl))⟩, set13_below (HB.out.trans HM9.out.bl) (by omega)⟩
  ·have HKP := Lib.hid (Ls.kept_no (s := s) (r := r2) hkp)
   have hkq : (D.toList == E.toList) = false ∨ ((D.toList == E.toList) = true ∧ ¬ s.gs.length < s.ms.length) := by
    by_cases hb2 : b = parB s.gs.length
    ·exact .inr ⟨by rw [HQE.out]; exact decide_eq_true hb2, fun h => hkp ⟨hb2, h⟩⟩
    ·exact .inl (by rw [HQE.out]; exact decide_eq_false hb2)
   clear hkp
   rcases hbn with hbn | hbn
   all_goals
    go_enter Tryz.func82, Tryz.ntmps82
    go_wp2_with fail
    rw [← HW.out]
    clear c0 c1 c2 c3 c4 c5 c6 c7 c8 c9 c10 c11 c12 z0 z1 z2 z3 z4 z5 z6 z7 z8 z9 z10 z11 z12 f0 f1 f2 f3 f4 f5 f6 f7 f8 f9 f10 f11 f12
    go_cut [33] (fun s33 wx => s33 = .bool false ∧ Mid w0 wx w.heap.size #[.int .i64 s.c.codec, .int .i64 s.c.sum, .int .i64 s.c.most, .int .i64 s.c.map, .slice am s.ms.length cm, .int .i64 (s.nx : Int), .slice ag s.gs.length cg, .string (bzL s.f.held), .bool s.f.over, .string (bzL s.h.held), .bool s.h.over, .slice at_ s.ts.length ct, .slice ab s.bs.length cb] #[.int .i64 0, .int .i64 0, .int .i64 0, .int .i64 0, .slice none 0 0, .int .i64 0, .slice none 0 0, .string ⟨#[]⟩, .bool false, .string ⟨#[]⟩, .bool false, .slice none 0 0, .slice none 0 0])
    case first =>
     have hM : Mid w0 w0.drew w.heap.size #[.int .i64 s.c.codec, .int .i64 s.c.sum, .int .i64 s.c.most, .int .i64 s.c.map, .slice am s.ms.length cm, .int .i64 (s.nx : Int), .slice ag s.gs.length cg, .string (bzL s.f.held), .bool s.f.over, .string (bzL s.h.held), .bool s.h.over, .slice at_ s.ts.length ct, .slice ab s.bs.length cb] #[.int .i64 0, .int .i64 0, .int .i64 0, .int .i64 0, .slice none 0 0, .int .i64 0, .slice none 0 0, .string ⟨#[]⟩, .bool false, .string ⟨#[]⟩, .bool false, .slice none 0 0, .slice none 0 0] := ⟨HK.out, HQ.out, (Below.refl _ _).drew⟩
     have hS := HMS.out _ hM
     rcases hkq with hq2 | ⟨hq2, hk2⟩
     ·skip
      refine wp_region_held_drew (S := (fun wx => wx.cell? ⟨w.heap.size, 0, none⟩ = some (.int .i64 s.c.codec) ∧ wx.cell? ⟨w.heap.size, 1, none⟩ = some (.int .i64 s.c.sum) ∧ wx.cell? ⟨w.heap.size, 2, none⟩ = some (.int .i64 s.c.most) ∧ wx.cell? ⟨w.heap.size, 3, none⟩ = some (.int .i64 s.c.map) ∧ wx.cell? ⟨w.heap.size, 4, none⟩ = some (.slice am s.ms.length cm) ∧ wx.cell? ⟨w.heap.size, 5, none⟩ = some (.int .i64 (s.nx : Int)) ∧ wx.cell? ⟨w.heap.size, 6, none⟩ = some (.slice ag s.gs.length cg) ∧ wx.cell? ⟨w.heap.size, 7, none⟩ = some (.string (bzL s.f.held)) ∧ wx.cell? ⟨w.heap.size, 8, none⟩ = some (.bool s.f.over) ∧ wx.cell? ⟨w.heap.size, 9, none⟩ = some (.string (bzL s.h.held)) ∧ wx.cell? ⟨w.heap.size, 10, none⟩ = some (.bool s.h.over) ∧ wx.cell? ⟨w.heap.size, 11, none⟩ = some (.slice at_ s.ts.length ct) ∧ wx.cell? ⟨w.heap.size, 12, none⟩ = some (.slice ab s.bs.length cb))) (by kernel_rfl) hS (fun hHeld => ?_)
      refine tkH 0 ?_ rfl (Or.inl ⟨by rfl, ?_⟩) ?_; rotate_left
      ·intro wq hSw; (try dsimp only at hSw); (try simp only [gT, gZ]); go_simp; (try with_reducible rfl)
      simp only [Act.put, gT, gZ, sT, sZ, sS]
      refine tkH 1 ?_ rfl (Or.inl ⟨by rfl, ?_⟩) ?_; rotate_left
      ·intro wq hSw; (try dsimp only at hSw); (try simp only [gT, gS, gZ]); go_simp; (try with_reducible rfl)
      simp only [Act.put, gT, gS, gZ, sT, sZ, sS]
      refine tkH 2 ?_ rfl (Or.inl ⟨by rfl, ?_⟩) ?_; rotate_left
      ·intro wq hSw; (try dsimp only at hSw); (try simp only [gT, gS, gZ]); go_simp; (try with_reducible rfl)
      simp only [Act.put, gT, gS, gZ, sT, sZ, sS]
      refine tkH 3 ?_ rfl (Or.inl ⟨by rfl, ?_⟩) ?_; rotate_left
      ·intro wq hSw; (try dsimp only at hSw); (try simp only [gT, gS, gZ]); go_simp; (try with_reducible rfl)
      simp only [Act.put, gT, gS, gZ, sT, sZ, sS]
      refine tkH 4 ?_ rfl (Or.inl ⟨by rfl, ?_⟩) ?_; rotate_left
      ·intro wq hSw; (try dsimp only at hSw); (try simp only [gT, gS, gZ]); go_simp; (try with_reducible rfl)
      simp only [Act.put, gT, gS, gZ, sT, sZ, sS]
      refine wpAnyH_ready (rs := [5]) (by kernel_rfl) (by simp) ?_
      refine AllReadyH.cons rfl (fun K hK => ?_) AllReadyH.nil
      (try simp only [gT, gS, gZ])
      go_simp
      go_at_call 83
      refine (l8Bit_any s.gs.length _ (by omega)).mono ?_
      rintro e w4 ⟨rfl, hb4⟩
      rw [← HE.out]
      have hM := hM.below hb4
      have hS := HMS.out _ hM
      clear hb4
      refine hK.out _ _ hS (fun hHeld => ?_)
      clear hK K
      refine tkH 6 ?_ rfl (Or.inl ⟨by rfl, ?_⟩) ?_; rotate_left
      ·intro wq hSw; (try dsimp only at hSw); (try simp only [gT, gS, gZ]); go_simp; (try with_reducible rfl)
      simp only [Act.put, gT, gS, gZ, sT, sZ, sS]
      refine tkH 7 ?_ rfl (Or.inl ⟨by rfl, ?_⟩) ?_; rotate_left
      ·intro wq hSw; (try dsimp only at hSw); (try simp only [gT, gS, gZ]); go_simp; (try with_reducible rfl)
      simp only [Act.put, gT, gS, gZ, sT, sZ, sS]
      refine tkH 8 undef rfl (Or.inr ⟨by rfl, rfl⟩) ?_
      simp only [Act.put, gT, gS, gZ, sT, sZ, sS]
      refine tkH 9 undef rfl (Or.inr ⟨by rfl, rfl⟩) ?_
      simp only [Act.put, gT, gS, gZ, sT, sZ, sS]
      refine tkH 10 undef rfl (Or.inr ⟨by rfl, rfl⟩) ?_
      simp only [Act.put, gT, gS, gZ, sT, sZ, sS]
      refine tkH 11 undef rfl (Or.inr ⟨by rfl, rfl⟩) ?_
      simp only [Act.put, gT, gS, gZ, sT, sZ, sS]
      refine tkH 12 undef rfl (Or.inr ⟨by rfl, rfl⟩) ?_
      simp only [Act.put, gT, gS, gZ, sT, sZ, sS]
      refine tkH 13 undef rfl (Or.inr ⟨by rfl, rfl⟩) ?_
      simp only [Act.put, gT, gS, gZ, sT, sZ, sS]
      refine tkH 14 undef rfl (Or.inr ⟨by rfl, rfl⟩) ?_
      simp only [Act.put, gT, gS, gZ, sT, sZ, sS]
      refine tkH 15 ?_ rfl (Or.inl ⟨by rfl, ?_⟩) ?_; rotate_left
      ·intro wq hSw; (try dsimp only at hSw); (try simp only [gT, gS, gZ]); go_simp; (try with_reducible rfl)
      simp only [Act.put, gT, gS, gZ, sT, sZ, sS]
      refine wpAnyH_done (by kernel_rfl) ?_ _
      go_wp2
      go_meet
      exact ⟨rfl, hM⟩
     ·skip
      refine wp_region_held_drew (S := (fun wx => wx.cell? ⟨w.heap.size, 0, none⟩ = some (.int .i64 s.c.codec) ∧ wx.cell? ⟨w.heap.size, 1, none⟩ = some (.int .i64 s.c.sum) ∧ wx.cell? ⟨w.heap.size, 2, none⟩ = some (.int .i64 s.c.most) ∧ wx.cell? ⟨w.heap.size, 3, none⟩ = some (.int .i64 s.c.map) ∧ wx.cell? ⟨w.heap.size, 4, none⟩ = some (.slice am s.ms.length cm) ∧ wx.cell? ⟨w.heap.size, 5, none⟩ = some (.int .i64 (s.nx : Int)) ∧ wx.cell? ⟨w.heap.size, 6, none⟩ = some (.slice ag s.gs.length cg) ∧ wx.cell? ⟨w.heap.size, 7, none⟩ = some (.string (bzL s.f.held)) ∧ wx.cell? ⟨w.heap.size, 8, none⟩ = some (.bool s.f.over) ∧ wx.cell? ⟨w.heap.size, 9, none⟩ = some (.string (bzL s.h.held)) ∧ wx.cell? ⟨w.heap.size, 10, none⟩ = some (.bool s.h.over) ∧ wx.cell? ⟨w.heap.size, 11, none⟩ = some (.slice at_ s.ts.length ct) ∧ wx.cell? ⟨w.heap.size, 12, none⟩ = some (.slice ab s.bs.length cb))) (by kernel_rfl) hS (fun hHeld => ?_)
      refine tkH 0 ?_ rfl (Or.inl ⟨by rfl, ?_⟩) ?_; rotate_left
      ·intro wq hSw; (try dsimp only at hSw); (try simp only [gT, gZ]); go_simp; (try with_reducible rfl)
      simp only [Act.put, gT, gZ, sT, sZ, sS]
      refine tkH 1 ?_ rfl (Or.inl ⟨by rfl, ?_⟩) ?_; rotate_left
      ·intro wq hSw; (try dsimp only at hSw); (try simp only [gT, gS, gZ]); go_simp; (try with_reducible rfl)
      simp only [Act.put, gT, gS, gZ, sT, sZ, sS]
      refine tkH 2 ?_ rfl (Or.inl ⟨by rfl, ?_⟩) ?_; rotate_left
      ·intro wq hSw; (try dsimp only at hSw); (try simp only [gT, gS, gZ]); go_simp; (try with_reducible rfl)
      simp only [Act.put, gT, gS, gZ, sT, sZ, sS]
      refine tkH 3 ?_ rfl (Or.inl ⟨by rfl, ?_⟩) ?_; rotate_left
      ·intro wq hSw; (try dsimp only at hSw); (try simp only [gT, gS, gZ]); go_simp; (try with_reducible rfl)
      simp only [Act.put, gT, gS, gZ, sT, sZ, sS]
      refine tkH 4 ?_ rfl (Or.inl ⟨by rfl, ?_⟩) ?_; rotate_left
      ·intro wq hSw; (try dsimp only at hSw); (try simp only [gT, gS, gZ]); go_simp; (try with_reducible rfl)
      simp only [Act.put, gT, gS, gZ, sT, sZ, sS]
      refine wpAnyH_ready (rs := [5]) (by kernel_rfl) (by simp) ?_
      refine AllReadyH.cons rfl (fun K hK => ?_) AllReadyH.nil
      (try simp only [gT, gS, gZ])
      go_simp
      go_at_call 83
      refine (l8Bit_any s.gs.length _ (by omega)).mono ?_
      rintro e w4 ⟨rfl, hb4⟩
      rw [← HE.out]
      have hM := hM.below hb4
      have hS := HMS.out _ hM
      clear hb4
      refine hK.out _ _ hS (fun hHeld => ?_)
      clear hK K
      refine tkH 6 ?_ rfl (Or.inl ⟨by rfl, ?_⟩) ?_; rotate_left
      ·intro wq hSw; (try dsimp only at hSw); (try simp only [gT, gS, gZ]); go_simp; (try with_reducible rfl)
      simp only [Act.put, gT, gS, gZ, sT, sZ, sS]
      refine tkH 7 ?_ rfl (Or.inl ⟨by rfl, ?_⟩) ?_; rotate_left
      ·intro wq hSw; (try dsimp only at hSw); (try simp only [gT, gS, gZ]); go_simp; (try with_reducible rfl)
      simp only [Act.put, gT, gS, gZ, sT, sZ, sS]
      refine tkH 8 ?_ rfl (Or.inl ⟨by rfl, ?_⟩) ?_; rotate_left
      ·intro wq hSw; (try dsimp only at hSw); (try simp only [gT, gS, gZ]); go_simp; (try with_reducible rfl)
      simp only [Act.put, gT, gS, gZ, sT, sZ, sS]
      refine tkH 9 ?_ rfl (Or.inl ⟨by rfl, ?_⟩) ?_; rotate_left
      ·intro wq hSw; (try dsimp only at hSw); (try simp only [gT, gS, gZ]); go_simp; (try with_reducible rfl)
      simp only [Act.put, gT, gS, gZ, sT, sZ, sS]
      refine tkH 10 ?_ rfl (Or.inl ⟨by rfl, ?_⟩) ?_; rotate_left
      ·intro wq hSw; (try dsimp only at hSw); (try simp only [gT, gS, gZ]); go_simp; (try with_reducible rfl)
      simp only [Act.put, gT, gS, gZ, sT, sZ, sS]
      refine tkH 11 ?_ rfl (Or.inl ⟨by rfl, ?_⟩) ?_; rotate_left
      ·intro wq hSw; (try dsimp only at hSw); (try simp only [gT, gS, gZ]); go_simp; (try with_reducible rfl)
      simp only [Act.put, gT, gS, gZ, sT, sZ, sS]
      refine tkH 12 ?_ rfl (Or.inl ⟨by rfl, ?_⟩) ?_; rotate_left
      ·intro wq hSw; (try dsimp only at hSw); (try simp only [gT, gS, gZ]); go_simp; (try with_reducible rfl)
      simp only [Act.put, gT, gS, gZ, sT, sZ, sS]
      refine tkH 13 ?_ rfl (Or.inl ⟨by rfl, ?_⟩) ?_; rotate_left
      ·intro wq hSw; (try dsimp only at hSw); (try simp only [gT, gS, gZ]); go_simp; (try with_reducible rfl)
      simp only [Act.put, gT, gS, gZ, sT, sZ, sS]
      refine tkH 14 ?_ rfl (Or.inl ⟨by rfl, ?_⟩) ?_; rotate_left
      ·intro wq hSw; (try dsimp only at hSw); (try simp only [gT, gS, gZ]); go_simp; (try with_reducible rfl)
      simp only [Act.put, gT, gS, gZ, sT, sZ, sS]
      refine tkH 15 ?_ rfl (Or.inl ⟨by rfl, ?_⟩) ?_; rotate_left
      ·intro wq hSw; (try dsimp only at hSw); (try simp only [gT, gS, gZ]); go_simp; (try with_reducible rfl)
      simp only [Act.put, gT, gS, gZ, sT, sZ, sS]
      refine wpAnyH_done (by kernel_rfl) ?_ _
      go_wp2
      go_meet
      exact ⟨rfl, hM⟩
    case rest =>
     obtain ⟨h33, hMt⟩ := hcut
     subst h33
     have HMt := Lib.hid hMt
     clear hMt
     have k12 := (show wc.cell? ⟨w.heap.size, 12, none⟩ = some (.slice ab s.bs.length cb) from HMt.out.bk.cell rfl)
     by_cases h5 : s.bs.length < 5
     ·have HV := Lib.hid (show s.takeP F = { s with bs := s.bs ++ [bzL (sendA s.c [b])] } by rw [HTK.out, HKP.out]; exact Ls.told_yes h5)
      go_wp2_with fail
      go_cut [] (fun wx => ∃ A57 C57, Mid w0 wx w.heap.size #[.int .i64 s.c.codec, .int .i64 s.c.sum, .int .i64 s.c.most, .int .i64 s.c.map, .slice am s.ms.length cm, .int .i64 (s.nx : Int), .slice ag s.gs.length cg, .string (bzL s.f.held), .bool s.f.over, .string (bzL s.h.held), .bool s.h.over, .slice at_ s.ts.length ct, .slice A57 (s.bs.length + 1) C57] #[.int .i64 0, .int .i64 0, .int .i64 0, .int .i64 0, .slice none 0 0, .int .i64 0, .slice none 0 0, .string ⟨#[]⟩, .bool false, .string ⟨#[]⟩, .bool false, .slice none 0 0, .slice none 0 0] ∧ OS wx w.heap.size (.slice A57 (s.bs.length + 1) C57) (s.bs ++ [Y]))
      case first =>
       have hM := HMt.out.drew
       have hln : (s.bs ++ [Y]).length = s.bs.length + 1 := by simp
       have hS := (show wc.drew.cell? ⟨w.heap.size, 0, none⟩ = some (.int .i64 s.c.codec) ∧ wc.drew.cell? ⟨w.heap.size, 1, none⟩ = some (.int .i64 s.c.sum) ∧ wc.drew.cell? ⟨w.heap.size, 2, none⟩ = some (.int .i64 s.c.most) ∧ wc.drew.cell? ⟨w.heap.size, 3, none⟩ = some (.int .i64 s.c.map) from ⟨hM.bk.cell rfl, hM.bk.cell rfl, hM.bk.cell rfl, hM.bk.cell rfl⟩)
       refine wp_region_held_drew (S := (fun wx => wx.cell? ⟨w.heap.size, 0, none⟩ = some (.int .i64 s.c.codec) ∧ wx.cell? ⟨w.heap.size, 1, none⟩ = some (.int .i64 s.c.sum) ∧ wx.cell? ⟨w.heap.size, 2, none⟩ = some (.int .i64 s.c.most) ∧ wx.cell? ⟨w.heap.size, 3, none⟩ = some (.int .i64 s.c.map))) (by kernel_rfl) hS (fun hHeld => ?_)
       obtain ⟨wd, hwd⟩ : ∃ wd, wd = wc.drew := ⟨_, rfl⟩
       rw [← hwd] at hM hS ⊢
       have hNd : w.heap.size + 2 ≤ wd.heap.size := by rw [hN]; exact hM.bl.size
       clear hwd
       refine tkH 1 ?_ rfl (Or.inl ⟨by rfl, ?_⟩) ?_; rotate_left
       ·intro wq hSw; (try dsimp only at hSw); (try simp only [gT, gS, gZ]); go_simp; (try with_reducible rfl)
       simp only [Act.put, gT, gS, gZ, sT, sZ, sS]
       refine tkH 4 ?_ rfl (Or.inl ⟨by rfl, ?_⟩) ?_; rotate_left
       ·intro wq hSw; (try dsimp only at hSw); (try simp only [gT, gS, gZ]); go_simp; (try with_reducible rfl)
       simp only [Act.put, gT, gS, gZ, sT, sZ, sS]
       refine tkH 5 ?_ rfl (Or.inl ⟨by rfl, ?_⟩) ?_; rotate_left
       ·intro wq hSw; (try dsimp only at hSw); (try simp only [gT, gS, gZ]); go_simp; (try with_reducible rfl)
       simp only [Act.put, gT, gS, gZ, sT, sZ, sS]
       refine tkH 6 ?_ rfl (Or.inl ⟨by rfl, ?_⟩) ?_; rotate_left
       ·intro wq hSw; (try dsimp only at hSw); (try simp only [gT, gS, gZ]); go_simp; (try with_reducible rfl)
       simp only [Act.put, gT, gS, gZ, sT, sZ, sS]
       refine tkH 7 ?_ rfl (Or.inl ⟨by rfl, ?_⟩) ?_; rotate_left
       ·intro wq hSw; (try dsimp only at hSw); (try simp only [gT, gS, gZ]); go_simp; (try with_reducible rfl)
       simp only [Act.put, gT, gS, gZ, sT, sZ, sS]
       have hM7 := hM.below ((Below.refl _ _).alloc (Nat.le_refl _) (.cells #[] 9))
       have hS7 := (show (wd.alloc (.cells #[] 9)).cell? ⟨w.heap.size, 0, none⟩ = some (.int .i64 s.c.codec) ∧ (wd.alloc (.cells #[] 9)).cell? ⟨w.heap.size, 1, none⟩ = some (.int .i64 s.c.sum) ∧ (wd.alloc (.cells #[] 9)).cell? ⟨w.heap.size, 2, none⟩ = some (.int .i64 s.c.most) ∧ (wd.alloc (.cells #[] 9)).cell? ⟨w.heap.size, 3, none⟩ = some (.int .i64 s.c.map) from ⟨hM7.bk.cell rfl, hM7.bk.cell rfl, hM7.bk.cell rfl, hM7.bk.cell rfl⟩)
       have hO7 : OS (wd.alloc (.cells #[] 9)) wd.heap.size (.slice (some ⟨wd.heap.size, 0, none⟩) 0 0) [] := OS_made wd rfl (Nat.le_refl _)
       have hBd7 : Below wd.heap.size wd (wd.alloc (.cells #[] 9)) := (Below.refl _ _).alloc (Nat.le_refl _) _
       have k12a : (wd.alloc (.cells #[] 9)).cell? ⟨w.heap.size, 12, none⟩ = some (.slice ab s.bs.length cb) := hM7.bk.cell rfl
       have k12b : wd.cell? ⟨w.heap.size, 12, none⟩ = some (.slice ab s.bs.length cb) := hM.bk.cell rfl
       refine wpAnyH_ready (rs := [0, 2]) (by kernel_rfl) (by simp) ?_
       refine AllReadyH.cons rfl ?_ (AllReadyH.cons rfl ?_ AllReadyH.nil)
       ·intro K hK
        (try simp only [gT, gZ])
        go_simp
        refine hK.out _ _ hS7 (fun hHeld => ?_)
        clear hK K
        have hS := hS7
        refine wpAnyH_ready (rs := [2]) (by kernel_rfl) (by simp) ?_
        refine AllReadyH.cons rfl (fun K hK => ?_) AllReadyH.nil
        (try simp only [gT, gS, gZ])
        skip
        go_simp
        skip
        refine hK.out _ _ hS (fun hHeld => ?_)
        clear hK K
        have hM := hM7
        have hRbs := HRb.out.below hM.bl
        refine wpAnyH_ready (rs := [3]) (by kernel_rfl) (by simp) ?_
        refine AllReadyH.cons rfl (fun K hK => ?_) AllReadyH.nil
        (try simp only [gT, gS, gZ])
        rw [if_pos (by rfl)]
        refine opwp_append_os _ _ 25 rfl wd.heap.size i0 Tryz.underlying25 HI.out HZ0.out HZ1.out HZ2.out _ [] rfl hO7 _ _ s.bs rfl hRbs (by simp; omega) (by simp) ?_
        intro u x3 hown hg3
        rw [List.nil_append] at hown
        have hM := hM.grown (hO7.mono (by omega)) hg3
        have hBd := hBd7.grown hg3 (by simp) (fun k hk => (hO7.low k hk).1)
        have hS := (show x3.cell? ⟨w.heap.size, 0, none⟩ = some (.int .i64 s.c.codec) ∧ x3.cell? ⟨w.heap.size, 1, none⟩ = some (.int .i64 s.c.sum) ∧ x3.cell? ⟨w.heap.size, 2, none⟩ = some (.int .i64 s.c.most) ∧ x3.cell? ⟨w.heap.size, 3, none⟩ = some (.int .i64 s.c.map) from ⟨hM.bk.cell rfl, hM.bk.cell rfl, hM.bk.cell rfl, hM.bk.cell rfl⟩)
        obtain ⟨A50, C50, hsh⟩ := hown.reads.shape
        subst hsh
        clear hg3
        refine hK.out _ _ hS (fun hHeld => ?_)
        clear hK K
        simp only [Act.put, sT, sZ, sS]
        refine wpAnyH_ready (rs := [8]) (by kernel_rfl) (by simp) ?_
        refine AllReadyH.cons rfl (fun K hK => ?_) AllReadyH.nil
        (try simp only [gT, gS, gZ])
        go_simp
        go_at_call 84
        refine (HLS.out D _ (by omega)).mono ?_
        rintro e x4 ⟨rfl, hb4⟩
        rw [← HY.out]
        have hM := hM.below hb4
        have hown := hown.below hb4
        have hBd := hBd.trans (hb4.mono hBd.size)
        have hS := (show x4.cell? ⟨w.heap.size, 0, none⟩ = some (.int .i64 s.c.codec) ∧ x4.cell? ⟨w.heap.size, 1, none⟩ = some (.int .i64 s.c.sum) ∧ x4.cell? ⟨w.heap.size, 2, none⟩ = some (.int .i64 s.c.most) ∧ x4.cell? ⟨w.heap.size, 3, none⟩ = some (.int .i64 s.c.map) from ⟨hM.bk.cell rfl, hM.bk.cell rfl, hM.bk.cell rfl, hM.bk.cell rfl⟩)
        clear hb4
        refine hK.out _ _ hS (fun hHeld => ?_)
        clear hK K
        have hA := RS_one x4 Y
        have hM := hM.below ((Below.refl _ _).alloc (Nat.le_refl _) (.cells #[.string Y] 9))
        have hown := hown.alloc (.cells #[.string Y] 9)
        have hBd := hBd.alloc hBd.size (.cells #[.string Y] 9)
        have hS := (show (x4.alloc (.cells #[.string Y] 9)).cell? ⟨w.heap.size, 0, none⟩ = some (.int .i64 s.c.codec) ∧ (x4.alloc (.cells #[.string Y] 9)).cell? ⟨w.heap.size, 1, none⟩ = some (.int .i64 s.c.sum) ∧ (x4.alloc (.cells #[.string Y] 9)).cell? ⟨w.heap.size, 2, none⟩ = some (.int .i64 s.c.most) ∧ (x4.alloc (.cells #[.string Y] 9)).cell? ⟨w.heap.size, 3, none⟩ = some (.int .i64 s.c.map) from ⟨hM.bk.cell rfl, hM.bk.cell rfl, hM.bk.cell rfl, hM.bk.cell rfl⟩)
        refine wpAnyH_ready (rs := [9]) (by kernel_rfl) (by simp) ?_
        refine AllReadyH.cons rfl (fun K hK => ?_) AllReadyH.nil
        (try simp only [gT, gS, gZ])
        skip
        go_simp
        skip
        refine hK.out _ _ hS (fun hHeld => ?_)
        clear hK K
        refine wpAnyH_ready (rs := [10]) (by kernel_rfl) (by simp) ?_
        refine AllReadyH.cons rfl (fun K hK => ?_) AllReadyH.nil
        (try simp only [gT, gS, gZ])
        rw [if_pos (by rfl)]
        refine opwp_append_os _ _ 25 rfl wd.heap.size i0 Tryz.underlying25 HI.out HZ0.out HZ1.out HZ2.out _ s.bs rfl hown _ _ [Y] rfl hA (by simp; omega) hBd.size ?_
        intro u x5 hO5 hg5
        have hM := hM.grown (hown.mono (by omega)) hg5
        have hBd := hBd.grown hg5 hBd.size (fun k hk => (hown.low k hk).1)
        have hS := (show x5.cell? ⟨w.heap.size, 0, none⟩ = some (.int .i64 s.c.codec) ∧ x5.cell? ⟨w.heap.size, 1, none⟩ = some (.int .i64 s.c.sum) ∧ x5.cell? ⟨w.heap.size, 2, none⟩ = some (.int .i64 s.c.most) ∧ x5.cell? ⟨w.heap.size, 3, none⟩ = some (.int .i64 s.c.map) from ⟨hM.bk.cell rfl, hM.bk.cell rfl, hM.bk.cell rfl, hM.bk.cell rfl⟩)
        obtain ⟨A57, C57, hsh⟩ := hO5.reads.shape
        rw [hln] at hsh
        subst hsh
        clear hg5
        refine hK.out _ _ hS (fun hHeld => ?_)
        clear hK K
        simp only [Act.put, sT, sZ, sS]
        refine tkH 11 ?_ rfl (Or.inl ⟨by rfl, ?_⟩) ?_; rotate_left
        ·intro wq hSw; (try dsimp only at hSw); (try simp only [gT, gS, gZ]); go_simp; (try with_reducible rfl)
        simp only [Act.put, gT, gS, gZ, sT, sZ, sS]
        have k12c : x5.cell? ⟨w.heap.size, 12, none⟩ = some (.slice ab s.bs.length cb) := hM.bk.cell rfl
        have f12c := hM.bk.free 12
        have hO5 := hO5.mono (base' := w.heap.size) (by omega)
        have hO8 := os_set hO5 (own_ne hM.bk line_str hO5) (i := 12) (.slice A57 (s.bs.length + 1) C57)
        have hM8 := hM.set (i := 12) (.slice A57 (s.bs.length + 1) C57)
        have hS := (show (x5.setCell ⟨w.heap.size, 12, none⟩ (.slice A57 (s.bs.length + 1) C57)).cell? ⟨w.heap.size, 0, none⟩ = some (.int .i64 s.c.codec) ∧ (x5.setCell ⟨w.heap.size, 12, none⟩ (.slice A57 (s.bs.length + 1) C57)).cell? ⟨w.heap.size, 1, none⟩ = some (.int .i64 s.c.sum) ∧ (x5.setCell ⟨w.heap.size, 12, none⟩ (.slice A57 (s.bs.length + 1) C57)).cell? ⟨w.heap.size, 2, none⟩ = some (.int .i64 s.c.most) ∧ (x5.setCell ⟨w.heap.size, 12, none⟩ (.slice A57 (s.bs.length + 1) C57)).cell? ⟨w.heap.size, 3, none⟩ = some (.int .i64 s.c.map) from ⟨hM8.bk.cell rfl, hM8.bk.cell rfl, hM8.bk.cell rfl, hM8.bk.cell rfl⟩)
        refine wpAnyH_ready (rs := [12]) (by kernel_rfl) (by simp) ?_
        refine AllReadyH.cons rfl (fun K hK => ?_) AllReadyH.nil
        (try simp only [gT, gS, gZ])
        skip
        go_simp
        skip
        refine hK.out _ _ hS (fun hHeld => ?_)
        clear hK K
        refine wpAnyH_done (by kernel_rfl) ?_ _
        go_wp2
        go_meet
        exact ⟨A57, C57, hM8, hO8⟩
       ·intro K hK
        (try simp only [gT, gS, gZ])
        go_simp
        refine hK.out _ _ hS (fun hHeld => ?_)
        clear hK K
        have hS := hS7
        refine wpAnyH_ready (rs := [0]) (by kernel_rfl) (by simp) ?_
        refine AllReadyH.cons rfl (fun K hK => ?_) AllReadyH.nil
        (try simp only [gT, gZ])
        skip
        go_simp
        skip
        refine hK.out _ _ hS (fun hHeld => ?_)
        clear hK K
        have hM := hM7
        have hRbs := HRb.out.below hM.bl
        refine wpAnyH_ready (rs := [3]) (by kernel_rfl) (by simp) ?_
        refine AllReadyH.cons rfl (fun K hK => ?_) AllReadyH.nil
        (try simp only [gT, gS, gZ])
        rw [if_pos (by rfl)]
        refine opwp_append_os _ _ 25 rfl wd.heap.size i0 Tryz.underlying25 HI.out HZ0.out HZ1.out HZ2.out _ [] rfl hO7 _ _ s.bs rfl hRbs (by simp; omega) (by simp) ?_
        intro u x3 hown hg3
        rw [List.nil_append] at hown
        have hM := hM.grown (hO7.mono (by omega)) hg3
        have hBd := hBd7.grown hg3 (by simp) (fun k hk => (hO7.low k hk).1)
        have hS := (show x3.cell? ⟨w.heap.size, 0, none⟩ = some (.int .i64 s.c.codec) ∧ x3.cell? ⟨w.heap.size, 1, none⟩ = some (.int .i64 s.c.sum) ∧ x3.cell? ⟨w.heap.size, 2, none⟩ = some (.int .i64 s.c.most) ∧ x3.cell? ⟨w.heap.size, 3, none⟩ = some (.int .i64 s.c.map) from ⟨hM.bk.cell rfl, hM.bk.cell rfl, hM.bk.cell rfl, hM.bk.cell rfl⟩)
        obtain ⟨A50, C50, hsh⟩ := hown.reads.shape
        subst hsh
        clear hg3
        refine hK.out _ _ hS (fun hHeld => ?_)
        clear hK K
        simp only [Act.put, sT, sZ, sS]
        refine wpAnyH_ready (rs := [8]) (by kernel_rfl) (by simp) ?_
        refine AllReadyH.cons rfl (fun K hK => ?_) AllReadyH.nil
        (try simp only [gT, gS, gZ])
        go_simp
        go_at_call 84
        refine (HLS.out D _ (by omega)).mono ?_
        rintro e x4 ⟨rfl, hb4⟩
        rw [← HY.out]
        have hM := hM.below hb4
        have hown := hown.below hb4
        have hBd := hBd.trans (hb4.mono hBd.size)
        have hS := (show x4.cell? ⟨w.heap.size, 0, none⟩ = some (.int .i64 s.c.codec) ∧ x4.cell? ⟨w.heap.size, 1, none⟩ = some (.int .i64 s.c.sum) ∧ x4.cell? ⟨w.heap.size, 2, none⟩ = some (.int .i64 s.c.most) ∧ x4.cell? ⟨w.heap.size, 3, none⟩ = some (.int .i64 s.c.map) from ⟨hM.bk.cell rfl, hM.bk.cell rfl, hM.bk.cell rfl, hM.bk.cell rfl⟩)
        clear hb4
        refine hK.out _ _ hS (fun hHeld => ?_)
        clear hK K
        have hA := RS_one x4 Y
        have hM := hM.below ((Below.refl _ _).alloc (Nat.le_refl _) (.cells #[.string Y] 9))
        have hown := hown.alloc (.cells #[.string Y] 9)
        have hBd := hBd.alloc hBd.size (.cells #[.string Y] 9)
        have hS := (show (x4.alloc (.cells #[.string Y] 9)).cell? ⟨w.heap.size, 0, none⟩ = some (.int .i64 s.c.codec) ∧ (x4.alloc (.cells #[.string Y] 9)).cell? ⟨w.heap.size, 1, none⟩ = some (.int .i64 s.c.sum) ∧ (x4.alloc (.cells #[.string Y] 9)).cell? ⟨w.heap.size, 2, none⟩ = some (.int .i64 s.c.most) ∧ (x4.alloc (.cells #[.string Y] 9)).cell? ⟨w.heap.size, 3, none⟩ = some (.int .i64 s.c.map) from ⟨hM.bk.cell rfl, hM.bk.cell rfl, hM.bk.cell rfl, hM.bk.cell rfl⟩)
        refine wpAnyH_ready (rs := [9]) (by kernel_rfl) (by simp) ?_
        refine AllReadyH.cons rfl (fun K hK => ?_) AllReadyH.nil
        (try simp only [gT, gS, gZ])
        skip
        go_simp
        skip
        refine hK.out _ _ hS (fun hHeld => ?_)
        clear hK K
        refine wpAnyH_ready (rs := [10]) (by kernel_rfl) (by simp) ?_
        refine AllReadyH.cons rfl (fun K hK => ?_) AllReadyH.nil
        (try simp only [gT, gS, gZ])
        rw [if_pos (by rfl)]
        refine opwp_append_os _ _ 25 rfl wd.heap.size i0 Tryz.underlying25 HI.out HZ0.out HZ1.out HZ2.out _ s.bs rfl hown _ _ [Y] rfl hA (by simp; omega) hBd.size ?_
        intro u x5 hO5 hg5
        have hM := hM.grown (hown.mono (by omega)) hg5
        have hBd := hBd.grown hg5 hBd.size (fun k hk => (hown.low k hk).1)
        have hS := (show x5.cell? ⟨w.heap.size, 0, none⟩ = some (.int .i64 s.c.codec) ∧ x5.cell? ⟨w.heap.size, 1, none⟩ = some (.int .i64 s.c.sum) ∧ x5.cell? ⟨w.heap.size, 2, none⟩ = some (.int .i64 s.c.most) ∧ x5.cell? ⟨w.heap.size, 3, none⟩ = some (.int .i64 s.c.map) from ⟨hM.bk.cell rfl, hM.bk.cell rfl, hM.bk.cell rfl, hM.bk.cell rfl⟩)
        obtain ⟨A57, C57, hsh⟩ := hO5.reads.shape
        rw [hln] at hsh
        subst hsh
        clear hg5
        refine hK.out _ _ hS (fun hHeld => ?_)
        clear hK K
        simp only [Act.put, sT, sZ, sS]
        refine tkH 11 ?_ rfl (Or.inl ⟨by rfl, ?_⟩) ?_; rotate_left
        ·intro wq hSw; (try dsimp only at hSw); (try simp only [gT, gS, gZ]); go_simp; (try with_reducible rfl)
        simp only [Act.put, gT, gS, gZ, sT, sZ, sS]
        have k12c : x5.cell? ⟨w.heap.size, 12, none⟩ = some (.slice ab s.bs.length cb) := hM.bk.cell rfl
        have f12c := hM.bk.free 12
        have hO5 := hO5.mono (base' := w.heap.size) (by omega)
        have hO8 := os_set hO5 (own_ne hM.bk line_str hO5) (i := 12) (.slice A57 (s.bs.length + 1) C57)
        have hM8 := hM.set (i := 12) (.slice A57 (s.bs.length + 1) C57)
        have hS := (show (x5.setCell ⟨w.heap.size, 12, none⟩ (.slice A57 (s.bs.length + 1) C57)).cell? ⟨w.heap.size, 0, none⟩ = some (.int .i64 s.c.codec) ∧ (x5.setCell ⟨w.heap.size, 12, none⟩ (.slice A57 (s.bs.length + 1) C57)).cell? ⟨w.heap.size, 1, none⟩ = some (.int .i64 s.c.sum) ∧ (x5.setCell ⟨w.heap.size, 12, none⟩ (.slice A57 (s.bs.length + 1) C57)).cell? ⟨w.heap.size, 2, none⟩ = some (.int .i64 s.c.most) ∧ (x5.setCell ⟨w.heap.size, 12, none⟩ (.slice A57 (s.bs.length + 1) C57)).cell? ⟨w.heap.size, 3, none⟩ = some (.int .i64 s.c.map) from ⟨hM8.bk.cell rfl, hM8.bk.cell rfl, hM8.bk.cell rfl, hM8.bk.cell rfl⟩)
        refine wpAnyH_ready (rs := [12]) (by kernel_rfl) (by simp) ?_
        refine AllReadyH.cons rfl (fun K hK => ?_) AllReadyH.nil
        (try simp only [gT, gS, gZ])
        skip
        go_simp
        skip
        refine hK.out _ _ hS (fun hHeld => ?_)
        clear hK K
        refine wpAnyH_done (by kernel_rfl) ?_ _
        go_wp2
        go_meet
        exact ⟨A57, C57, hM8, hO8⟩
      case rest =>
       obtain ⟨A57, C57, hM9, hO57⟩ := hcut
       have HM9 := Lib.hid hM9
       have HYV := Lib.hid (show bzL (sendA s.c [b]) = Y from HYS.out.symm)
       have HO57 := Lib.hid (show OS _ w.heap.size (.slice A57 (s.bs.length + 1) C57) (s.bs ++ [bzL (sendA s.c [b])]) by rw [HYV.out]; exact hO57)
       clear hM9 hO57 k12
       obtain ⟨c0, c1, c2, c3, c4, c5, c6, c7, c8, c9, c10, c11, c12⟩ := cells13 HM9.out.bk
       obtain ⟨z0, z1, z2, z3, z4, z5, z6, z7, z8, z9, z10, z11, z12⟩ := cells13 HM9.out.bq
       obtain ⟨f0, f1, f2, f3, f4, f5, f6, f7, f8, f9, f10, f11, f12⟩ := free13 HM9.out.bq
       go_wp2
       have hq := set13_bk (v0 := .int .i64 s.c.codec) (v1 := .int .i64 s.c.sum) (v2 := .int .i64 s.c.most) (v3 := .int .i64 s.c.map) (v4 := .slice am s.ms.length cm) (v5 := .int .i64 (s.nx : Int)) (v6 := .slice ag s.gs.length cg) (v7 := .string (bzL s.f.held)) (v8 := .bool s.f.over) (v9 := .string (bzL s.h.held)) (v10 := .bool s.h.over) (v11 := .slice at_ s.ts.length ct) (v12 := .slice A57 (s.bs.length + 1) C57) HM9.out.bq rfl
       rw [HV.out]
       exact line_ret Tryz.results82 hq rfl rfl ⟨_, _, _, _, rfl, ⟨set13_own (OS.under HOm.out HLm.out HM9.out.bl) (own_ne HM9.out.bq line_str (OS.under HOm.out HLm.out HM9.out.bl)), set13_own (OS.under HOg.out HLg.out HM9.out.bl) (own_ne HM9.out.bq line_str (OS.under HOg.out HLg.out HM9.out.bl)), set13_own (OS.under HOt.out HLt.out HM9.out.bl) (own_ne HM9.out.bq line_str (OS.under HOt.out HLt.out HM9.out.bl)), (set13_own HO57.out (own_ne HM9.out.bq line_str HO57.out)).mono hbs⟩, set13_below (HB.out.trans HM9.out.bl) (by omega)⟩
     ·have HV := Lib.hid (show s.takeP F = s by rw [HTK.out, HKP.out]; exact Ls.told_no h5)
      have HM9 := HMt
      clear k12
      obtain ⟨c0, c1, c2, c3, c4, c5, c6, c7, c8, c9, c10, c11, c12⟩ := cells13 HM9.out.bk
      obtain ⟨z0, z1, z2, z3, z4, z5, z6, z7, z8, z9, z10, z11, z12⟩ := cells13 HM9.out.bq
      obtain ⟨f0, f1, f2, f3, f4, f5, f6, f7, f8, f9, f10, f11, f12⟩ := free13 HM9.out.bq
      go_wp2
      have hq := set13_bk (v0 := .int .i64 s.c.codec) (v1 := .int .i64 s.c.sum) (v2 := .int .i64 s.c.most) (v3 := .int .i64 s.c.map) (v4 := .slice am s.ms.length cm) (v5 := .int .i64 (s.nx : Int)) (v6 := .slice ag s.gs.length cg) (v7 := .string (bzL s.f.held)) (v8 := .bool s.f.over) (v9 := .string (bzL s.h.held)) (v10 := .bool s.h.over) (v11 := .slice at_ s.ts.length ct) (v12 := .slice ab s.bs.length cb) HM9.out.bq rfl
      rw [HV.out]
      exact line_ret Tryz.results82 hq rfl rfl ⟨_, _, _, _, rfl, ⟨set13_own (OS.under HOm.out HLm.out HM9.out.bl) (own_ne HM9.out.bq line_str (OS.under HOm.out HLm.out HM9.out.bl)), set13_own (OS.under HOg.out HLg.out HM9.out.bl) (own_ne HM9.out.bq line_str (OS.under HOg.out HLg.out HM9.out.bl)), set13_own (OS.under HOt.out HLt.out HM9.out.bl) (own_ne HM9.out.bq line_str (OS.under HOt.out HLt.out HM9.out.bl)), set13_own (OS.under HOb.out HLb.out HM9.out.bl) (own_ne HM9.out.bq line_str (OS.under HOb.out HLb.out HM9.out.bl))⟩, set13_below (HB.out.trans HM9.out.bl) (by omega)⟩
end Go.Proofs.YtmggoiabcboaiaaGreat
