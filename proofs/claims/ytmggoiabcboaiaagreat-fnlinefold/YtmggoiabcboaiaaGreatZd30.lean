/- Parts of a proof, 30: LkZ Rg DrawConf DrawMsgs. -/
import Derived.Deep.DeepCutAuto
import Derived.Test.YtmggoiabcboaiaaGreatZd1
import Derived.Test.YtmggoiabcboaiaaGreatZd2
import Derived.Test.YtmggoiabcboaiaaGreatZd3
import Derived.Test.YtmggoiabcboaiaaGreatZd4
import Derived.Test.YtmggoiabcboaiaaGreatZd5
import Derived.Test.YtmggoiabcboaiaaGreatZd6
import Derived.Test.YtmggoiabcboaiaaGreatZd7
import Derived.Test.YtmggoiabcboaiaaGreatZd8
import Derived.Test.YtmggoiabcboaiaaGreatZd9
import Derived.Test.YtmggoiabcboaiaaGreatZd10
import Derived.Test.YtmggoiabcboaiaaGreatZd11
import Derived.Test.YtmggoiabcboaiaaGreatZd12
import Derived.Test.YtmggoiabcboaiaaGreatZd13
import Derived.Test.YtmggoiabcboaiaaGreatZd14
import Derived.Test.YtmggoiabcboaiaaGreatZd15
import Derived.Test.YtmggoiabcboaiaaGreatZd16
import Derived.Test.YtmggoiabcboaiaaGreatZd17
import Derived.Test.YtmggoiabcboaiaaGreatZd18
import Derived.Test.YtmggoiabcboaiaaGreatZd19
import Derived.Test.YtmggoiabcboaiaaGreatZd20
import Derived.Test.YtmggoiabcboaiaaGreatZd21
import Derived.Test.YtmggoiabcboaiaaGreatZd22
import Derived.Test.YtmggoiabcboaiaaGreatZd23
import Derived.Test.YtmggoiabcboaiaaGreatZd24
import Derived.Test.YtmggoiabcboaiaaGreatZd25
import Derived.Test.YtmggoiabcboaiaaGreatZd26
import Derived.Test.YtmggoiabcboaiaaGreatZd27
import Derived.Test.YtmggoiabcboaiaaGreatZd28
import Derived.Test.YtmggoiabcboaiaaGreatZd29
namespace Go.Proofs.YtmggoiabcboaiaaGreat
open Go.ChangeShapes Go.WideShapes Go.ChangeAt Go.RowKit
set_option linter.unusedVariables false
theorem Cal.drew {w0 wx : World} {M Zb : Nat} {s : Ls} {vm vb vg vt : Value} (h : Cal w0 wx M Zb s vm vb vg vt) : Cal w0 wx.drew M Zb s vm vb vg vt := ⟨h.bk, h.bq, h.bl.drew, h.ol⟩
set_option maxRecDepth 100000 in
set_option maxHeartbeats 2000000 in
theorem specLinePlay_any (a b d m : Int) (vm : Value) (ms : List ByteArray) (vz : Value) (zs : List Int) (w : World) (B : Nat) (h : RS w B vm ms) (hz : RZ w B vz zs) (hB : B ≤ w.heap.size)
  (hl : ms.length ≤ 1048576) (hs : ∀ s ∈ ms, s.size ≤ 1048576) (hzl : zs.length ≤ 1048576) :
  Calls Tryz.prog 12 #[cfV a b d m, vm, vz] w (TPost w (playRes ⟨a, b, d, m⟩ ms zs)) := by
 obtain ⟨am, cm, rfl⟩ := h.shape
 obtain ⟨az, cz, rfl⟩ := hz.shape
 have hzln := zero_line
 have hk := (BK.new w #[.int .i64 a, .int .i64 b, .int .i64 d, .int .i64 m] 24).alloc (.cells #[.int .i64 0, .int .i64 0, .int .i64 0, .int .i64 0, .slice none 0 0, .int .i64 0, .slice none 0 0, .string ⟨#[]⟩, .bool false, .string ⟨#[]⟩, .bool false, .slice none 0 0, .slice none 0 0] 32)
 have hq := BK.new (w.alloc (.cells #[.int .i64 a, .int .i64 b, .int .i64 d, .int .i64 m] 24)) #[.int .i64 0, .int .i64 0, .int .i64 0, .int .i64 0, .slice none 0 0, .int .i64 0, .slice none 0 0, .string ⟨#[]⟩, .bool false, .string ⟨#[]⟩, .bool false, .slice none 0 0, .slice none 0 0] 32
 rw [World.size_alloc] at hq
 have hb := ((Below.refl w.heap.size w).alloc (Nat.le_refl _) (.cells #[.int .i64 a, .int .i64 b, .int .i64 d, .int .i64 m] 24)).alloc (by simp) (.cells #[.int .i64 0, .int .i64 0, .int .i64 0, .int .i64 0, .slice none 0 0, .int .i64 0, .slice none 0 0, .string ⟨#[]⟩, .bool false, .string ⟨#[]⟩, .bool false, .slice none 0 0, .slice none 0 0] 32)
 have HM := Lib.hid ((h.mono hB).below hb)
 have HZ := Lib.hid ((hz.mono hB).below hb)
 have HB := Lib.hid hb
 have HQ := Lib.hid hq
 obtain ⟨c0, c1, c2, c3⟩ : _ ∧ _ ∧ _ ∧ _ := ⟨hk.cell (i := 0) rfl, hk.cell (i := 1) rfl, hk.cell (i := 2) rfl, hk.cell (i := 3) rfl⟩
 have HL := Lib.hid hl
 have HS := Lib.hid hs
 clear h hz hk hq hb hs hl
 go_enter Tryz.func12, Tryz.ntmps12
 go_wp2_with fail
 refine (specLineNew_any a b d m _ ms _ w.heap.size HM.out HB.out.size HL.out HS.out).mono ?_
 rintro e w1 hnew
 have HNEW := Lib.hid hnew
 have hb1 : Below (((w.alloc (.cells #[.int .i64 a, .int .i64 b, .int .i64 d, .int .i64 m] 24)).alloc (.cells #[.int .i64 0, .int .i64 0, .int .i64 0, .int .i64 0, .slice none 0 0, .int .i64 0, .slice none 0 0, .string ⟨#[]⟩, .bool false, .string ⟨#[]⟩, .bool false, .slice none 0 0, .slice none 0 0] 32)).heap.size) ((w.alloc (.cells #[.int .i64 a, .int .i64 b, .int .i64 d, .int .i64 m] 24)).alloc (.cells #[.int .i64 0, .int .i64 0, .int .i64 0, .int .i64 0, .slice none 0 0, .int .i64 0, .slice none 0 0, .string ⟨#[]⟩, .bool false, .string ⟨#[]⟩, .bool false, .slice none 0 0, .slice none 0 0] 32)) w1 := by
  rcases hnew with ⟨_, _, _, _, h⟩ | ⟨_, _, h⟩ <;> exact h
 have HQ1 := Lib.hid (HQ.out.from hb1)
 have HZ1 := Lib.hid (HZ.out.below (hb1.mono HB.out.size))
 have HB1 := Lib.hid (HB.out.trans (hb1.mono HB.out.size))
 have hs1 : w.heap.size + 2 ≤ w1.heap.size := by have := hb1.size; simp at this; omega
 have HS1 := Lib.hid hs1
 have hMZ : w1.heap.size ≠ w.heap.size + 1 := by omega
 have hMW : w.heap.size ≤ w1.heap.size := by omega
 clear hb1 HM HZ hs1 c0 c1 c2 c3 hnew
 rcases HNEW.out with ⟨hn, v1, rfl, hown, -⟩ | ⟨hn, rfl, -⟩
 ·obtain ⟨A1, C1, hsh⟩ := hown.reads.shape
  subst hsh
  have hba := (Below.refl w1.heap.size w1).alloc (Nat.le_refl _) (.cells (lsC (newLs ⟨a, b, d, m⟩ ms) (.slice A1 ms.length C1) (.slice none 0 0) (.slice none 0 0) (.slice none 0 0)) 32)
  have HC0 := Lib.hid (show Cals w (w1.alloc (.cells (lsC (newLs ⟨a, b, d, m⟩ ms) (.slice A1 ms.length C1) (.slice none 0 0) (.slice none 0 0) (.slice none 0 0)) 32)) w1.heap.size (w.heap.size + 1) (newLs ⟨a, b, d, m⟩ ms) from ⟨_, _, _, _, ⟨BK.new _ _ _, HQ1.out.from hba, HB1.out.trans (hba.mono HB1.out.size), ⟨(hown.below hba).mono (Nat.zero_le _), OS_nil _ _, OS_nil _ _, OS_nil _ _⟩⟩⟩)
  have HNO := Lib.hid (newLs_ok hn)
  have HV := Lib.hid (show playRes ⟨a, b, d, m⟩ ms zs = (zs.take 80).foldl Ls.doP (newLs ⟨a, b, d, m⟩ ms) by unfold playRes; rw [if_pos hn])
  have HB2 := Lib.hid (hba.mono HB1.out.size)
  have HZ2 := Lib.hid (HZ1.out.below HB2.out)
  clear hown hba
  go_wp2
  go_loopw [8] (fun i wr => ∃ k : Nat, k ≤ zs.length ∧ k ≤ 80 ∧ i = .int .i64 (k : Int) ∧ Cals w wr w1.heap.size (w.heap.size + 1) ((zs.take k).foldl Ls.doP (newLs ⟨a, b, d, m⟩ ms)) ∧ RZ wr w.heap.size (.slice az zs.length cz) zs) (fun i _ => 80 - (intOf i).toNat)
  case atStart => exact ⟨0, Nat.zero_le _, Nat.zero_le _, rfl, HC0.out, HZ2.out⟩
  case round =>
   obtain ⟨k, hk, hk80, rfl, hcs, hrz⟩ := hrel
   have HCS := Lib.hid hcs
   have HRZ := Lib.hid hrz
   clear hcs hrz HC0 HZ2
   have HOQ := Lib.hid (Ls.Ok.plays (zs.take k) HNO.out)
   by_cases hlt : k < zs.length ∧ k < 80
   ·obtain ⟨hlt1, hlt2⟩ := hlt
    obtain ⟨xa, rfl, hxB, d0⟩ := HRZ.out.at_ hlt1
    have HST := Lib.hid (show (zs.take (k + 1)).foldl Ls.doP (newLs ⟨a, b, d, m⟩ ms) = ((zs.take k).foldl Ls.doP (newLs ⟨a, b, d, m⟩ ms)).doP zs[k] by rw [List.take_succ_eq_append_getElem hlt1, List.foldl_append]; rfl)
    generalize zs[k] = z at *
    generalize (zs.take k).foldl Ls.doP (newLs ⟨a, b, d, m⟩ ms) = q at *
    obtain ⟨um, ub, ug, ut, hcal⟩ := HCS.out
    obtain ⟨am4, cm4, rfl⟩ := hcal.ol.1.reads.shape
    obtain ⟨ag4, cg4, rfl⟩ := hcal.ol.2.1.reads.shape
    obtain ⟨at4, ct4, rfl⟩ := hcal.ol.2.2.1.reads.shape
    obtain ⟨ab4, cb4, rfl⟩ := hcal.ol.2.2.2.reads.shape
    have HC := Lib.hid hcal
    obtain ⟨c0, c1, c2, c3, c4, c5, c6, c7, c8, c9, c10, c11, c12⟩ := cells13 hcal.bk
    clear hcal
    go_wp2_with fail
    refine (l7ConfOk_any q.c.codec q.c.sum q.c.most q.c.map _).mono ?_
    rintro e w2 ⟨rfl, hb2⟩
    rw [show confB ⟨q.c.codec, q.c.sum, q.c.most, q.c.map⟩ = true from HOQ.out.conf]
    have HC2 := Lib.hid (show Cal w w2 w1.heap.size (w.heap.size + 1) q (.slice am4 q.ms.length cm4) (.slice ab4 q.bs.length cb4) (.slice ag4 q.gs.length cg4) (.slice at4 q.ts.length ct4) from ⟨HC.out.bk.from hb2, HC.out.bq.from hb2, HC.out.bl.trans (hb2.mono HC.out.bl.size), HC.out.ol.below hb2⟩)
    have HR2 := Lib.hid (HRZ.out.below (hb2.mono HC.out.bl.size))
    have d2 := (hb2.cell (p := xa.add k) (by rw [add_block]; exact Nat.lt_of_lt_of_le hxB HC.out.bl.size)).trans d0
    clear d0 c0 c1 c2 c3 c4 c5 c6 c7 c8 c9 c10 c11 c12 hb2
    obtain ⟨c0, c1, c2, c3, c4, c5, c6, c7, c8, c9, c10, c11, c12⟩ := cells13 HC2.out.bk
    go_wp2_with fail
    have hX := HC2.out.drew
    have hS := And.intro (cells13 hX.bk) (show w2.drew.cell? (xa.add k) = some (.int .i64 z) from d2)
    have hRd : RZ w2.drew w.heap.size (.slice (some xa) zs.length cz) zs := HR2.out
    clear c0 c1 c2 c3 c4 c5 c6 c7 c8 c9 c10 c11 c12 d2
    refine wp_region_held_drew (S := (fun wx => (wx.cell? ⟨w1.heap.size, 0, none⟩ = some (.int .i64 q.c.codec) ∧ wx.cell? ⟨w1.heap.size, 1, none⟩ = some (.int .i64 q.c.sum) ∧ wx.cell? ⟨w1.heap.size, 2, none⟩ = some (.int .i64 q.c.most) ∧ wx.cell? ⟨w1.heap.size, 3, none⟩ = some (.int .i64 q.c.map) ∧ wx.cell? ⟨w1.heap.size, 4, none⟩ = some (.slice am4 q.ms.length cm4) ∧ wx.cell? ⟨w1.heap.size, 5, none⟩ = some (.int .i64 (q.nx : Int)) ∧ wx.cell? ⟨w1.heap.size, 6, none⟩ = some (.slice ag4 q.gs.length cg4) ∧ wx.cell? ⟨w1.heap.size, 7, none⟩ = some (.string (bzL q.f.held)) ∧ wx.cell? ⟨w1.heap.size, 8, none⟩ = some (.bool q.f.over) ∧ wx.cell? ⟨w1.heap.size, 9, none⟩ = some (.string (bzL q.h.held)) ∧ wx.cell? ⟨w1.heap.size, 10, none⟩ = some (.bool q.h.over) ∧ wx.cell? ⟨w1.heap.size, 11, none⟩ = some (.slice at4 q.ts.length ct4) ∧ wx.cell? ⟨w1.heap.size, 12, none⟩ = some (.slice ab4 q.bs.length cb4)) ∧ wx.cell? (xa.add k) = some (.int .i64 z))) (by kernel_rfl) hS (fun hHeld => ?_)
    obtain ⟨wd, hwd⟩ : ∃ wd, wd = w2.drew := ⟨_, rfl⟩
    rw [← hwd] at hX hS hRd ⊢
    clear hwd
    have HD := Lib.hid hS.2
    have HDO := Lib.hid (fun (x1 x2 x3 x4 : Value) (u : World) (h : OL u 0 x1 q.ms x3 q.gs x4 q.ts x2 q.bs) => l8Do_any q HOQ.out z x1 x2 x3 x4 u h)
    generalize q.doP z = p at *
    refine tkH 0 ?_ rfl (Or.inl ⟨by rfl, ?_⟩) ?_; rotate_left
    ·intro wq hSw; (try dsimp only at hSw); (try simp only [gT, gZ]); go_simp; (try with_reducible rfl)
    simp only [Act.put, gT, gZ, sT, sZ, sS]
    refine tkH 1 ?_ rfl (Or.inl ⟨by rfl, ?_⟩) ?_; rotate_left
    ·intro wq hSw; (try dsimp only at hSw); (try simp only [gT, gS, gZ]); go_simp; (try with_reducible rfl)
    simp only [Act.put, gT, gS, gZ, sT, sZ, sS]
    refine tkH 2 ?_ rfl (Or.inl ⟨by rfl, ?_⟩) ?_; rotate_left
    ·intro wq hSw; (try dsimp only at hSw); (try simp only [gT, gS, gZ]); go_simp; (try with_reducible rfl)
    simp only [Act.put, gT, gS, gZ, sT, sZ, sS]
    refine tkH 3 ?_ rfl (Or.inl ⟨by rfl, ?_⟩) ?_; rotate_left
    ·intro wq hSw; (try dsimp only at hSw); (try simp only [gT, gS, gZ]); go_simp; (try with_reducible rfl)
    simp only [Act.put, gT, gS, gZ, sT, sZ, sS]
    refine tkH 4 ?_ rfl (Or.inl ⟨by rfl, ?_⟩) ?_; rotate_left
    ·intro wq hSw; (try dsimp only at hSw); (try simp only [gT, gS, gZ]); go_simp; (try with_reducible rfl)
    simp only [Act.put, gT, gS, gZ, sT, sZ, sS]
    refine wpAnyH_ready (rs := [5, 9]) (by kernel_rfl) (by simp) ?_
    refine AllReadyH.cons rfl ?_ (AllReadyH.cons rfl ?_ AllReadyH.nil)
    ·intro K hK
     (try simp only [gT, gS, gZ])
     go_simp
     go_at_call 43
     refine (HDO.out _ _ _ _ wd hX.ol).mono ?_
     rintro e w5 ⟨xm, xb, xg, xt, b5, rfl, hol5, hb5⟩
     obtain ⟨am3, cm3, rfl⟩ := hol5.1.reads.shape
     obtain ⟨ag3, cg3, rfl⟩ := hol5.2.1.reads.shape
     obtain ⟨at3, ct3, rfl⟩ := hol5.2.2.1.reads.shape
     obtain ⟨ab3, cb3, rfl⟩ := hol5.2.2.2.reads.shape
     have hS := And.intro (cells13 (hX.bk.from hb5)) ((hb5.cell (p := xa.add k) (by rw [add_block]; exact Nat.lt_of_lt_of_le hxB hX.bl.size)).trans HD.out)
     refine hK.out _ _ hS (fun hHeld => ?_)
     clear hK K
     refine tkH 6 ?_ rfl (Or.inl ⟨by rfl, ?_⟩) ?_; rotate_left
     ·intro wq hSw; (try dsimp only at hSw); (try simp only [gT, gS, gZ]); go_simp; (try with_reducible rfl)
     simp only [Act.put, gT, gS, gZ, sT, sZ, sS]
     refine tkH 7 ?_ rfl (Or.inl ⟨by rfl, ?_⟩) ?_; rotate_left
     ·intro wq hSw; (try dsimp only at hSw); (try simp only [gT, gS, gZ]); go_simp; (try with_reducible rfl)
     simp only [Act.put, gT, gS, gZ, sT, sZ, sS]
     refine tkH 8 ?_ rfl (Or.inl ⟨by rfl, ?_⟩) ?_; rotate_left
     ·intro wq hSw; (try dsimp only at hSw); (try simp only [gT, gS, gZ]); go_simp; (try with_reducible rfl)
     simp only [Act.put, gT, gS, gZ, sT, sZ, sS]
     have hbA := hb5.trans (((Below.refl w5.heap.size w5).alloc (Nat.le_refl _) (.cells #[.int .i64 0, .int .i64 0, .int .i64 0, .int .i64 0, .slice none 0 0, .int .i64 0, .slice none 0 0, .string ⟨#[]⟩, .bool false, .string ⟨#[]⟩, .bool false, .slice none 0 0, .slice none 0 0] 32)).mono hb5.size)
     have hS := And.intro (cells13 (hX.bk.from hbA)) ((hbA.cell (p := xa.add k) (by rw [add_block]; exact Nat.lt_of_lt_of_le hxB hX.bl.size)).trans HD.out)
     refine wpAnyH_ready (rs := [9]) (by kernel_rfl) (by simp) ?_
     refine AllReadyH.cons rfl (fun K hK => ?_) AllReadyH.nil
     (try simp only [gT, gS, gZ])
     skip
     go_simp
     skip
     refine hK.out _ _ hS (fun hHeld => ?_)
     clear hK K
     have hbP := hb5.trans (((Below.refl w5.heap.size w5).alloc (Nat.le_refl _) (.cells (lsC p (.slice am3 p.ms.length cm3) (.slice ab3 p.bs.length cb3) (.slice ag3 p.gs.length cg3) (.slice at3 p.ts.length ct3)) 32)).mono hb5.size)
     have hS := And.intro (cells13 (hX.bk.from hbP)) ((hbP.cell (p := xa.add k) (by rw [add_block]; exact Nat.lt_of_lt_of_le hxB hX.bl.size)).trans HD.out)
     refine wpAnyH_ready (rs := [10]) (by kernel_rfl) (by simp) ?_
     refine AllReadyH.cons rfl (fun K hK => ?_) AllReadyH.nil
     (try simp only [gT, gS, gZ])
     skip
     go_simp
     skip
     refine hK.out _ _ hS (fun hHeld => ?_)
     clear hK K
     refine tkH 11 ?_ rfl (Or.inl ⟨by rfl, ?_⟩) ?_; rotate_left
     ·intro wq hSw; (try dsimp only at hSw); (try simp only [gT, gS, gZ]); go_simp; (try with_reducible rfl)
     simp only [Act.put, gT, gS, gZ, sT, sZ, sS]
     refine wpAnyH_done (by kernel_rfl) ?_ _
     have hnew := BK.new w5 (lsC p (.slice am3 p.ms.length cm3) (.slice ab3 p.bs.length cb3) (.slice ag3 p.gs.length cg3) (.slice at3 p.ts.length ct3)) 32
     have hol9 := hol5.below ((Below.refl _ _).alloc (Nat.le_refl _) (.cells (lsC p (.slice am3 p.ms.length cm3) (.slice ab3 p.bs.length cb3) (.slice ag3 p.gs.length cg3) (.slice at3 p.ts.length ct3)) 32))
     have hXP : Cal w (w5.alloc (.cells (lsC p (.slice am3 p.ms.length cm3) (.slice ab3 p.bs.length cb3) (.slice ag3 p.gs.length cg3) (.slice at3 p.ts.length ct3)) 32)) w1.heap.size (w.heap.size + 1) q (.slice am4 q.ms.length cm4) (.slice ab4 q.bs.length cb4) (.slice ag4 q.gs.length cg4) (.slice at4 q.ts.length ct4) := ⟨hX.bk.from hbP, hX.bq.from hbP, hX.bl.trans (hbP.mono hX.bl.size), hX.ol.below hbP⟩
     obtain ⟨e0, e1, e2, e3, e4, e5, e6, e7, e8, e9, e10, e11, e12⟩ := cells13 hnew
     obtain ⟨c0, c1, c2, c3, c4, c5, c6, c7, c8, c9, c10, c11, c12⟩ := cells13 hXP.bk
     obtain ⟨f0, f1, f2, f3, f4, f5, f6, f7, f8, f9, f10, f11, f12⟩ := free13 hXP.bk
     have HXN := Lib.hid (hXP.next (s' := p) hMW hMZ (Below.refl _ _) hol9)
     have HRN := Lib.hid ((hRd.below (hbP.mono hX.bl.size)).below (set13_below (Below.refl w.heap.size _) hMW (v0 := .int .i64 p.c.codec) (v1 := .int .i64 p.c.sum) (v2 := .int .i64 p.c.most) (v3 := .int .i64 p.c.map) (v4 := .slice am3 p.ms.length cm3) (v5 := .int .i64 (p.nx : Int)) (v6 := .slice ag3 p.gs.length cg3) (v7 := .string (bzL p.f.held)) (v8 := .bool p.f.over) (v9 := .string (bzL p.h.held)) (v10 := .bool p.h.over) (v11 := .slice at3 p.ts.length ct3) (v12 := .slice ab3 p.bs.length cb3)))
     clear hXP hX hS hRd hbP hnew hol9 hol5 hb5 hbA
     go_wp2
     go_roundw
     case rel => exact ⟨k + 1, hlt1, hlt2, by go_num, by rw [HST.out]; exact ⟨_, _, _, _, HXN.out⟩, HRN.out⟩
     case measure => simp [intOf]; omega
    ·intro K hK
     (try simp only [gT, gS, gZ])
     go_simp
     have hbA := (Below.refl wd.heap.size wd).alloc (Nat.le_refl _) (.cells #[.int .i64 0, .int .i64 0, .int .i64 0, .int .i64 0, .slice none 0 0, .int .i64 0, .slice none 0 0, .string ⟨#[]⟩, .bool false, .string ⟨#[]⟩, .bool false, .slice none 0 0, .slice none 0 0] 32)
     have hS := And.intro (cells13 (hX.bk.from hbA)) ((hbA.cell (p := xa.add k) (by rw [add_block]; exact Nat.lt_of_lt_of_le hxB hX.bl.size)).trans HD.out)
     refine hK.out _ _ hS (fun hHeld => ?_)
     clear hK K
     have hzA := BK.new wd #[.int .i64 0, .int .i64 0, .int .i64 0, .int .i64 0, .slice none 0 0, .int .i64 0, .slice none 0 0, .string ⟨#[]⟩, .bool false, .string ⟨#[]⟩, .bool false, .slice none 0 0, .slice none 0 0] 32
     refine wpAnyH_ready (rs := [5]) (by kernel_rfl) (by simp) ?_
     refine AllReadyH.cons rfl (fun K hK => ?_) AllReadyH.nil
     (try simp only [gT, gS, gZ])
     go_simp
     go_at_call 43
     refine (HDO.out _ _ _ _ _ (hX.ol.below hbA)).mono ?_
     rintro e w5 ⟨xm, xb, xg, xt, b5, rfl, hol5, hb5⟩
     have hbB := hbA.trans (hb5.mono hbA.size)
     have hS := And.intro (cells13 (hX.bk.from hbB)) ((hbB.cell (p := xa.add k) (by rw [add_block]; exact Nat.lt_of_lt_of_le hxB hX.bl.size)).trans HD.out)
     refine hK.out _ _ hS (fun hHeld => ?_)
     clear hK K
     obtain ⟨am3, cm3, rfl⟩ := hol5.1.reads.shape
     obtain ⟨ag3, cg3, rfl⟩ := hol5.2.1.reads.shape
     obtain ⟨at3, ct3, rfl⟩ := hol5.2.2.1.reads.shape
     obtain ⟨ab3, cb3, rfl⟩ := hol5.2.2.2.reads.shape
     have hzB := hzA.from hb5
     refine tkH 6 ?_ rfl (Or.inl ⟨by rfl, ?_⟩) ?_; rotate_left
     ·intro wq hSw; (try dsimp only at hSw); (try simp only [gT, gS, gZ]); go_simp; (try with_reducible rfl)
     simp only [Act.put, gT, gS, gZ, sT, sZ, sS]
     refine tkH 7 ?_ rfl (Or.inl ⟨by rfl, ?_⟩) ?_; rotate_left
     ·intro wq hSw; (try dsimp only at hSw); (try simp only [gT, gS, gZ]); go_simp; (try with_reducible rfl)
     simp only [Act.put, gT, gS, gZ, sT, sZ, sS]
     refine tkH 8 ?_ rfl (Or.inl ⟨by rfl, ?_⟩) ?_; rotate_left
     ·intro wq hSw; (try dsimp only at hSw); (try simp only [gT, gS, gZ]); go_simp; (try with_reducible rfl)
     simp only [Act.put, gT, gS, gZ, sT, sZ, sS]
     have hbP : Below wd.heap.size wd (set13 w5 wd.heap.size (.int .i64 p.c.codec) (.int .i64 p.c.sum) (.int .i64 p.c.most) (.int .i64 p.c.map) (.slice am3 p.ms.length cm3) (.int .i64 (p.nx : Int)) (.slice ag3 p.gs.length cg3) (.string (bzL p.f.held)) (.bool p.f.over) (.string (bzL p.h.held)) (.bool p.h.over) (.slice at3 p.ts.length ct3) (.slice ab3 p.bs.length cb3)) := set13_below hbB (Nat.le_refl _)
     have hS := And.intro (cells13 (hX.bk.from hbP)) ((hbP.cell (p := xa.add k) (by rw [add_block]; exact Nat.lt_of_lt_of_le hxB hX.bl.size)).trans HD.out)
     obtain ⟨z0, z1, z2, z3, z4, z5, z6, z7, z8, z9, z10, z11, z12⟩ := cells13 hzB
     obtain ⟨f0, f1, f2, f3, f4, f5, f6, f7, f8, f9, f10, f11, f12⟩ := free13 hzB
     refine wpAnyH_ready (rs := [10]) (by kernel_rfl) (by simp) ?_
     refine AllReadyH.cons rfl (fun K hK => ?_) AllReadyH.nil
     (try simp only [gT, gS, gZ])
     skip
     go_simp
     skip
     refine hK.out _ _ hS (fun hHeld => ?_)
     clear hK K
     clear z0 z1 z2 z3 z4 z5 z6 z7 z8 z9 z10 z11 z12 f0 f1 f2 f3 f4 f5 f6 f7 f8 f9 f10 f11 f12
     refine tkH 11 ?_ rfl (Or.inl ⟨by rfl, ?_⟩) ?_; rotate_left
     ·intro wq hSw; (try dsimp only at hSw); (try simp only [gT, gS, gZ]); go_simp; (try with_reducible rfl)
     simp only [Act.put, gT, gS, gZ, sT, sZ, sS]
     refine wpAnyH_done (by kernel_rfl) ?_ _
     obtain ⟨wy, hwy⟩ : ∃ wy, wy = ((((((((((((w5.setCell ⟨wd.heap.size, 0, none⟩ (.int .i64 p.c.codec)).setCell ⟨wd.heap.size, 1, none⟩ (.int .i64 p.c.sum)).setCell ⟨wd.heap.size, 2, none⟩ (.int .i64 p.c.most)).setCell ⟨wd.heap.size, 3, none⟩ (.int .i64 p.c.map)).setCell ⟨wd.heap.size, 4, none⟩ (.slice am3 p.ms.length cm3)).setCell ⟨wd.heap.size, 5, none⟩ (.int .i64 (p.nx : Int))).setCell ⟨wd.heap.size, 6, none⟩ (.slice ag3 p.gs.length cg3)).setCell ⟨wd.heap.size, 7, none⟩ (.string (bzL p.f.held))).setCell ⟨wd.heap.size, 8, none⟩ (.bool p.f.over)).setCell ⟨wd.heap.size, 9, none⟩ (.string (bzL p.h.held))).setCell ⟨wd.heap.size, 10, none⟩ (.bool p.h.over)).setCell ⟨wd.heap.size, 11, none⟩ (.slice at3 p.ts.length ct3)).setCell ⟨wd.heap.size, 12, none⟩ (.slice ab3 p.bs.length cb3) := ⟨_, rfl⟩
     rw [← hwy]
     have hbP : Below wd.heap.size wd wy := by rw [hwy]; exact hbP
     have hnew : BK wy wd.heap.size (lsC p (.slice am3 p.ms.length cm3) (.slice ab3 p.bs.length cb3) (.slice ag3 p.gs.length cg3) (.slice at3 p.ts.length ct3)) 32 := by rw [hwy]; exact set13_bk hzB rfl
     have hol9 : OL wy 0 (.slice am3 p.ms.length cm3) p.ms (.slice ag3 p.gs.length cg3) p.gs (.slice at3 p.ts.length ct3) p.ts (.slice ab3 p.bs.length cb3) p.bs := by rw [hwy]; exact (⟨set13_own hol5.1 (own_ne hzB line_str hol5.1), set13_own hol5.2.1 (own_ne hzB line_str hol5.2.1), set13_own hol5.2.2.1 (own_ne hzB line_str hol5.2.2.1), set13_own hol5.2.2.2 (own_ne hzB line_str hol5.2.2.2)⟩ : OL (set13 w5 wd.heap.size (.int .i64 p.c.codec) (.int .i64 p.c.sum) (.int .i64 p.c.most) (.int .i64 p.c.map) (.slice am3 p.ms.length cm3) (.int .i64 (p.nx : Int)) (.slice ag3 p.gs.length cg3) (.string (bzL p.f.held)) (.bool p.f.over) (.string (bzL p.h.held)) (.bool p.h.over) (.slice at3 p.ts.length ct3) (.slice ab3 p.bs.length cb3)) 0 (.slice am3 p.ms.length cm3) p.ms (.slice ag3 p.gs.length cg3) p.gs (.slice at3 p.ts.length ct3) p.ts (.slice ab3 p.bs.length cb3) p.bs)
     clear hwy
     have hXP : Cal w wy w1.heap.size (w.heap.size + 1) q (.slice am4 q.ms.length cm4) (.slice ab4 q.bs.length cb4) (.slice ag4 q.gs.length cg4) (.slice at4 q.ts.length ct4) := ⟨hX.bk.from hbP, hX.bq.from hbP, hX.bl.trans (hbP.mono hX.bl.size), hX.ol.below hbP⟩
     obtain ⟨e0, e1, e2, e3, e4, e5, e6, e7, e8, e9, e10, e11, e12⟩ := cells13 hnew
     obtain ⟨c0, c1, c2, c3, c4, c5, c6, c7, c8, c9, c10, c11, c12⟩ := cells13 hXP.bk
     obtain ⟨f0, f1, f2, f3, f4, f5, f6, f7, f8, f9, f10, f11, f12⟩ := free13 hXP.bk
     have HXN := Lib.hid (hXP.next (s' := p) hMW hMZ (Below.refl _ _) hol9)
     have HRN := Lib.hid ((hRd.below (hbP.mono hX.bl.size)).below (set13_below (Below.refl w.heap.size _) hMW (v0 := .int .i64 p.c.codec) (v1 := .int .i64 p.c.sum) (v2 := .int .i64 p.c.most) (v3 := .int .i64 p.c.map) (v4 := .slice am3 p.ms.length cm3) (v5 := .int .i64 (p.nx : Int)) (v6 := .slice ag3 p.gs.length cg3) (v7 := .string (bzL p.f.held)) (v8 := .bool p.f.over) (v9 := .string (bzL p.h.held)) (v10 := .bool p.h.over) (v11 := .slice at3 p.ts.length ct3) (v12 := .slice ab3 p.bs.length cb3)))
     clear hXP hX hS hRd hbP hnew hol9 hol5 hb5 hbA hbB hzA hzB
     go_wp2
     go_roundw
     case rel => exact ⟨k + 1, hlt1, hlt2, by go_num, by rw [HST.out]; exact ⟨_, _, _, _, HXN.out⟩, HRN.out⟩
     case measure => simp [intOf]; omega
   ·have HTK := Lib.hid (show zs.take 80 = zs.take k by
     rcases (show k = 80 ∨ (k = zs.length ∧ k ≤ 80) by omega) with h | ⟨h, h2⟩
     ·rw [h]
     ·rw [h, List.take_length, List.take_of_length_le (by omega)])
    have HV2 := Lib.hid (HV.out.trans (by rw [HTK.out]))
    generalize (zs.take k).foldl Ls.doP (newLs ⟨a, b, d, m⟩ ms) = q at *
    obtain ⟨um, ub, ug, ut, hcal⟩ := HCS.out
    obtain ⟨am4, cm4, rfl⟩ := hcal.ol.1.reads.shape
    obtain ⟨ag4, cg4, rfl⟩ := hcal.ol.2.1.reads.shape
    obtain ⟨at4, ct4, rfl⟩ := hcal.ol.2.2.1.reads.shape
    obtain ⟨ab4, cb4, rfl⟩ := hcal.ol.2.2.2.reads.shape
    have HC := Lib.hid hcal
    obtain ⟨c0, c1, c2, c3, c4, c5, c6, c7, c8, c9, c10, c11, c12⟩ := cells13 hcal.bk
    obtain ⟨z0, z1, z2, z3, z4, z5, z6, z7, z8, z9, z10, z11, z12⟩ := cells13 hcal.bq
    obtain ⟨f0, f1, f2, f3, f4, f5, f6, f7, f8, f9, f10, f11, f12⟩ := free13 hcal.bq
    clear hcal
    have hno : (k < zs.length ∧ 80 ≤ k) ∨ zs.length ≤ k := by omega
    clear hlt
    rcases hno with ⟨h1, h2⟩ | h1
    ·clear hk hk80
     have h3 : decide ((k : Int) < 80) = false := by simp; omega
     go_wp2
     rw [HV2.out]
     refine line_ret Tryz.results12 (set13_bk (v0 := .int .i64 q.c.codec) (v1 := .int .i64 q.c.sum) (v2 := .int .i64 q.c.most) (v3 := .int .i64 q.c.map) (v4 := .slice am4 q.ms.length cm4) (v5 := .int .i64 (q.nx : Int)) (v6 := .slice ag4 q.gs.length cg4) (v7 := .string (bzL q.f.held)) (v8 := .bool q.f.over) (v9 := .string (bzL q.h.held)) (v10 := .bool q.h.over) (v11 := .slice at4 q.ts.length ct4) (v12 := .slice ab4 q.bs.length cb4) HC.out.bq rfl) rfl rfl ?_
     exact ⟨(.slice am4 q.ms.length cm4), (.slice ab4 q.bs.length cb4), (.slice ag4 q.gs.length cg4), (.slice at4 q.ts.length ct4), rfl, ⟨set13_own HC.out.ol.1 (own_ne HC.out.bq line_str HC.out.ol.1), set13_own HC.out.ol.2.1 (own_ne HC.out.bq line_str HC.out.ol.2.1), set13_own HC.out.ol.2.2.1 (own_ne HC.out.bq line_str HC.out.ol.2.2.1), set13_own HC.out.ol.2.2.2 (own_ne HC.out.bq line_str HC.out.ol.2.2.2)⟩, set13_below HC.out.bl (by omega)⟩
    ·clear hk hk80
     have h3 : decide ((k : Int) < (zs.length : Int)) = false := by simp; omega
     go_wp2
     rw [HV2.out]
     refine line_ret Tryz.results12 (set13_bk (v0 := .int .i64 q.c.codec) (v1 := .int .i64 q.c.sum) (v2 := .int .i64 q.c.most) (v3 := .int .i64 q.c.map) (v4 := .slice am4 q.ms.length cm4) (v5 := .int .i64 (q.nx : Int)) (v6 := .slice ag4 q.gs.length cg4) (v7 := .string (bzL q.f.held)) (v8 := .bool q.f.over) (v9 := .string (bzL q.h.held)) (v10 := .bool q.h.over) (v11 := .slice at4 q.ts.length ct4) (v12 := .slice ab4 q.bs.length cb4) HC.out.bq rfl) rfl rfl ?_
     exact ⟨(.slice am4 q.ms.length cm4), (.slice ab4 q.bs.length cb4), (.slice ag4 q.gs.length cg4), (.slice at4 q.ts.length ct4), rfl, ⟨set13_own HC.out.ol.1 (own_ne HC.out.bq line_str HC.out.ol.1), set13_own HC.out.ol.2.1 (own_ne HC.out.bq line_str HC.out.ol.2.1), set13_own HC.out.ol.2.2.1 (own_ne HC.out.bq line_str HC.out.ol.2.2.1), set13_own HC.out.ol.2.2.2 (own_ne HC.out.bq line_str HC.out.ol.2.2.2)⟩, set13_below HC.out.bl (by omega)⟩
 ·have HV := Lib.hid (show playRes ⟨a, b, d, m⟩ ms zs = zeroLs by unfold playRes; rw [if_neg (by rw [hn]; decide)])
  have hba := (Below.refl w1.heap.size w1).alloc (Nat.le_refl _) (.cells #[.int .i64 0, .int .i64 0, .int .i64 0, .int .i64 0, .slice none 0 0, .int .i64 0, .slice none 0 0, .string ⟨#[]⟩, .bool false, .string ⟨#[]⟩, .bool false, .slice none 0 0, .slice none 0 0] 32)
  have hq0 := HQ1.out.from hba
  have hc0 := BK.new w1 #[.int .i64 0, .int .i64 0, .int .i64 0, .int .i64 0, .slice none 0 0, .int .i64 0, .slice none 0 0, .string ⟨#[]⟩, .bool false, .string ⟨#[]⟩, .bool false, .slice none 0 0, .slice none 0 0] 32
  have HB2 := Lib.hid (HB1.out.trans (hba.mono HB1.out.size))
  obtain ⟨wz, hwz⟩ : ∃ x, x = w1.alloc (.cells #[.int .i64 0, .int .i64 0, .int .i64 0, .int .i64 0, .slice none 0 0, .int .i64 0, .slice none 0 0, .string ⟨#[]⟩, .bool false, .string ⟨#[]⟩, .bool false, .slice none 0 0, .slice none 0 0] 32) := ⟨_, rfl⟩
  rw [← hwz] at hq0 hc0 HB2
  have HC0 := Lib.hid hc0
  have HQ0 := Lib.hid hq0
  clear hba hq0 hc0
  go_upto_region 2 with fail
  rw [← hwz]
  clear hwz
  go_wp2
  go_loopw [8] (fun i wr => i = .int .i64 0 ∧ wr = wz) (fun i _ => 0)
  case atStart => exact ⟨rfl, rfl⟩
  case round =>
   obtain ⟨rfl, rfl⟩ := hrel
   rcases Nat.eq_zero_or_pos zs.length with hz0 | hz0
   ·have h3 : zs.length ≤ 0 := by omega
    clear hz0
    obtain ⟨c0, c1, c2, c3, c4, c5, c6, c7, c8, c9, c10, c11, c12⟩ := cells13 HC0.out
    obtain ⟨z0, z1, z2, z3, z4, z5, z6, z7, z8, z9, z10, z11, z12⟩ := cells13 HQ0.out
    obtain ⟨f0, f1, f2, f3, f4, f5, f6, f7, f8, f9, f10, f11, f12⟩ := free13 HQ0.out
    go_wp2
    rw [HV.out]
    refine line_ret Tryz.results12 (set13_bk (v0 := .int .i64 0) (v1 := .int .i64 0) (v2 := .int .i64 0) (v3 := .int .i64 0) (v4 := .slice none 0 0) (v5 := .int .i64 0) (v6 := .slice none 0 0) (v7 := .string ⟨#[]⟩) (v8 := .bool false) (v9 := .string ⟨#[]⟩) (v10 := .bool false) (v11 := .slice none 0 0) (v12 := .slice none 0 0) HQ0.out rfl) rfl rfl ?_
    exact ⟨(.slice none 0 0), (.slice none 0 0), (.slice none 0 0), (.slice none 0 0), rfl, ⟨OS_nil _ _, OS_nil _ _, OS_nil _ _, OS_nil _ _⟩, set13_below HB2.out (by omega)⟩
   ·have h3 : 0 < zs.length := hz0
    clear hz0
    obtain ⟨c0, c1, c2, c3, c4, c5, c6, c7, c8, c9, c10, c11, c12⟩ := cells13 HC0.out
    go_wp2_with fail
    refine (l7ConfOk_any 0 0 0 0 _).mono ?_
    rintro e w2 ⟨rfl, hb2⟩
    rw [show confB ⟨0, 0, 0, 0⟩ = false by decide]
    have HC2 := Lib.hid (HC0.out.from hb2)
    have HQ2 := Lib.hid (HQ0.out.from hb2)
    have HB3 := Lib.hid (HB2.out.trans (hb2.mono HB2.out.size))
    clear hb2 c0 c1 c2 c3 c4 c5 c6 c7 c8 c9 c10 c11 c12
    obtain ⟨c0, c1, c2, c3, c4, c5, c6, c7, c8, c9, c10, c11, c12⟩ := cells13 HC2.out
    obtain ⟨z0, z1, z2, z3, z4, z5, z6, z7, z8, z9, z10, z11, z12⟩ := cells13 HQ2.out
    obtain ⟨f0, f1, f2, f3, f4, f5, f6, f7, f8, f9, f10, f11, f12⟩ := free13 HQ2.out
    go_wp2
    rw [HV.out]
    refine line_ret Tryz.results12 (set13_bk (v0 := .int .i64 0) (v1 := .int .i64 0) (v2 := .int .i64 0) (v3 := .int .i64 0) (v4 := .slice none 0 0) (v5 := .int .i64 0) (v6 := .slice none 0 0) (v7 := .string ⟨#[]⟩) (v8 := .bool false) (v9 := .string ⟨#[]⟩) (v10 := .bool false) (v11 := .slice none 0 0) (v12 := .slice none 0 0) HQ2.out rfl) rfl rfl ?_
    exact ⟨(.slice none 0 0), (.slice none 0 0), (.slice none 0 0), (.slice none 0 0), rfl, ⟨OS_nil _ _, OS_nil _ _, OS_nil _ _, OS_nil _ _⟩, set13_below HB3.out (by omega)⟩
end Go.Proofs.YtmggoiabcboaiaaGreat
namespace Go.Proofs.YtmggoiabcboaiaaGreat
open Go.ChangeShapes Go.WideShapes Go.ChangeAt Go.RowKit
def RW (w W : World) (B g N : Nat) : Prop := Rd W B g N ∧ w.grownBy W (some g) ∧ g < w.heap.size
section
variable {w W W' : World} {B g N N' : Nat}
theorem RW.start (h : Rd w B g N) : RW w w B g N := ⟨h, ⟨rfl, rfl, rfl, Nat.le_refl _, fun _ _ _ => rfl⟩, h.lt⟩
theorem RW.alloc (h : RW w W B g N) (o : Obj) : RW w (W.alloc o) B g N := ⟨h.1.alloc _, grown_alloc h.2.1 _, h.2.2⟩
theorem RW.next (h : RW w W B g N) (hr : Rd W' B g N') (hw : W.grownBy W' (some g)) : RW w W' B g N' := ⟨hr, grown_trans h.2.1 hw, h.2.2⟩
theorem RW.mono (h : RW w W B g N) (hN : N ≤ N') : RW w W B g N' := ⟨h.1.mono hN, h.2⟩
theorem RW.set (h : RW w W B g N) {j o : Nat} (hj : w.heap.size ≤ j) (x : Value) : RW w (W.setCell ⟨j, o, none⟩ x) B g N := by
 have hB : B ≤ g := by obtain ⟨_, _, _, _, _, _, _, _, _, h5, _⟩ := h.1; exact h5
 have hgl := h.2.2
 refine ⟨h.1.keep fun i hi => Below.heap_setCell _ _ _ _ (by simp only; omega), ?_, hgl⟩
 have hg := h.2.1
 refine ⟨hg.os, hg.tape, hg.output, by simpa using hg.size, fun k hk hne => ?_⟩
 rw [Below.heap_setCell _ _ _ _ (by simp only; omega)]
 exact hg.block k hk hne
theorem BK.next {j : Nat} {cs : Array Value} {t : TypeId} (h : BK W j cs t) (hw : W.grownBy W' (some g)) (hj : g < j) : BK W' j cs t := h.grown hw (by simp; omega)
end
end Go.Proofs.YtmggoiabcboaiaaGreat
namespace Go.Proofs.YtmggoiabcboaiaaGreat
open Go.ChangeShapes Go.WideShapes Go.ChangeAt Go.RowKit
theorem zero_conf (w : World) : (zeroValue 24).run Tryz.prog w = .ok (.agg #[.int .i64 0, .int .i64 0, .int .i64 0, .int .i64 0]) w := by kernel_rfl
def ConfPost (w : World) (B g N : Nat) (e : Ending) (w' : World) : Prop := ∃ a b d m : Int, e = .returned (cfV a b d m) ∧ confB ⟨a, b, d, m⟩ = true ∧ Rd w' B g N ∧ w.grownBy w' (some g)
theorem cells4 {W : World} {g : Nat} {a b d m : Value} {t : TypeId} (h : BK W g #[a, b, d, m] t) : W.cell? ⟨g, 0, none⟩ = some a ∧ W.cell? ⟨g, 1, none⟩ = some b ∧ W.cell? ⟨g, 2, none⟩ = some d ∧ W.cell? ⟨g, 3, none⟩ = some m := ⟨h.cell rfl, h.cell rfl, h.cell rfl, h.cell rfl⟩
theorem free4 {W : World} {g : Nat} {cs : Array Value} {t : TypeId} (h : BK W g cs t) : W.frozen? ⟨g, 0, none⟩ = false ∧ W.frozen? ⟨g, 1, none⟩ = false ∧ W.frozen? ⟨g, 2, none⟩ = false ∧ W.frozen? ⟨g, 3, none⟩ = false := ⟨h.free 0, h.free 1, h.free 2, h.free 3⟩
theorem confB_mk {a b d m : Int} (h1 : a = 1 ∨ a = 2 ∨ a = 3) (h2 : b = 2 ∨ b = 4) (h3 : 0 ≤ d ∧ d ≤ 40) (h4 : 0 ≤ m ∧ m ≤ 4294967295) (h5 : a = 1 ∨ m = 0) : confB ⟨a, b, d, m⟩ = true := by
 have hk : kindB b = true := by rcases h2 with rfl | rfl <;> rfl
 simp only [confB, inB, mapOkB, hk, Bool.and_eq_true, Bool.or_eq_true, decide_eq_true_eq]
 exact ⟨by omega, trivial, h3, h4, h5⟩
theorem conf_end {w W : World} {B g N : Nat} {a b d m : Int} (h : RW w W B g N) (hc : confB ⟨a, b, d, m⟩ = true) :
  ConfPost w B g N (.returned (cfV a b d m)) ((((W.setCell ⟨w.heap.size, 0, none⟩ (.int .i64 a)).setCell ⟨w.heap.size, 1, none⟩ (.int .i64 b)).setCell ⟨w.heap.size, 2, none⟩ (.int .i64 d)).setCell ⟨w.heap.size, 3, none⟩ (.int .i64 m)) := by
 have h2 := (((h.set (Nat.le_refl _) (o := 0) (.int .i64 a)).set (Nat.le_refl _) (o := 1) (.int .i64 b)).set (Nat.le_refl _) (o := 2) (.int .i64 d)).set (Nat.le_refl _) (o := 3) (.int .i64 m)
 exact ⟨a, b, d, m, rfl, hc, h2.1, h2.2.1⟩
set_option maxRecDepth 100000 in
set_option maxHeartbeats 2000000 in
theorem conf_any {w : World} {B g N : Nat} (h : Rd w B g N) (hN : N + 4 ≤ 1000000000) :
  Calls Tryz.prog 35 #[.pointer (some ⟨g, 0, none⟩)] w (ConfPost w B g (N + 4)) := by
 have hz := zero_conf
 have hgl := h.lt
 have HR0 := Lib.hid ((RW.start h).alloc (.cells #[.int .i64 0, .int .i64 0, .int .i64 0, .int .i64 0] 24))
 have HK0 := Lib.hid (BK.new w #[.int .i64 0, .int .i64 0, .int .i64 0, .int .i64 0] 24)
 clear h
 go_enter Tryz.func35, Tryz.ntmps35
 go_wp2_with fail
 refine (pick_any 3 HR0.out.1 (by omega)).mono ?_
 rintro e w1 ⟨⟨x, rfl, hx, _⟩, hr1, hg1⟩
 obtain ⟨hx0, hx3⟩ := hx (by omega)
 obtain ⟨a, hadd, ha1, ha3⟩ : ∃ a : Int, 1 + x = a ∧ 1 ≤ a ∧ a ≤ 3 := ⟨_, rfl, by omega, by omega⟩
 have HR1 := Lib.hid (HR0.out.next hr1 hg1)
 have HK1 := Lib.hid (HK0.out.next hg1 hgl)
 clear hx hr1 hg1 HR0 HK0
 have hs1 : w.heap.size + 1 ≤ w1.heap.size := HK1.out.lt
 go_wp2_with fail
 refine (one_any [2, 4] 3 (HR1.out.alloc _).1 (by omega) (by simp) (by simp) (by omega) (list_row w1 _ _ _ rfl)).mono ?_
 rintro e w2 ⟨b, hb, rfl, hr2, hg2⟩
 have HR2 := Lib.hid ((HR1.out.alloc _).next hr2 hg2)
 have HK2 := Lib.hid ((HK1.out.alloc _).next hg2 hgl)
 have hs2 : w.heap.size + 1 ≤ w2.heap.size := HK2.out.lt
 clear hr2 hg2 HR1 HK1
 go_wp2_with fail
 refine (one_any [0, 5, 12, 40] 3 (HR2.out.alloc _).1 (by omega) (by simp) (by simp) (by omega) (list_row w2 _ _ _ rfl)).mono ?_
 rintro e w3 ⟨d, hd, rfl, hr3, hg3⟩
 have hR3 := (HR2.out.alloc _).next hr3 hg3
 have hK3 := (HK2.out.alloc _).next hg3 hgl
 have hs3 : w.heap.size + 1 ≤ w3.heap.size := hK3.lt
 have HX := Lib.hid (BK.new w3 #[.int .i64 a, .int .i64 b, .int .i64 d, .int .i64 0] 24)
 have HR3 := Lib.hid (hR3.alloc (.cells #[.int .i64 a, .int .i64 b, .int .i64 d, .int .i64 0] 24))
 have HK3 := Lib.hid (hK3.alloc (.cells #[.int .i64 a, .int .i64 b, .int .i64 d, .int .i64 0] 24))
 have hbb : b = 2 ∨ b = 4 := by simpa using hb
 have hdd : d = 0 ∨ d = 5 ∨ d = 12 ∨ d = 40 := by simpa using hd
 clear hr3 hg3 HR2 HK2 hR3 hK3 hb hd
 by_cases hx1 : a = 1
 ·have hxb : (a == 1) = true := by rw [beq_iff_eq]; exact hx1
  have HX1 := Lib.hid hx1
  clear hx1
  have x0 := HX.out.cell (i := 0) rfl
  have hrow := list_row (w3.alloc (.cells #[.int .i64 a, .int .i64 b, .int .i64 d, .int .i64 0] 24)) #[.int .i64 0, .int .i64 4294967295, .int .i64 655360] 3 [0, 4294967295, 655360] rfl
  rw [World.size_alloc] at hrow
  have HROW := Lib.hid hrow
  clear hrow
  go_wp2_with fail
  refine (one_any (m := w3.heap.size + 1) [0, 4294967295, 655360] 3 (HR3.out.alloc _).1 (by omega) (by simp) (by simp) (by omega) HROW.out).mono ?_
  rintro e w4 ⟨m, hm, rfl, hr4, hg4⟩
  have hX4 := (HX.out.alloc _).next hg4 (by omega)
  have hK4 := (HK3.out.alloc _).next hg4 hgl
  have hR4 := (HR3.out.alloc _).next hr4 hg4
  have hmm : m = 0 ∨ m = 4294967295 ∨ m = 655360 := by simpa using hm
  clear hr4 hg4 x0 hm HX HR3 HK3
  obtain ⟨x0, x1, x2, x3⟩ := cells4 hX4
  obtain ⟨y0, y1, y2, y3⟩ := free4 hX4
  obtain ⟨z0, z1, z2, z3⟩ := cells4 hK4
  obtain ⟨u0, u1, u2, u3⟩ := free4 hK4
  have HR4 := Lib.hid hR4
  have hne : w.heap.size ≠ w3.heap.size := by omega
  have hne2 : w3.heap.size ≠ w.heap.size := by omega
  clear hX4 hK4 hR4
  go_wp2
  exact bodyPost_ret (v := cfV a b d m) (by simp [results, Tryz.results35, go_sem, z0, z1, z2, z3]) rfl (conf_end (HR4.out.set (by omega) _) (confB_mk (.inl HX1.out) hbb (by omega) (by omega) (.inl HX1.out)))
 ·have hxb : (a == 1) = false := beq_eq_false_iff_ne.2 hx1
  obtain ⟨x0, x1, x2, x3⟩ := cells4 HX.out
  obtain ⟨z0, z1, z2, z3⟩ := cells4 HK3.out
  obtain ⟨u0, u1, u2, u3⟩ := free4 HK3.out
  have hne : w.heap.size ≠ w3.heap.size := by omega
  have hne2 : w3.heap.size ≠ w.heap.size := by omega
  go_wp2
  exact bodyPost_ret (v := cfV a b d 0) (by simp [results, Tryz.results35, go_sem, z0, z1, z2, z3]) rfl (conf_end (HR3.out.mono (by omega)) (confB_mk (by omega) hbb (by omega) (by omega) (.inr rfl)))
end Go.Proofs.YtmggoiabcboaiaaGreat
namespace Go.Proofs.YtmggoiabcboaiaaGreat
open Go.ChangeShapes Go.WideShapes Go.ChangeAt Go.RowKit
theorem BK.os' {w w' : World} {base g : Nat} {cs : Array Value} {t : TypeId} {v : Value} {ss : List ByteArray} (h : BK w g cs t) (ht : t ≠ 9) (ho : OS w base v ss) (hg : w.grownBy w' v.ownBlock) : BK w' g cs t := by
 refine h.grown hg (fun e => ?_)
 rcases ho.2 with ⟨rfl, _⟩ | ⟨g', cap', cur', rfl, _, hg', _⟩
 ·simp [Value.ownBlock] at e
 ·simp [Value.ownBlock] at e
  subst e
  unfold BK at h
  rw [hg'] at h
  injection h with h
  injection h with _ h2 _
  exact ht h2.symm
def MsgsPost (w : World) (B g N : Nat) (e : Ending) (w' : World) : Prop := ∃ (v : Value) (ms : List ByteArray), e = .returned v ∧ OS w' w.heap.size v ms ∧ ms.length ≤ 6 ∧ (∀ s ∈ ms, s.size ≤ 10) ∧ Rd w' B g (N + 300) ∧ w.grownBy w' (some g)
theorem OS.keptg {w w' : World} {base g : Nat} {v : Value} {ss : List ByteArray} (h : OS w base v ss) (hg : w.grownBy w' (some g)) (hb : g < base) : OS w' base v ss := by
 refine h.kept hg ?_
 cases hv : v.ownBlock with
 | none => exact .inl rfl
 | some k => exact .inr (fun e => by injection e with e; have := (h.low k hv).1; omega)
set_option maxRecDepth 100000 in
set_option maxHeartbeats 4000000 in
theorem msgs_any {w : World} {B g N : Nat} (a b d m : Int) (h : Rd w B g N) (hd : -1 ≤ d ∧ d ≤ 41) (hN : N + 300 ≤ 1000000000) :
  Calls Tryz.prog 36 #[.pointer (some ⟨g, 0, none⟩), cfV a b d m] w (MsgsPost w B g N) := by
 obtain ⟨i0, hi, hz0, hz1, hz2⟩ := info_parts info_str
 have HI := Lib.hid hi
 have HZ0 := Lib.hid hz0
 have HZ1 := Lib.hid hz1
 have HZ2 := Lib.hid hz2
 have hgl := h.lt
 have hd1 := hd.1
 have hd2 := hd.2
 have HR := Lib.hid ((h.alloc (.cells #[.int .i64 a, .int .i64 b, .int .i64 d, .int .i64 m] 24)).alloc (.cells #[] 9))
 have hk := (BK.new w #[.int .i64 a, .int .i64 b, .int .i64 d, .int .i64 m] 24).alloc (.cells #[] 9)
 have HO := Lib.hid (OS_made (w.alloc (.cells #[.int .i64 a, .int .i64 b, .int .i64 d, .int .i64 m] 24)) (base := w.heap.size) (g := w.heap.size + 1) (by simp) (by omega))
 have HG := Lib.hid (grown_alloc (grown_alloc (row := some g) (⟨rfl, rfl, rfl, Nat.le_refl _, fun _ _ _ => rfl⟩ : w.grownBy w (some g)) (.cells #[.int .i64 a, .int .i64 b, .int .i64 d, .int .i64 m] 24)) (.cells #[] 9))
 have HK := Lib.hid hk
 clear h hi hz0 hz1 hz2 hk
 go_enter Tryz.func36, Tryz.ntmps36
 go_wp2_with fail
 refine (pick_any _ HR.out (by omega)).mono ?_
 rintro e w1 ⟨⟨x, rfl, hx, _⟩, hr1, hg1⟩
 obtain ⟨h0, h1⟩ := hx (by omega)
 obtain ⟨n0, rfl⟩ := Int.eq_ofNat_of_zero_le h0
 have hn0 : n0 ≤ 6 := by omega
 have HR := Lib.hid hr1
 have HK := Lib.hid (HK.out.grown hg1 (fun e => by injection e with e; omega))
 have HO := Lib.hid (HO.out.keptg hg1 hgl)
 have HG := Lib.hid (grown_trans HG.out hg1)
 clear hr1 hg1 hx h0 h1
 go_wp2_with fail
 go_loopw [5, 6] (fun v n wr => ∃ (k : Nat) (ms : List ByteArray), k ≤ n0 ∧ n = .int .i64 k ∧ ms.length + k = n0 ∧ (∀ s ∈ ms, s.size ≤ 10) ∧ OS wr w.heap.size v ms ∧ BK wr w.heap.size #[.int .i64 a, .int .i64 b, .int .i64 d, .int .i64 m] 24 ∧ Rd wr B g (N + 1 + 40 * ms.length) ∧ w.grownBy wr (some g)) (fun _ n _ => (intOf n).toNat)
 case atStart => exact ⟨n0, [], Nat.le_refl _, rfl, by simp, fun s hs => by simp at hs, HO.out, HK.out, by simpa using HR.out, HG.out⟩
 case round =>
  obtain ⟨k, ms, hk, rfl, hlk, hsz, hown, hbk, hrd, hgr⟩ := hrel
  have c2 := hbk.cell (i := 2) rfl
  have HOr := Lib.hid hown
  have HKr := Lib.hid hbk
  have HRr := Lib.hid hrd
  have HGr := Lib.hid hgr
  have HLK := Lib.hid hlk
  have HSZ := Lib.hid hsz
  have hll : ms.length + k ≤ n0 := by omega
  have hsz0 : w.heap.size ≤ wr.heap.size := hgr.size
  clear hown hbk hrd hgr hlk hsz
  by_cases hkd : 0 < k ∧ 0 < d
  ·obtain ⟨hk0, hd0⟩ := hkd
   obtain ⟨dn, rfl⟩ := Int.eq_ofNat_of_zero_le (show 0 ≤ d by omega)
   go_wp2_with fail
   refine (one_any (m := wr.heap.size) [0, 3, 10] 3 (HRr.out.alloc _) (by omega) (by simp) (by simp) (by omega) (list_row wr _ _ _ rfl)).mono ?_
   rintro e w2 ⟨x, hx, rfl, hr2, hg2⟩
   obtain ⟨q, hq, hq10⟩ : ∃ q : Nat, x = (q : Int) ∧ q ≤ 10 := by
    simp only [List.mem_cons, List.not_mem_nil, or_false] at hx
    exact ⟨x.toNat, by omega, by omega⟩
   subst hq
   have HR2 := Lib.hid hr2
   have HG2 := Lib.hid (grown_trans (grown_alloc HGr.out _) hg2)
   have HO2 := Lib.hid ((HOr.out.alloc _).keptg hg2 hgl)
   have HK2 := Lib.hid ((HKr.out.alloc _).grown hg2 (fun e => by injection e with e; omega))
   clear hr2 hg2 hx
   go_wp2_with fail
   refine (bytes_any q HR2.out (by omega) (by omega)).mono ?_
   rintro e w3 ⟨s, rfl, hs, hr3, hg3⟩
   have HR3 := Lib.hid hr3
   have HG3 := Lib.hid (grown_trans HG2.out hg3)
   have HO3 := Lib.hid (HO2.out.keptg hg3 hgl)
   have hk3 := HK2.out.grown hg3 (fun e => by injection e with e; omega)
   have c2 := hk3.cell (i := 2) rfl
   have HK3 := Lib.hid hk3
   clear hr3 hg3 hk3
   have hw1 : IntKind.i64.wrap ((dn : Int) - 1) = (dn : Int) - 1 := by rw [IntKind.wrap_i64]; omega
   by_cases hlong : (dn : Int) - 1 < (s.size : Int)
   ·obtain ⟨e1, he1⟩ : ∃ e1 : Nat, (dn : Int) - 1 = (e1 : Int) := ⟨dn - 1, by omega⟩
    have he2 : e1 ≤ s.size := by omega
    have he3 : (0 : Int) ≤ (e1 : Int) := by omega
    have he4 : (e1 : Int) ≤ (s.size : Int) := by omega
    have he5 : IntKind.i64.wrap (e1 : Int) = (e1 : Int) := by rw [IntKind.wrap_i64]; omega
    have hx5 : (s.extract 0 e1).size ≤ 10 := by rw [ByteArray.size_extract]; omega
    go_wp2_with (at_builtin; refine wpList_append_os _ rfl _ _ 25 rfl w.heap.size i0 Tryz.underlying25 HI.out HZ0.out HZ1.out HZ2.out _ ms rfl (HO3.out.alloc _) _ _ [(s.extract 0 e1)] rfl (RS_one w3 (s.extract 0 e1)) (by simp; omega) (by have := HG3.out.size; simp; omega) ?_; intro v4 w4 hown4 hg4 _)
    go_roundw
    case rel =>
     have hlow := HO3.out.low
     have hne : u5.ownBlock ≠ some g := fun e => by have := (hlow g e).1; omega
     refine ⟨k - 1, ms ++ [(s.extract 0 e1)], by omega, val_int (by omega), by simp; have := HLK.out; omega, fun z hz => ?_, hown4, ?_, ?_, ?_⟩
     ·rw [List.mem_append] at hz
      rcases hz with hz | hz
      ·exact HSZ.out z hz
      ·rw [List.mem_singleton.1 hz]; exact hx5
     ·exact (HK3.out.alloc _).os' (by decide) (HO3.out.alloc _) hg4
     ·refine ((HR3.out.alloc _).grow hg4 hne (fun j e => ?_)).mono (by simp; omega)
      have h7 := (hlow j e).1
      have hBg : B ≤ g := by obtain ⟨_, _, _, _, _, _, _, _, _, h5, _⟩ := HR3.out; exact h5
      omega
     ·exact grown_own (grown_alloc HG3.out _) hg4 (fun j e => (hlow j e).1)
    case measure => simp [intOf]; omega
   ·go_wp2_with (at_builtin; refine wpList_append_os _ rfl _ _ 25 rfl w.heap.size i0 Tryz.underlying25 HI.out HZ0.out HZ1.out HZ2.out _ ms rfl (HO3.out.alloc _) _ _ [s] rfl (RS_one w3 s) (by simp; omega) (by have := HG3.out.size; simp; omega) ?_; intro v4 w4 hown4 hg4 _)
    go_roundw
    case rel =>
     have hlow := HO3.out.low
     have hne : u5.ownBlock ≠ some g := fun e => by have := (hlow g e).1; omega
     refine ⟨k - 1, ms ++ [s], by omega, val_int (by omega), by simp; have := HLK.out; omega, fun z hz => ?_, hown4, ?_, ?_, ?_⟩
     ·rw [List.mem_append] at hz
      rcases hz with hz | hz
      ·exact HSZ.out z hz
      ·rw [List.mem_singleton.1 hz]; omega
     ·exact (HK3.out.alloc _).os' (by decide) (HO3.out.alloc _) hg4
     ·refine ((HR3.out.alloc _).grow hg4 hne (fun j e => ?_)).mono (by simp; omega)
      have h7 := (hlow j e).1
      have hBg : B ≤ g := by obtain ⟨_, _, _, _, _, _, _, _, _, h5, _⟩ := HR3.out; exact h5
      omega
     ·exact grown_own (grown_alloc HG3.out _) hg4 (fun j e => (hlow j e).1)
    case measure => simp [intOf]; omega
  ·have hex : ¬ (0 < k) ∨ ¬ (0 < d) := by omega
   rcases hex with hex | hex
   ·go_wp2
    go_ret
    exact ⟨_, ms, rfl, HOr.out, by omega, HSZ.out, HRr.out.mono (by omega), HGr.out⟩
   ·by_cases hk0 : 0 < k
    ·go_wp2
     go_ret
     exact ⟨_, ms, rfl, HOr.out, by omega, HSZ.out, HRr.out.mono (by omega), HGr.out⟩
    ·go_wp2
     go_ret
     exact ⟨_, ms, rfl, HOr.out, by omega, HSZ.out, HRr.out.mono (by omega), HGr.out⟩
end Go.Proofs.YtmggoiabcboaiaaGreat
