/- Parts of a proof, 30: LkZ ApK. -/
import Derived.Laws.AppendOwn
import Derived.Test.YtmggoiabcboaiaaGreatZe1
import Derived.Test.YtmggoiabcboaiaaGreatZe2
import Derived.Test.YtmggoiabcboaiaaGreatZe3
import Derived.Test.YtmggoiabcboaiaaGreatZe4
import Derived.Test.YtmggoiabcboaiaaGreatZe5
import Derived.Test.YtmggoiabcboaiaaGreatZe6
import Derived.Test.YtmggoiabcboaiaaGreatZe7
import Derived.Test.YtmggoiabcboaiaaGreatZe8
import Derived.Test.YtmggoiabcboaiaaGreatZe9
import Derived.Test.YtmggoiabcboaiaaGreatZe10
import Derived.Test.YtmggoiabcboaiaaGreatZe11
import Derived.Test.YtmggoiabcboaiaaGreatZe12
import Derived.Test.YtmggoiabcboaiaaGreatZe13
import Derived.Test.YtmggoiabcboaiaaGreatZe14
import Derived.Test.YtmggoiabcboaiaaGreatZe15
import Derived.Test.YtmggoiabcboaiaaGreatZe16
import Derived.Test.YtmggoiabcboaiaaGreatZe17
import Derived.Test.YtmggoiabcboaiaaGreatZe18
import Derived.Test.YtmggoiabcboaiaaGreatZe19
import Derived.Test.YtmggoiabcboaiaaGreatZe20
import Derived.Test.YtmggoiabcboaiaaGreatZe21
import Derived.Test.YtmggoiabcboaiaaGreatZe22
import Derived.Test.YtmggoiabcboaiaaGreatZe23
import Derived.Test.YtmggoiabcboaiaaGreatZe24
import Derived.Test.YtmggoiabcboaiaaGreatZe25
import Derived.Test.YtmggoiabcboaiaaGreatZe26
import Derived.Test.YtmggoiabcboaiaaGreatZe27
import Derived.Test.YtmggoiabcboaiaaGreatZe28
import Derived.Test.YtmggoiabcboaiaaGreatZe29
namespace Go.Proofs.YtmggoiabcboaiaaGreat
open Go.ChangeShapes Go.WideShapes Go.ChangeAt Go.RowKit
set_option linter.unusedVariables false
structure CalB (base : Nat) (w0 wx : World) (M Zb : Nat) (s : Ls) (vm vb vg vt : Value) : Prop where
 bk : BK wx M (lsC s vm vb vg vt) 32
 bq : BK wx Zb #[.int .i64 0, .int .i64 0, .int .i64 0, .int .i64 0, .slice none 0 0, .int .i64 0, .slice none 0 0, .string ⟨#[]⟩, .bool false, .string ⟨#[]⟩, .bool false, .slice none 0 0, .slice none 0 0] 32
 bl : Below w0.heap.size w0 wx
 ol : OL wx base vm s.ms vg s.gs vt s.ts vb s.bs
def CalsB (base : Nat) (w0 wx : World) (M Zb : Nat) (s : Ls) : Prop := ∃ vm vb vg vt, CalB base w0 wx M Zb s vm vb vg vt
theorem CalB.next {base : Nat} {w0 wx wy : World} {M Zb : Nat} {s s' : Ls} {vm vb vg vt um ub ug ut : Value} (h : CalB base w0 wx M Zb s vm vb vg vt) (hM : w0.heap.size ≤ M) (hZ : M ≠ Zb) (hb : Below wx.heap.size wx wy) (ho : OL wy base um s'.ms ug s'.gs ut s'.ts ub s'.bs) :
  CalB base w0 (set13 wy M (.int .i64 s'.c.codec) (.int .i64 s'.c.sum) (.int .i64 s'.c.most) (.int .i64 s'.c.map) um (.int .i64 (s'.nx : Int)) ug (.string (bzL s'.f.held)) (.bool s'.f.over) (.string (bzL s'.h.held)) (.bool s'.h.over) ut ub) M Zb s' um ub ug ut := by
 have hbk := h.bk.from hb
 have hbq := h.bq.from hb
 exact ⟨set13_bk hbk rfl, set13_far hbq hZ, set13_below (h.bl.trans (hb.mono h.bl.size)) hM, ⟨set13_own ho.1 (own_ne hbk line_str ho.1), set13_own ho.2.1 (own_ne hbk line_str ho.2.1), set13_own ho.2.2.1 (own_ne hbk line_str ho.2.2.1), set13_own ho.2.2.2 (own_ne hbk line_str ho.2.2.2)⟩⟩
theorem CalB.drew {base : Nat} {w0 wx : World} {M Zb : Nat} {s : Ls} {vm vb vg vt : Value} (h : CalB base w0 wx M Zb s vm vb vg vt) : CalB base w0 wx.drew M Zb s vm vb vg vt := ⟨h.bk, h.bq, h.bl.drew, h.ol⟩
set_option maxRecDepth 100000 in
set_option maxHeartbeats 2000000 in
theorem specLinePlay_anyB (a b d m : Int) (vm : Value) (ms : List ByteArray) (vz : Value) (zs : List Int) (w : World) (B : Nat) (h : RS w B vm ms) (hz : RZ w B vz zs) (hB : B ≤ w.heap.size)
  (hl : ms.length ≤ 1048576) (hs : ∀ s ∈ ms, s.size ≤ 1048576) (hzl : zs.length ≤ 1048576) :
  Calls Tryz.prog 12 #[cfV a b d m, vm, vz] w (TPostB w.heap.size w (playRes ⟨a, b, d, m⟩ ms zs)) := by
 obtain ⟨am, cm, rfl⟩ := h.shape
 obtain ⟨az, cz, rfl⟩ := hz.shape
 have hzln := zero_line
 have hk := (BK.new w #[.int .i64 a, .int .i64 b, .int .i64 d, .int .i64 m] 24).alloc (.cells #[.int .i64 0, .int .i64 0, .int .i64 0, .int .i64 0, .slice none 0 0, .int .i64 0, .slice none 0 0, .string ⟨#[]⟩, .bool false, .string ⟨#[]⟩, .bool false, .slice none 0 0, .slice none 0 0] 32)
 have hq := BK.new (w.alloc (.cells #[.int .i64 a, .int .i64 b, .int .i64 d, .int .i64 m] 24)) #[.int .i64 0, .int .i64 0, .int .i64 0, .int .i64 0, .slice none 0 0, .int .i64 0, .slice none 0 0, .string ⟨#[]⟩, .bool false, .string ⟨#[]⟩, .bool false, .slice none 0 0, .slice none 0 0] 32
 rw [World.size_alloc] at hq
 have hb := ((Below.refl w.heap.size w).alloc (Nat.le_refl _) (.cells #[.int .i64 a, .int .i64 b, .int .i64 d, .int .i64 m] 24)).alloc (by simp) (.cells #[.int .i64 0, .int .i64 0, .int .i64 0, .int .i64 0, .slice none 0 0, .int .i64 0, .slice none 0 0, .string ⟨#[]⟩, .bool false, .string ⟨#[]⟩, .bool false, .slice none 0 0, .slice none 0 0] 32)
 have HM := Lib.hid ((h.mono hB).below hb)
 have HZ := Lib.hid ((hz.mono hB).below hb)
 have HB := Lib.hid hb
 have HQ := Lib.hid hq
 obtain ⟨c0, c1, c2, c3⟩ : _ ∧ _ ∧ _ ∧ _ := ⟨hk.cell (i := 0) rfl, hk.cell (i := 1) rfl, hk.cell (i := 2) rfl, hk.cell (i := 3) rfl⟩
 have HL := Lib.hid hl
 have HS := Lib.hid hs
 clear h hz hk hq hb hs hl
 go_enter Tryz.func12, Tryz.ntmps12
 go_wp2_with fail
 refine (specLineNew_any a b d m _ ms _ w.heap.size HM.out HB.out.size HL.out HS.out).mono ?_
 rintro e w1 hnew
 have HNEW := Lib.hid hnew
 have hb1 : Below (((w.alloc (.cells #[.int .i64 a, .int .i64 b, .int .i64 d, .int .i64 m] 24)).alloc (.cells #[.int .i64 0, .int .i64 0, .int .i64 0, .int .i64 0, .slice none 0 0, .int .i64 0, .slice none 0 0, .string ⟨#[]⟩, .bool false, .string ⟨#[]⟩, .bool false, .slice none 0 0, .slice none 0 0] 32)).heap.size) ((w.alloc (.cells #[.int .i64 a, .int .i64 b, .int .i64 d, .int .i64 m] 24)).alloc (.cells #[.int .i64 0, .int .i64 0, .int .i64 0, .int .i64 0, .slice none 0 0, .int .i64 0, .slice none 0 0, .string ⟨#[]⟩, .bool false, .string ⟨#[]⟩, .bool false, .slice none 0 0, .slice none 0 0] 32)) w1 := by
  rcases hnew with ⟨_, _, _, _, h⟩ | ⟨_, _, h⟩ <;> exact h
 have HQ1 := Lib.hid (HQ.out.from hb1)
 have HZ1 := Lib.hid (HZ.out.below (hb1.mono HB.out.size))
 have HB1 := Lib.hid (HB.out.trans (hb1.mono HB.out.size))
 have hs1 : w.heap.size + 2 ≤ w1.heap.size := by have := hb1.size; simp at this; omega
 have HS1 := Lib.hid hs1
 have hMZ : w1.heap.size ≠ w.heap.size + 1 := by omega
 have hMW : w.heap.size ≤ w1.heap.size := by omega
 clear hb1 HM HZ hs1 c0 c1 c2 c3 hnew
 rcases HNEW.out with ⟨hn, v1, rfl, hown, -⟩ | ⟨hn, rfl, -⟩
 ·obtain ⟨A1, C1, hsh⟩ := hown.reads.shape
  subst hsh
  have hba := (Below.refl w1.heap.size w1).alloc (Nat.le_refl _) (.cells (lsC (newLs ⟨a, b, d, m⟩ ms) (.slice A1 ms.length C1) (.slice none 0 0) (.slice none 0 0) (.slice none 0 0)) 32)
  have HC0 := Lib.hid (show CalsB w.heap.size w (w1.alloc (.cells (lsC (newLs ⟨a, b, d, m⟩ ms) (.slice A1 ms.length C1) (.slice none 0 0) (.slice none 0 0) (.slice none 0 0)) 32)) w1.heap.size (w.heap.size + 1) (newLs ⟨a, b, d, m⟩ ms) from ⟨_, _, _, _, ⟨BK.new _ _ _, HQ1.out.from hba, HB1.out.trans (hba.mono HB1.out.size), ⟨(hown.below hba).mono (by simp; omega), OS_nil _ _, OS_nil _ _, OS_nil _ _⟩⟩⟩)
  have HNO := Lib.hid (newLs_ok hn)
  have HV := Lib.hid (show playRes ⟨a, b, d, m⟩ ms zs = (zs.take 80).foldl Ls.doP (newLs ⟨a, b, d, m⟩ ms) by unfold playRes; rw [if_pos hn])
  have HB2 := Lib.hid (hba.mono HB1.out.size)
  have HZ2 := Lib.hid (HZ1.out.below HB2.out)
  clear hown hba
  go_wp2
  go_loopw [8] (fun i wr => ∃ k : Nat, k ≤ zs.length ∧ k ≤ 80 ∧ i = .int .i64 (k : Int) ∧ CalsB w.heap.size w wr w1.heap.size (w.heap.size + 1) ((zs.take k).foldl Ls.doP (newLs ⟨a, b, d, m⟩ ms)) ∧ RZ wr w.heap.size (.slice az zs.length cz) zs) (fun i _ => 80 - (intOf i).toNat)
  case atStart => exact ⟨0, Nat.zero_le _, Nat.zero_le _, rfl, HC0.out, HZ2.out⟩
  case round =>
   obtain ⟨k, hk, hk80, rfl, hcs, hrz⟩ := hrel
   have HCS := Lib.hid hcs
   have HRZ := Lib.hid hrz
   clear hcs hrz HC0 HZ2
   have HOQ := Lib.hid (Ls.Ok.plays (zs.take k) HNO.out)
   by_cases hlt : k < zs.length ∧ k < 80
   ·obtain ⟨hlt1, hlt2⟩ := hlt
    obtain ⟨xa, rfl, hxB, d0⟩ := HRZ.out.at_ hlt1
    have HST := Lib.hid (show (zs.take (k + 1)).foldl Ls.doP (newLs ⟨a, b, d, m⟩ ms) = ((zs.take k).foldl Ls.doP (newLs ⟨a, b, d, m⟩ ms)).doP zs[k] by rw [List.take_succ_eq_append_getElem hlt1, List.foldl_append]; rfl)
    generalize zs[k] = z at *
    generalize (zs.take k).foldl Ls.doP (newLs ⟨a, b, d, m⟩ ms) = q at *
    obtain ⟨um, ub, ug, ut, hcal⟩ := HCS.out
    obtain ⟨am4, cm4, rfl⟩ := hcal.ol.1.reads.shape
    obtain ⟨ag4, cg4, rfl⟩ := hcal.ol.2.1.reads.shape
    obtain ⟨at4, ct4, rfl⟩ := hcal.ol.2.2.1.reads.shape
    obtain ⟨ab4, cb4, rfl⟩ := hcal.ol.2.2.2.reads.shape
    have HC := Lib.hid hcal
    obtain ⟨c0, c1, c2, c3, c4, c5, c6, c7, c8, c9, c10, c11, c12⟩ := cells13 hcal.bk
    clear hcal
    go_wp2_with fail
    refine (l7ConfOk_any q.c.codec q.c.sum q.c.most q.c.map _).mono ?_
    rintro e w2 ⟨rfl, hb2⟩
    rw [show confB ⟨q.c.codec, q.c.sum, q.c.most, q.c.map⟩ = true from HOQ.out.conf]
    have HC2 := Lib.hid (show CalB w.heap.size w w2 w1.heap.size (w.heap.size + 1) q (.slice am4 q.ms.length cm4) (.slice ab4 q.bs.length cb4) (.slice ag4 q.gs.length cg4) (.slice at4 q.ts.length ct4) from ⟨HC.out.bk.from hb2, HC.out.bq.from hb2, HC.out.bl.trans (hb2.mono HC.out.bl.size), HC.out.ol.below hb2⟩)
    have HR2 := Lib.hid (HRZ.out.below (hb2.mono HC.out.bl.size))
    have d2 := (hb2.cell (p := xa.add k) (by rw [add_block]; exact Nat.lt_of_lt_of_le hxB HC.out.bl.size)).trans d0
    clear d0 c0 c1 c2 c3 c4 c5 c6 c7 c8 c9 c10 c11 c12 hb2
    obtain ⟨c0, c1, c2, c3, c4, c5, c6, c7, c8, c9, c10, c11, c12⟩ := cells13 HC2.out.bk
    go_wp2_with fail
    have hX := HC2.out.drew
    have hS := And.intro (cells13 hX.bk) (show w2.drew.cell? (xa.add k) = some (.int .i64 z) from d2)
    have hRd : RZ w2.drew w.heap.size (.slice (some xa) zs.length cz) zs := HR2.out
    clear c0 c1 c2 c3 c4 c5 c6 c7 c8 c9 c10 c11 c12 d2
    refine wp_region_held_drew (S := (fun wx => (wx.cell? ⟨w1.heap.size, 0, none⟩ = some (.int .i64 q.c.codec) ∧ wx.cell? ⟨w1.heap.size, 1, none⟩ = some (.int .i64 q.c.sum) ∧ wx.cell? ⟨w1.heap.size, 2, none⟩ = some (.int .i64 q.c.most) ∧ wx.cell? ⟨w1.heap.size, 3, none⟩ = some (.int .i64 q.c.map) ∧ wx.cell? ⟨w1.heap.size, 4, none⟩ = some (.slice am4 q.ms.length cm4) ∧ wx.cell? ⟨w1.heap.size, 5, none⟩ = some (.int .i64 (q.nx : Int)) ∧ wx.cell? ⟨w1.heap.size, 6, none⟩ = some (.slice ag4 q.gs.length cg4) ∧ wx.cell? ⟨w1.heap.size, 7, none⟩ = some (.string (bzL q.f.held)) ∧ wx.cell? ⟨w1.heap.size, 8, none⟩ = some (.bool q.f.over) ∧ wx.cell? ⟨w1.heap.size, 9, none⟩ = some (.string (bzL q.h.held)) ∧ wx.cell? ⟨w1.heap.size, 10, none⟩ = some (.bool q.h.over) ∧ wx.cell? ⟨w1.heap.size, 11, none⟩ = some (.slice at4 q.ts.length ct4) ∧ wx.cell? ⟨w1.heap.size, 12, none⟩ = some (.slice ab4 q.bs.length cb4)) ∧ wx.cell? (xa.add k) = some (.int .i64 z))) (by kernel_rfl) hS (fun hHeld => ?_)
    obtain ⟨wd, hwd⟩ : ∃ wd, wd = w2.drew := ⟨_, rfl⟩
    rw [← hwd] at hX hS hRd ⊢
    clear hwd
    have HD := Lib.hid hS.2
    have HDO := Lib.hid (fun (x1 x2 x3 x4 : Value) (u : World) (h : OL u w.heap.size x1 q.ms x3 q.gs x4 q.ts x2 q.bs) (hu : w.heap.size ≤ u.heap.size) => l8Do_anyB q HOQ.out z x1 x2 x3 x4 u h hu)
    generalize q.doP z = p at *
    refine tkH 0 ?_ rfl (Or.inl ⟨by rfl, ?_⟩) ?_; rotate_left
    ·intro wq hSw; (try dsimp only at hSw); (try simp only [gT, gZ]); go_simp; (try with_reducible rfl)
    simp only [Act.put, gT, gZ, sT, sZ, sS]
    refine tkH 1 ?_ rfl (Or.inl ⟨by rfl, ?_⟩) ?_; rotate_left
    ·intro wq hSw; (try dsimp only at hSw); (try simp only [gT, gS, gZ]); go_simp; (try with_reducible rfl)
    simp only [Act.put, gT, gS, gZ, sT, sZ, sS]
    refine tkH 2 ?_ rfl (Or.inl ⟨by rfl, ?_⟩) ?_; rotate_left
    ·intro wq hSw; (try dsimp only at hSw); (try simp only [gT, gS, gZ]); go_simp; (try with_reducible rfl)
    simp only [Act.put, gT, gS, gZ, sT, sZ, sS]
    refine tkH 3 ?_ rfl (Or.inl ⟨by rfl, ?_⟩) ?_; rotate_left
    ·intro wq hSw; (try dsimp only at hSw); (try simp only [gT, gS, gZ]); go_simp; (try with_reducible rfl)
    simp only [Act.put, gT, gS, gZ, sT, sZ, sS]
    refine tkH 4 ?_ rfl (Or.inl ⟨by rfl, ?_⟩) ?_; rotate_left
    ·intro wq hSw; (try dsimp only at hSw); (try simp only [gT, gS, gZ]); go_simp; (try with_reducible rfl)
    simp only [Act.put, gT, gS, gZ, sT, sZ, sS]
    refine wpAnyH_ready (rs := [5, 9]) (by kernel_rfl) (by simp) ?_
    refine AllReadyH.cons rfl ?_ (AllReadyH.cons rfl ?_ AllReadyH.nil)
    ·intro K hK
     (try simp only [gT, gS, gZ])
     go_simp
     go_at_call 43
     refine (HDO.out _ _ _ _ wd hX.ol hX.bl.size).mono ?_
     rintro e w5 ⟨xm, xb, xg, xt, b5, rfl, hol5, hb5⟩
     obtain ⟨am3, cm3, rfl⟩ := hol5.1.reads.shape
     obtain ⟨ag3, cg3, rfl⟩ := hol5.2.1.reads.shape
     obtain ⟨at3, ct3, rfl⟩ := hol5.2.2.1.reads.shape
     obtain ⟨ab3, cb3, rfl⟩ := hol5.2.2.2.reads.shape
     have hS := And.intro (cells13 (hX.bk.from hb5)) ((hb5.cell (p := xa.add k) (by rw [add_block]; exact Nat.lt_of_lt_of_le hxB hX.bl.size)).trans HD.out)
     refine hK.out _ _ hS (fun hHeld => ?_)
     clear hK K
     refine tkH 6 ?_ rfl (Or.inl ⟨by rfl, ?_⟩) ?_; rotate_left
     ·intro wq hSw; (try dsimp only at hSw); (try simp only [gT, gS, gZ]); go_simp; (try with_reducible rfl)
     simp only [Act.put, gT, gS, gZ, sT, sZ, sS]
     refine tkH 7 ?_ rfl (Or.inl ⟨by rfl, ?_⟩) ?_; rotate_left
     ·intro wq hSw; (try dsimp only at hSw); (try simp only [gT, gS, gZ]); go_simp; (try with_reducible rfl)
     simp only [Act.put, gT, gS, gZ, sT, sZ, sS]
     refine tkH 8 ?_ rfl (Or.inl ⟨by rfl, ?_⟩) ?_; rotate_left
     ·intro wq hSw; (try dsimp only at hSw); (try simp only [gT, gS, gZ]); go_simp; (try with_reducible rfl)
     simp only [Act.put, gT, gS, gZ, sT, sZ, sS]
     have hbA := hb5.trans (((Below.refl w5.heap.size w5).alloc (Nat.le_refl _) (.cells #[.int .i64 0, .int .i64 0, .int .i64 0, .int .i64 0, .slice none 0 0, .int .i64 0, .slice none 0 0, .string ⟨#[]⟩, .bool false, .string ⟨#[]⟩, .bool false, .slice none 0 0, .slice none 0 0] 32)).mono hb5.size)
     have hS := And.intro (cells13 (hX.bk.from hbA)) ((hbA.cell (p := xa.add k) (by rw [add_block]; exact Nat.lt_of_lt_of_le hxB hX.bl.size)).trans HD.out)
     refine wpAnyH_ready (rs := [9]) (by kernel_rfl) (by simp) ?_
     refine AllReadyH.cons rfl (fun K hK => ?_) AllReadyH.nil
     (try simp only [gT, gS, gZ])
     skip
     go_simp
     skip
     refine hK.out _ _ hS (fun hHeld => ?_)
     clear hK K
     have hbP := hb5.trans (((Below.refl w5.heap.size w5).alloc (Nat.le_refl _) (.cells (lsC p (.slice am3 p.ms.length cm3) (.slice ab3 p.bs.length cb3) (.slice ag3 p.gs.length cg3) (.slice at3 p.ts.length ct3)) 32)).mono hb5.size)
     have hS := And.intro (cells13 (hX.bk.from hbP)) ((hbP.cell (p := xa.add k) (by rw [add_block]; exact Nat.lt_of_lt_of_le hxB hX.bl.size)).trans HD.out)
     refine wpAnyH_ready (rs := [10]) (by kernel_rfl) (by simp) ?_
     refine AllReadyH.cons rfl (fun K hK => ?_) AllReadyH.nil
     (try simp only [gT, gS, gZ])
     skip
     go_simp
     skip
     refine hK.out _ _ hS (fun hHeld => ?_)
     clear hK K
     refine tkH 11 ?_ rfl (Or.inl ⟨by rfl, ?_⟩) ?_; rotate_left
     ·intro wq hSw; (try dsimp only at hSw); (try simp only [gT, gS, gZ]); go_simp; (try with_reducible rfl)
     simp only [Act.put, gT, gS, gZ, sT, sZ, sS]
     refine wpAnyH_done (by kernel_rfl) ?_ _
     have hnew := BK.new w5 (lsC p (.slice am3 p.ms.length cm3) (.slice ab3 p.bs.length cb3) (.slice ag3 p.gs.length cg3) (.slice at3 p.ts.length ct3)) 32
     have hol9 := hol5.below ((Below.refl _ _).alloc (Nat.le_refl _) (.cells (lsC p (.slice am3 p.ms.length cm3) (.slice ab3 p.bs.length cb3) (.slice ag3 p.gs.length cg3) (.slice at3 p.ts.length ct3)) 32))
     have hXP : CalB w.heap.size w (w5.alloc (.cells (lsC p (.slice am3 p.ms.length cm3) (.slice ab3 p.bs.length cb3) (.slice ag3 p.gs.length cg3) (.slice at3 p.ts.length ct3)) 32)) w1.heap.size (w.heap.size + 1) q (.slice am4 q.ms.length cm4) (.slice ab4 q.bs.length cb4) (.slice ag4 q.gs.length cg4) (.slice at4 q.ts.length ct4) := ⟨hX.bk.from hbP, hX.bq.from hbP, hX.bl.trans (hbP.mono hX.bl.size), hX.ol.below hbP⟩
     obtain ⟨e0, e1, e2, e3, e4, e5, e6, e7, e8, e9, e10, e11, e12⟩ := cells13 hnew
     obtain ⟨c0, c1, c2, c3, c4, c5, c6, c7, c8, c9, c10, c11, c12⟩ := cells13 hXP.bk
     obtain ⟨f0, f1, f2, f3, f4, f5, f6, f7, f8, f9, f10, f11, f12⟩ := free13 hXP.bk
     have HXN := Lib.hid (hXP.next (s' := p) hMW hMZ (Below.refl _ _) hol9)
     have HRN := Lib.hid ((hRd.below (hbP.mono hX.bl.size)).below (set13_below (Below.refl w.heap.size _) hMW (v0 := .int .i64 p.c.codec) (v1 := .int .i64 p.c.sum) (v2 := .int .i64 p.c.most) (v3 := .int .i64 p.c.map) (v4 := .slice am3 p.ms.length cm3) (v5 := .int .i64 (p.nx : Int)) (v6 := .slice ag3 p.gs.length cg3) (v7 := .string (bzL p.f.held)) (v8 := .bool p.f.over) (v9 := .string (bzL p.h.held)) (v10 := .bool p.h.over) (v11 := .slice at3 p.ts.length ct3) (v12 := .slice ab3 p.bs.length cb3)))
     clear hXP hX hS hRd hbP hnew hol9 hol5 hb5 hbA
     go_wp2
     go_roundw
     case rel => exact ⟨k + 1, hlt1, hlt2, by go_num, by rw [HST.out]; exact ⟨_, _, _, _, HXN.out⟩, HRN.out⟩
     case measure => simp [intOf]; omega
    ·intro K hK
     (try simp only [gT, gS, gZ])
     go_simp
     have hbA := (Below.refl wd.heap.size wd).alloc (Nat.le_refl _) (.cells #[.int .i64 0, .int .i64 0, .int .i64 0, .int .i64 0, .slice none 0 0, .int .i64 0, .slice none 0 0, .string ⟨#[]⟩, .bool false, .string ⟨#[]⟩, .bool false, .slice none 0 0, .slice none 0 0] 32)
     have hS := And.intro (cells13 (hX.bk.from hbA)) ((hbA.cell (p := xa.add k) (by rw [add_block]; exact Nat.lt_of_lt_of_le hxB hX.bl.size)).trans HD.out)
     refine hK.out _ _ hS (fun hHeld => ?_)
     clear hK K
     have hzA := BK.new wd #[.int .i64 0, .int .i64 0, .int .i64 0, .int .i64 0, .slice none 0 0, .int .i64 0, .slice none 0 0, .string ⟨#[]⟩, .bool false, .string ⟨#[]⟩, .bool false, .slice none 0 0, .slice none 0 0] 32
     refine wpAnyH_ready (rs := [5]) (by kernel_rfl) (by simp) ?_
     refine AllReadyH.cons rfl (fun K hK => ?_) AllReadyH.nil
     (try simp only [gT, gS, gZ])
     go_simp
     go_at_call 43
     refine (HDO.out _ _ _ _ _ (hX.ol.below hbA) (Nat.le_trans hX.bl.size hbA.size)).mono ?_
     rintro e w5 ⟨xm, xb, xg, xt, b5, rfl, hol5, hb5⟩
     have hbB := hbA.trans (hb5.mono hbA.size)
     have hS := And.intro (cells13 (hX.bk.from hbB)) ((hbB.cell (p := xa.add k) (by rw [add_block]; exact Nat.lt_of_lt_of_le hxB hX.bl.size)).trans HD.out)
     refine hK.out _ _ hS (fun hHeld => ?_)
     clear hK K
     obtain ⟨am3, cm3, rfl⟩ := hol5.1.reads.shape
     obtain ⟨ag3, cg3, rfl⟩ := hol5.2.1.reads.shape
     obtain ⟨at3, ct3, rfl⟩ := hol5.2.2.1.reads.shape
     obtain ⟨ab3, cb3, rfl⟩ := hol5.2.2.2.reads.shape
     have hzB := hzA.from hb5
     refine tkH 6 ?_ rfl (Or.inl ⟨by rfl, ?_⟩) ?_; rotate_left
     ·intro wq hSw; (try dsimp only at hSw); (try simp only [gT, gS, gZ]); go_simp; (try with_reducible rfl)
     simp only [Act.put, gT, gS, gZ, sT, sZ, sS]
     refine tkH 7 ?_ rfl (Or.inl ⟨by rfl, ?_⟩) ?_; rotate_left
     ·intro wq hSw; (try dsimp only at hSw); (try simp only [gT, gS, gZ]); go_simp; (try with_reducible rfl)
     simp only [Act.put, gT, gS, gZ, sT, sZ, sS]
     refine tkH 8 ?_ rfl (Or.inl ⟨by rfl, ?_⟩) ?_; rotate_left
     ·intro wq hSw; (try dsimp only at hSw); (try simp only [gT, gS, gZ]); go_simp; (try with_reducible rfl)
     simp only [Act.put, gT, gS, gZ, sT, sZ, sS]
     have hbP : Below wd.heap.size wd (set13 w5 wd.heap.size (.int .i64 p.c.codec) (.int .i64 p.c.sum) (.int .i64 p.c.most) (.int .i64 p.c.map) (.slice am3 p.ms.length cm3) (.int .i64 (p.nx : Int)) (.slice ag3 p.gs.length cg3) (.string (bzL p.f.held)) (.bool p.f.over) (.string (bzL p.h.held)) (.bool p.h.over) (.slice at3 p.ts.length ct3) (.slice ab3 p.bs.length cb3)) := set13_below hbB (Nat.le_refl _)
     have hS := And.intro (cells13 (hX.bk.from hbP)) ((hbP.cell (p := xa.add k) (by rw [add_block]; exact Nat.lt_of_lt_of_le hxB hX.bl.size)).trans HD.out)
     obtain ⟨z0, z1, z2, z3, z4, z5, z6, z7, z8, z9, z10, z11, z12⟩ := cells13 hzB
     obtain ⟨f0, f1, f2, f3, f4, f5, f6, f7, f8, f9, f10, f11, f12⟩ := free13 hzB
     refine wpAnyH_ready (rs := [10]) (by kernel_rfl) (by simp) ?_
     refine AllReadyH.cons rfl (fun K hK => ?_) AllReadyH.nil
     (try simp only [gT, gS, gZ])
     skip
     go_simp
     skip
     refine hK.out _ _ hS (fun hHeld => ?_)
     clear hK K
     clear z0 z1 z2 z3 z4 z5 z6 z7 z8 z9 z10 z11 z12 f0 f1 f2 f3 f4 f5 f6 f7 f8 f9 f10 f11 f12
     refine tkH 11 ?_ rfl (Or.inl ⟨by rfl, ?_⟩) ?_; rotate_left
     ·intro wq hSw; (try dsimp only at hSw); (try simp only [gT, gS, gZ]); go_simp; (try with_reducible rfl)
     simp only [Act.put, gT, gS, gZ, sT, sZ, sS]
     refine wpAnyH_done (by kernel_rfl) ?_ _
     obtain ⟨wy, hwy⟩ : ∃ wy, wy = ((((((((((((w5.setCell ⟨wd.heap.size, 0, none⟩ (.int .i64 p.c.codec)).setCell ⟨wd.heap.size, 1, none⟩ (.int .i64 p.c.sum)).setCell ⟨wd.heap.size, 2, none⟩ (.int .i64 p.c.most)).setCell ⟨wd.heap.size, 3, none⟩ (.int .i64 p.c.map)).setCell ⟨wd.heap.size, 4, none⟩ (.slice am3 p.ms.length cm3)).setCell ⟨wd.heap.size, 5, none⟩ (.int .i64 (p.nx : Int))).setCell ⟨wd.heap.size, 6, none⟩ (.slice ag3 p.gs.length cg3)).setCell ⟨wd.heap.size, 7, none⟩ (.string (bzL p.f.held))).setCell ⟨wd.heap.size, 8, none⟩ (.bool p.f.over)).setCell ⟨wd.heap.size, 9, none⟩ (.string (bzL p.h.held))).setCell ⟨wd.heap.size, 10, none⟩ (.bool p.h.over)).setCell ⟨wd.heap.size, 11, none⟩ (.slice at3 p.ts.length ct3)).setCell ⟨wd.heap.size, 12, none⟩ (.slice ab3 p.bs.length cb3) := ⟨_, rfl⟩
     rw [← hwy]
     have hbP : Below wd.heap.size wd wy := by rw [hwy]; exact hbP
     have hnew : BK wy wd.heap.size (lsC p (.slice am3 p.ms.length cm3) (.slice ab3 p.bs.length cb3) (.slice ag3 p.gs.length cg3) (.slice at3 p.ts.length ct3)) 32 := by rw [hwy]; exact set13_bk hzB rfl
     have hol9 : OL wy w.heap.size (.slice am3 p.ms.length cm3) p.ms (.slice ag3 p.gs.length cg3) p.gs (.slice at3 p.ts.length ct3) p.ts (.slice ab3 p.bs.length cb3) p.bs := by rw [hwy]; exact (⟨set13_own hol5.1 (own_ne hzB line_str hol5.1), set13_own hol5.2.1 (own_ne hzB line_str hol5.2.1), set13_own hol5.2.2.1 (own_ne hzB line_str hol5.2.2.1), set13_own hol5.2.2.2 (own_ne hzB line_str hol5.2.2.2)⟩ : OL (set13 w5 wd.heap.size (.int .i64 p.c.codec) (.int .i64 p.c.sum) (.int .i64 p.c.most) (.int .i64 p.c.map) (.slice am3 p.ms.length cm3) (.int .i64 (p.nx : Int)) (.slice ag3 p.gs.length cg3) (.string (bzL p.f.held)) (.bool p.f.over) (.string (bzL p.h.held)) (.bool p.h.over) (.slice at3 p.ts.length ct3) (.slice ab3 p.bs.length cb3)) w.heap.size (.slice am3 p.ms.length cm3) p.ms (.slice ag3 p.gs.length cg3) p.gs (.slice at3 p.ts.length ct3) p.ts (.slice ab3 p.bs.length cb3) p.bs)
     clear hwy
     have hXP : CalB w.heap.size w wy w1.heap.size (w.heap.size + 1) q (.slice am4 q.ms.length cm4) (.slice ab4 q.bs.length cb4) (.slice ag4 q.gs.length cg4) (.slice at4 q.ts.length ct4) := ⟨hX.bk.from hbP, hX.bq.from hbP, hX.bl.trans (hbP.mono hX.bl.size), hX.ol.below hbP⟩
     obtain ⟨e0, e1, e2, e3, e4, e5, e6, e7, e8, e9, e10, e11, e12⟩ := cells13 hnew
     obtain ⟨c0, c1, c2, c3, c4, c5, c6, c7, c8, c9, c10, c11, c12⟩ := cells13 hXP.bk
     obtain ⟨f0, f1, f2, f3, f4, f5, f6, f7, f8, f9, f10, f11, f12⟩ := free13 hXP.bk
     have HXN := Lib.hid (hXP.next (s' := p) hMW hMZ (Below.refl _ _) hol9)
     have HRN := Lib.hid ((hRd.below (hbP.mono hX.bl.size)).below (set13_below (Below.refl w.heap.size _) hMW (v0 := .int .i64 p.c.codec) (v1 := .int .i64 p.c.sum) (v2 := .int .i64 p.c.most) (v3 := .int .i64 p.c.map) (v4 := .slice am3 p.ms.length cm3) (v5 := .int .i64 (p.nx : Int)) (v6 := .slice ag3 p.gs.length cg3) (v7 := .string (bzL p.f.held)) (v8 := .bool p.f.over) (v9 := .string (bzL p.h.held)) (v10 := .bool p.h.over) (v11 := .slice at3 p.ts.length ct3) (v12 := .slice ab3 p.bs.length cb3)))
     clear hXP hX hS hRd hbP hnew hol9 hol5 hb5 hbA hbB hzA hzB
     go_wp2
     go_roundw
     case rel => exact ⟨k + 1, hlt1, hlt2, by go_num, by rw [HST.out]; exact ⟨_, _, _, _, HXN.out⟩, HRN.out⟩
     case measure => simp [intOf]; omega
   ·have HTK := Lib.hid (show zs.take 80 = zs.take k by
     rcases (show k = 80 ∨ (k = zs.length ∧ k ≤ 80) by omega) with h | ⟨h, h2⟩
     ·rw [h]
     ·rw [h, List.take_length, List.take_of_length_le (by omega)])
    have HV2 := Lib.hid (HV.out.trans (by rw [HTK.out]))
    generalize (zs.take k).foldl Ls.doP (newLs ⟨a, b, d, m⟩ ms) = q at *
    obtain ⟨um, ub, ug, ut, hcal⟩ := HCS.out
    obtain ⟨am4, cm4, rfl⟩ := hcal.ol.1.reads.shape
    obtain ⟨ag4, cg4, rfl⟩ := hcal.ol.2.1.reads.shape
    obtain ⟨at4, ct4, rfl⟩ := hcal.ol.2.2.1.reads.shape
    obtain ⟨ab4, cb4, rfl⟩ := hcal.ol.2.2.2.reads.shape
    have HC := Lib.hid hcal
    obtain ⟨c0, c1, c2, c3, c4, c5, c6, c7, c8, c9, c10, c11, c12⟩ := cells13 hcal.bk
    obtain ⟨z0, z1, z2, z3, z4, z5, z6, z7, z8, z9, z10, z11, z12⟩ := cells13 hcal.bq
    obtain ⟨f0, f1, f2, f3, f4, f5, f6, f7, f8, f9, f10, f11, f12⟩ := free13 hcal.bq
    clear hcal
    have hno : (k < zs.length ∧ 80 ≤ k) ∨ zs.length ≤ k := by omega
    clear hlt
    rcases hno with ⟨h1, h2⟩ | h1
    ·clear hk hk80
     have h3 : decide ((k : Int) < 80) = false := by simp; omega
     go_wp2
     rw [HV2.out]
     refine line_ret Tryz.results12 (set13_bk (v0 := .int .i64 q.c.codec) (v1 := .int .i64 q.c.sum) (v2 := .int .i64 q.c.most) (v3 := .int .i64 q.c.map) (v4 := .slice am4 q.ms.length cm4) (v5 := .int .i64 (q.nx : Int)) (v6 := .slice ag4 q.gs.length cg4) (v7 := .string (bzL q.f.held)) (v8 := .bool q.f.over) (v9 := .string (bzL q.h.held)) (v10 := .bool q.h.over) (v11 := .slice at4 q.ts.length ct4) (v12 := .slice ab4 q.bs.length cb4) HC.out.bq rfl) rfl rfl ?_
     exact ⟨(.slice am4 q.ms.length cm4), (.slice ab4 q.bs.length cb4), (.slice ag4 q.gs.length cg4), (.slice at4 q.ts.length ct4), rfl, ⟨set13_own HC.out.ol.1 (own_ne HC.out.bq line_str HC.out.ol.1), set13_own HC.out.ol.2.1 (own_ne HC.out.bq line_str HC.out.ol.2.1), set13_own HC.out.ol.2.2.1 (own_ne HC.out.bq line_str HC.out.ol.2.2.1), set13_own HC.out.ol.2.2.2 (own_ne HC.out.bq line_str HC.out.ol.2.2.2)⟩, set13_below HC.out.bl (by omega)⟩
    ·clear hk hk80
     have h3 : decide ((k : Int) < (zs.length : Int)) = false := by simp; omega
     go_wp2
     rw [HV2.out]
     refine line_ret Tryz.results12 (set13_bk (v0 := .int .i64 q.c.codec) (v1 := .int .i64 q.c.sum) (v2 := .int .i64 q.c.most) (v3 := .int .i64 q.c.map) (v4 := .slice am4 q.ms.length cm4) (v5 := .int .i64 (q.nx : Int)) (v6 := .slice ag4 q.gs.length cg4) (v7 := .string (bzL q.f.held)) (v8 := .bool q.f.over) (v9 := .string (bzL q.h.held)) (v10 := .bool q.h.over) (v11 := .slice at4 q.ts.length ct4) (v12 := .slice ab4 q.bs.length cb4) HC.out.bq rfl) rfl rfl ?_
     exact ⟨(.slice am4 q.ms.length cm4), (.slice ab4 q.bs.length cb4), (.slice ag4 q.gs.length cg4), (.slice at4 q.ts.length ct4), rfl, ⟨set13_own HC.out.ol.1 (own_ne HC.out.bq line_str HC.out.ol.1), set13_own HC.out.ol.2.1 (own_ne HC.out.bq line_str HC.out.ol.2.1), set13_own HC.out.ol.2.2.1 (own_ne HC.out.bq line_str HC.out.ol.2.2.1), set13_own HC.out.ol.2.2.2 (own_ne HC.out.bq line_str HC.out.ol.2.2.2)⟩, set13_below HC.out.bl (by omega)⟩
 ·have HV := Lib.hid (show playRes ⟨a, b, d, m⟩ ms zs = zeroLs by unfold playRes; rw [if_neg (by rw [hn]; decide)])
  have hba := (Below.refl w1.heap.size w1).alloc (Nat.le_refl _) (.cells #[.int .i64 0, .int .i64 0, .int .i64 0, .int .i64 0, .slice none 0 0, .int .i64 0, .slice none 0 0, .string ⟨#[]⟩, .bool false, .string ⟨#[]⟩, .bool false, .slice none 0 0, .slice none 0 0] 32)
  have hq0 := HQ1.out.from hba
  have hc0 := BK.new w1 #[.int .i64 0, .int .i64 0, .int .i64 0, .int .i64 0, .slice none 0 0, .int .i64 0, .slice none 0 0, .string ⟨#[]⟩, .bool false, .string ⟨#[]⟩, .bool false, .slice none 0 0, .slice none 0 0] 32
  have HB2 := Lib.hid (HB1.out.trans (hba.mono HB1.out.size))
  obtain ⟨wz, hwz⟩ : ∃ x, x = w1.alloc (.cells #[.int .i64 0, .int .i64 0, .int .i64 0, .int .i64 0, .slice none 0 0, .int .i64 0, .slice none 0 0, .string ⟨#[]⟩, .bool false, .string ⟨#[]⟩, .bool false, .slice none 0 0, .slice none 0 0] 32) := ⟨_, rfl⟩
  rw [← hwz] at hq0 hc0 HB2
  have HC0 := Lib.hid hc0
  have HQ0 := Lib.hid hq0
  clear hba hq0 hc0
  go_upto_region 2 with fail
  rw [← hwz]
  clear hwz
  go_wp2
  go_loopw [8] (fun i wr => i = .int .i64 0 ∧ wr = wz) (fun i _ => 0)
  case atStart => exact ⟨rfl, rfl⟩
  case round =>
   obtain ⟨rfl, rfl⟩ := hrel
   rcases Nat.eq_zero_or_pos zs.length with hz0 | hz0
   ·have h3 : zs.length ≤ 0 := by omega
    clear hz0
    obtain ⟨c0, c1, c2, c3, c4, c5, c6, c7, c8, c9, c10, c11, c12⟩ := cells13 HC0.out
    obtain ⟨z0, z1, z2, z3, z4, z5, z6, z7, z8, z9, z10, z11, z12⟩ := cells13 HQ0.out
    obtain ⟨f0, f1, f2, f3, f4, f5, f6, f7, f8, f9, f10, f11, f12⟩ := free13 HQ0.out
    go_wp2
    rw [HV.out]
    refine line_ret Tryz.results12 (set13_bk (v0 := .int .i64 0) (v1 := .int .i64 0) (v2 := .int .i64 0) (v3 := .int .i64 0) (v4 := .slice none 0 0) (v5 := .int .i64 0) (v6 := .slice none 0 0) (v7 := .string ⟨#[]⟩) (v8 := .bool false) (v9 := .string ⟨#[]⟩) (v10 := .bool false) (v11 := .slice none 0 0) (v12 := .slice none 0 0) HQ0.out rfl) rfl rfl ?_
    exact ⟨(.slice none 0 0), (.slice none 0 0), (.slice none 0 0), (.slice none 0 0), rfl, ⟨OS_nil _ _, OS_nil _ _, OS_nil _ _, OS_nil _ _⟩, set13_below HB2.out (by omega)⟩
   ·have h3 : 0 < zs.length := hz0
    clear hz0
    obtain ⟨c0, c1, c2, c3, c4, c5, c6, c7, c8, c9, c10, c11, c12⟩ := cells13 HC0.out
    go_wp2_with fail
    refine (l7ConfOk_any 0 0 0 0 _).mono ?_
    rintro e w2 ⟨rfl, hb2⟩
    rw [show confB ⟨0, 0, 0, 0⟩ = false by decide]
    have HC2 := Lib.hid (HC0.out.from hb2)
    have HQ2 := Lib.hid (HQ0.out.from hb2)
    have HB3 := Lib.hid (HB2.out.trans (hb2.mono HB2.out.size))
    clear hb2 c0 c1 c2 c3 c4 c5 c6 c7 c8 c9 c10 c11 c12
    obtain ⟨c0, c1, c2, c3, c4, c5, c6, c7, c8, c9, c10, c11, c12⟩ := cells13 HC2.out
    obtain ⟨z0, z1, z2, z3, z4, z5, z6, z7, z8, z9, z10, z11, z12⟩ := cells13 HQ2.out
    obtain ⟨f0, f1, f2, f3, f4, f5, f6, f7, f8, f9, f10, f11, f12⟩ := free13 HQ2.out
    go_wp2
    rw [HV.out]
    refine line_ret Tryz.results12 (set13_bk (v0 := .int .i64 0) (v1 := .int .i64 0) (v2 := .int .i64 0) (v3 := .int .i64 0) (v4 := .slice none 0 0) (v5 := .int .i64 0) (v6 := .slice none 0 0) (v7 := .string ⟨#[]⟩) (v8 := .bool false) (v9 := .string ⟨#[]⟩) (v10 := .bool false) (v11 := .slice none 0 0) (v12 := .slice none 0 0) HQ2.out rfl) rfl rfl ?_
    exact ⟨(.slice none 0 0), (.slice none 0 0), (.slice none 0 0), (.slice none 0 0), rfl, ⟨OS_nil _ _, OS_nil _ _, OS_nil _ _, OS_nil _ _⟩, set13_below HB3.out (by omega)⟩
end Go.Proofs.YtmggoiabcboaiaaGreat
namespace Go.Proofs.YtmggoiabcboaiaaGreat
open Go.ChangeShapes Go.WideShapes Go.ChangeAt Go.RowKit
set_option linter.unusedVariables false
def StillR (news : List ByteArray) (w w' : World) : Prop := ∀ b u us, OS w b u us → ∃ us', OS w' b u us' ∧ us'.length = us.length ∧ ∀ s ∈ us', s ∈ us ∨ s ∈ news
section
variable {P : Program} (w : World)
theorem run_append_still (base : Nat) (t ty : TypeId) (i : TypeInfo) (ht : P.underlying t = some (.slice 9)) (hi : P.info? 9 = some i) (hz : i.zero = some (.string ⟨#[]⟩))
  (hsize : i.size = 1) (hby : i.bytes = 16) (v : Value) (l : List ByteArray) (hown : OS w base v l)
  (y : Addr) (cap : Nat) (news : List ByteArray) (hc0 : ∀ j (h : j < news.length), w.cell? (y.add j) = some (.string news[j])) (hn0 : 0 < news.length) (hlen : l.length + news.length ≤ 100000) (hbase : base ≤ w.heap.size) :
  ∃ v' w', (Builtin.append_ #[t, t] ty #[v, .slice (some y) news.length cap]).run P w = .ok v' w' ∧ OS w' base v' (l ++ news) ∧ w.grownBy w' v.ownBlock ∧ StillR news w w' := by
 have hc : ∀ j u, (news.map strV)[j]? = some u → w.cell? (y.add j) = some u := by
  intro j u hu
  have hj : j < news.length := by
   rcases Nat.lt_or_ge j news.length with h | h
   ·exact h
   ·rw [List.getElem?_eq_none (by simpa using h)] at hu; cases hu
  rw [List.getElem?_map, List.getElem?_eq_getElem hj] at hu
  injection hu with hu
  rw [← hu]
  exact hc0 j hj
 obtain ⟨v', w', r1, r2, r3, _, r5⟩ := run_append_own_at (P := P) w base t ty 9 i _ 1 16 ht hi hz hsize hby rfl (by omega) v l.length (l.map strV) hown y news.length cap (news.map strV) (by simp) hc (strV_one _) (by unfold maxLen; omega) (by omega) hbase
 refine ⟨v', w', r1, ?_, r3, ?_⟩
 ·unfold OS
  rw [List.length_append, List.map_append]
  exact r2
 ·have same : ∀ b u us, OS w b u us → (u.ownBlock = none ∨ u.ownBlock ≠ v.ownBlock) → ∃ us', OS w' b u us' ∧ us'.length = us.length ∧ ∀ s ∈ us', s ∈ us ∨ s ∈ news := fun b u us hu hne => ⟨us, hu.kept r3 hne, rfl, fun s hs => .inl hs⟩
  intro b u us hu
  by_cases hne : u.ownBlock = none ∨ u.ownBlock ≠ v.ownBlock
  ·exact same b u us hu hne
  have hu1 : u.ownBlock ≠ none := fun h => hne (.inl h)
  have hu2 : u.ownBlock = v.ownBlock := Classical.byContradiction fun h => hne (.inr h)
  rcases hown.2 with ⟨rfl, _⟩ | ⟨g, cp, cur, rfl, hbg, hg, hnc, hcm, hcs, htake⟩
  ·exact absurd hu2 hu1
  rcases hu.2 with ⟨rfl, _⟩ | ⟨g', cp', cur', rfl, hbg', hg', hnc', hcm', hcs', htake'⟩
  ·exact absurd rfl hu1
  have hgg : g' = g := by simpa [Value.ownBlock] using hu2
  subst hgg
  rw [hg] at hg'
  injection hg' with hg'
  injection hg' with hcc _ _
  subst hcc
  by_cases hroom : l.length + news.length ≤ cp
  ·have hr := run_append_room (P := P) w t ty 9 i ht hi g' l.length cp cur hg y news.length cap (news.map strV) (by simp [hsize]) hc (strV_one _) hroom (by rw [hsize, hcs]; simp; omega)
   rw [hr] at r1
   injection r1 with _ r1
   have hcsz : cur.size = cp := by simpa using hcs
   have hcsz' : cur.size = cp' := by simpa using hcs'
   rw [hsize, Nat.mul_one, List.length_map] at r1
   obtain ⟨cur2, hcur2⟩ : ∃ c, c = (cur.toList.take l.length ++ news.map strV ++ cur.toList.drop (l.length + news.length)).toArray := ⟨_, rfl⟩
   rw [← hcur2] at r1
   have hcl : cur.toList.length = cp := by simpa using hcsz
   have h2 : w'.heap[g']? = some (.cells cur2 9 (0, 0)) := by rw [← r1]; exact setRow_heap w g' cur cur2 9 _ hg
   have hsz2 : cur2.size = cp := by rw [hcur2]; simp; omega
   have hel : ∀ j, j < us.length → ∃ s, cur2[j]? = some (.string s) ∧ (s ∈ us ∨ s ∈ news) := by
    intro j hj
    have hold : cur.toList[j]? = some (.string us[j]) := by
     have h5 : (cur.toList.take (us.length * 1))[j]? = some (strV us[j]) := by rw [htake']; simp [hj]
     rw [List.getElem?_take] at h5
     split at h5
     ·simpa [strV] using h5
     ·cases h5
    have e : cur2[j]? = (cur.toList.take l.length ++ news.map strV ++ cur.toList.drop (l.length + news.length))[j]? := by rw [hcur2]; simp
    rw [e]
    rcases Nat.lt_or_ge j l.length with h1 | h1
    ·refine ⟨us[j], ?_, .inl (List.getElem_mem hj)⟩
     rw [List.append_assoc, List.getElem?_append_left (by rw [List.length_take]; omega), List.getElem?_take, if_pos h1, hold]
    ·rcases Nat.lt_or_ge j (l.length + news.length) with h3 | h3
     ·refine ⟨news[j - l.length]'(by omega), ?_, .inr (List.getElem_mem _)⟩
      rw [List.append_assoc, List.getElem?_append_right (by rw [List.length_take]; omega), List.length_take, Nat.min_eq_left (by omega), List.getElem?_append_left (by rw [List.length_map]; omega), List.getElem?_map, List.getElem?_eq_getElem (by omega)]
      rfl
     ·refine ⟨us[j], ?_, .inl (List.getElem_mem hj)⟩
      rw [List.getElem?_append_right (by rw [List.length_append, List.length_take, List.length_map]; omega), List.length_append, List.length_take, List.length_map, Nat.min_eq_left (by omega), List.getElem?_drop, show l.length + news.length + (j - (l.length + news.length)) = j by omega, hold]
   let f : Nat → ByteArray := fun j => match cur2[j]? with | some (.string s) => s | _ => ⟨#[]⟩
   have hf : ∀ j, j < us.length → cur2[j]? = some (.string (f j)) ∧ (f j ∈ us ∨ f j ∈ news) := by
    intro j hj
    obtain ⟨s, h1, h3⟩ := hel j hj
    have : f j = s := by show (match cur2[j]? with | some (.string s) => s | _ => ⟨#[]⟩) = s; rw [h1]
    rw [this]
    exact ⟨h1, h3⟩
   refine ⟨(List.range us.length).map f, ?_, by simp, ?_⟩
   ·unfold OS
    rw [show ((List.range us.length).map f).length = us.length by simp]
    refine ⟨by simp, .inr ⟨g', cp', cur2, rfl, hbg', h2, hnc', hcm', by rw [hsz2, ← hcsz, hcsz']; simp, ?_⟩⟩
    refine List.ext_getElem? fun j => ?_
    rw [Nat.mul_one, List.getElem?_take]
    by_cases hj : j < us.length
    ·rw [if_pos hj, List.getElem?_map, List.getElem?_map, List.getElem?_range hj]
     have := (hf j hj).1
     simpa [strV] using this
    ·rw [if_neg hj, List.getElem?_eq_none (by simp; omega)]
   ·intro s hs
    obtain ⟨j, hj, rfl⟩ := List.mem_map.1 hs
    exact (hf j (List.mem_range.1 hj)).2
  ·have hr := run_append_grow (P := P) w t ty 9 i (.string ⟨#[]⟩) ht hi hz ⟨g', 0, none⟩ l.length cp (l.map strV) (by simp [hsize]) (fun j u hju => by
    have hj : j < l.length := by
     rcases Nat.lt_or_ge j l.length with h | h
     ·exact h
     ·rw [List.getElem?_eq_none (by simpa using h)] at hju; cases hju
    rw [List.getElem?_map, List.getElem?_eq_getElem hj] at hju
    injection hju with hju
    rw [← hju, slit_add]
    exact hown.cellAt hj) y news.length cap (news.map strV) (by simp [hsize]) hc (by omega) (by omega) (growslice_fits (by omega) (by rw [hby]; omega))
   rw [hr] at r1
   injection r1 with _ r1
   refine ⟨us, ?_, rfl, fun s hs => .inl hs⟩
   rw [← r1]
   exact (hu.drew).alloc _
theorem wpList_append_still {ops : Array Oper} {rest : List Oper} {o : Oper} {a : Act} {Q : Exit → Act → World → Prop} (hgd : o.guard = none) (s x : Operand) (t : TypeId)
  (ho : o.op = .call { callee := .builtin .append, args := #[s, x], argTypes := #[t, t] })
  (base : Nat) (i : TypeInfo) (ht : P.underlying t = some (.slice 9)) (hi : P.info? 9 = some i) (hz : i.zero = some (.string ⟨#[]⟩))
  (hsize : i.size = 1) (hby : i.bytes = 16) (v : Value) (l : List ByteArray) (hs : a.eval s = v) (hown : OS w base v l)
  (y : Addr) (cap : Nat) (news : List ByteArray) (n : Nat) (hn : n = news.length) (hx : a.eval x = .slice (some y) n cap) (hc0 : ∀ j (h : j < news.length), w.cell? (y.add j) = some (.string news[j])) (hn0 : 0 < news.length) (hlen : l.length + news.length ≤ 100000) (hbase : base ≤ w.heap.size)
  (h : ∀ v' w', OS w' base v' (l ++ news) → w.grownBy w' v.ownBlock → StillR news w w' → wpList P ops Q rest (a.put o.dst v') w') : wpList P ops Q (o :: rest) a w := by
 subst hn
 refine wpList_plain hgd fun K hK => ?_
 obtain ⟨v', w', hr, h2, h3, h4⟩ := run_append_still (P := P) w base t o.type i ht hi hz hsize hby v l hown y cap news hc0 hn0 hlen hbase
 unfold Oper.wp execOp
 simp only [ho, resolve, invoke, builtin, Sem.run_bind, Sem.run_pure, Result.andThen_ok, List.map_toArray, List.map_cons, List.map_nil, hs, hx, hr]
 exact hK _ _ (h v' w' h2 h3 h4)
end
end Go.Proofs.YtmggoiabcboaiaaGreat
