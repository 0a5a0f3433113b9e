/- Parts of a proof, 27: LkR LkS Rg DrawConf. -/
import Derived.Deep.DeepCutAuto
import Derived.Test.YtmggoiabcboaiaaGreatZe1
import Derived.Test.YtmggoiabcboaiaaGreatZe2
import Derived.Test.YtmggoiabcboaiaaGreatZe3
import Derived.Test.YtmggoiabcboaiaaGreatZe4
import Derived.Test.YtmggoiabcboaiaaGreatZe5
import Derived.Test.YtmggoiabcboaiaaGreatZe6
import Derived.Test.YtmggoiabcboaiaaGreatZe7
import Derived.Test.YtmggoiabcboaiaaGreatZe8
import Derived.Test.YtmggoiabcboaiaaGreatZe9
import Derived.Test.YtmggoiabcboaiaaGreatZe10
import Derived.Test.YtmggoiabcboaiaaGreatZe11
import Derived.Test.YtmggoiabcboaiaaGreatZe12
import Derived.Test.YtmggoiabcboaiaaGreatZe13
import Derived.Test.YtmggoiabcboaiaaGreatZe14
import Derived.Test.YtmggoiabcboaiaaGreatZe15
import Derived.Test.YtmggoiabcboaiaaGreatZe16
import Derived.Test.YtmggoiabcboaiaaGreatZe17
import Derived.Test.YtmggoiabcboaiaaGreatZe18
import Derived.Test.YtmggoiabcboaiaaGreatZe19
import Derived.Test.YtmggoiabcboaiaaGreatZe20
import Derived.Test.YtmggoiabcboaiaaGreatZe21
import Derived.Test.YtmggoiabcboaiaaGreatZe23
import Derived.Test.YtmggoiabcboaiaaGreatZe24
import Derived.Test.YtmggoiabcboaiaaGreatZe25
import Derived.Test.YtmggoiabcboaiaaGreatZe26
namespace Go.Proofs.YtmggoiabcboaiaaGreat
open Go.ChangeShapes Go.WideShapes Go.ChangeAt Go.RowKit
set_option linter.unusedVariables false
set_option maxRecDepth 100000 in
set_option maxHeartbeats 2000000 in
theorem l8Copy_any (s : Ls) (hs : s.Ok) (vm vb vg vt : Value) (w : World) (h0 : OL w 0 vm s.ms vg s.gs vt s.ts vb s.bs) :
  Calls Tryz.prog 52 #[lsV s vm vb vg vt] w (TPost w s) := by
 obtain ⟨i0, hi0, hz0, hz1, hz2⟩ := info_parts info_str
 have HI := Lib.hid hi0
 have HZ0 := Lib.hid hz0
 have HZ1 := Lib.hid hz1
 have HZ2 := Lib.hid hz2
 have h := h0.reads
 have hB : w.heap.size ≤ w.heap.size := Nat.le_refl _
 obtain ⟨am, cm, rfl⟩ := h.1.shape
 obtain ⟨ag, cg, rfl⟩ := h.2.1.shape
 obtain ⟨at_, ct, rfl⟩ := h.2.2.1.shape
 obtain ⟨ab, cb, rfl⟩ := h.2.2.2.shape
 have hzl := zero_line
 have hml := hs.ml
 have hnx := hs.nxl
 have htl := hs.tl
 have hgl := hs.gl
 have hbl := hs.bl
 have hcf := hs.conf
 have hmost := (confB_yes hs.conf).2.2.1
 have hk := (BK.new w #[.int .i64 s.c.codec, .int .i64 s.c.sum, .int .i64 s.c.most, .int .i64 s.c.map, .slice am s.ms.length cm, .int .i64 (s.nx : Int), .slice ag s.gs.length cg, .string (bzL s.f.held), .bool s.f.over, .string (bzL s.h.held), .bool s.h.over, .slice at_ s.ts.length ct, .slice ab s.bs.length cb] 32).alloc (.cells #[.int .i64 0, .int .i64 0, .int .i64 0, .int .i64 0, .slice none 0 0, .int .i64 0, .slice none 0 0, .string ⟨#[]⟩, .bool false, .string ⟨#[]⟩, .bool false, .slice none 0 0, .slice none 0 0] 32)
 have hq := BK.new (w.alloc (.cells #[.int .i64 s.c.codec, .int .i64 s.c.sum, .int .i64 s.c.most, .int .i64 s.c.map, .slice am s.ms.length cm, .int .i64 (s.nx : Int), .slice ag s.gs.length cg, .string (bzL s.f.held), .bool s.f.over, .string (bzL s.h.held), .bool s.h.over, .slice at_ s.ts.length ct, .slice ab s.bs.length cb] 32)) #[.int .i64 0, .int .i64 0, .int .i64 0, .int .i64 0, .slice none 0 0, .int .i64 0, .slice none 0 0, .string ⟨#[]⟩, .bool false, .string ⟨#[]⟩, .bool false, .slice none 0 0, .slice none 0 0] 32
 rw [World.size_alloc] at hq
 have hb := ((Below.refl w.heap.size w).alloc (Nat.le_refl _) (.cells #[.int .i64 s.c.codec, .int .i64 s.c.sum, .int .i64 s.c.most, .int .i64 s.c.map, .slice am s.ms.length cm, .int .i64 (s.nx : Int), .slice ag s.gs.length cg, .string (bzL s.f.held), .bool s.f.over, .string (bzL s.h.held), .bool s.h.over, .slice at_ s.ts.length ct, .slice ab s.bs.length cb] 32)).alloc (by simp) (.cells #[.int .i64 0, .int .i64 0, .int .i64 0, .int .i64 0, .slice none 0 0, .int .i64 0, .slice none 0 0, .string ⟨#[]⟩, .bool false, .string ⟨#[]⟩, .bool false, .slice none 0 0, .slice none 0 0] 32)
 have HR := Lib.hid ((h.mono hB).below hb)
 have HB := Lib.hid hb
 have HQ := Lib.hid hq
 have HK := Lib.hid hk
 have HH := Lib.hid h
 obtain ⟨w0, hw0⟩ : ∃ w0, w0 = (w.alloc (.cells #[.int .i64 s.c.codec, .int .i64 s.c.sum, .int .i64 s.c.most, .int .i64 s.c.map, .slice am s.ms.length cm, .int .i64 (s.nx : Int), .slice ag s.gs.length cg, .string (bzL s.f.held), .bool s.f.over, .string (bzL s.h.held), .bool s.h.over, .slice at_ s.ts.length ct, .slice ab s.bs.length cb] 32)).alloc (.cells #[.int .i64 0, .int .i64 0, .int .i64 0, .int .i64 0, .slice none 0 0, .int .i64 0, .slice none 0 0, .string ⟨#[]⟩, .bool false, .string ⟨#[]⟩, .bool false, .slice none 0 0, .slice none 0 0] 32) := ⟨_, rfl⟩
 rw [← hw0] at HR HB HQ HK
 have HW := Lib.hid hw0
 have HOm := Lib.hid (h0.1.below HB.out)
 have HOg := Lib.hid (h0.2.1.below HB.out)
 have HOt := Lib.hid (h0.2.2.1.below HB.out)
 have HOb := Lib.hid (h0.2.2.2.below HB.out)
 have HLm := Lib.hid (fun k hk => (h0.1.low k hk).2)
 have HLg := Lib.hid (fun k hk => (h0.2.1.low k hk).2)
 have HLt := Lib.hid (fun k hk => (h0.2.2.1.low k hk).2)
 have HLb := Lib.hid (fun k hk => (h0.2.2.2.low k hk).2)
 have HH0 := Lib.hid h0
 have hk0 := HK.out
 have hq0 := HQ.out
 rw [hw0] at hk0 hq0
 obtain ⟨c0, c1, c2, c3, c4, c5, c6, c7, c8, c9, c10, c11, c12⟩ := cells13 hk0
 obtain ⟨z0, z1, z2, z3, z4, z5, z6, z7, z8, z9, z10, z11, z12⟩ := cells13 hq0
 obtain ⟨f0, f1, f2, f3, f4, f5, f6, f7, f8, f9, f10, f11, f12⟩ := free13 hq0
 have hN : w.heap.size + 2 = w0.heap.size := by rw [hw0]; simp
 have HSOK := Lib.hid hs
 clear h h0 hk hq hb hk0 hq0 hi0 hz0 hz1 hz2 hw0 hs
 have htl5 : s.ts.length ≤ 5 := htl
 go_enter Tryz.func52, Tryz.ntmps52
 go_upto_region 1 with fail
 rw [← HW.out]
 have HMk := Lib.hid (show Mid w0 w0 w.heap.size (lsC s (.slice am s.ms.length cm) (.slice ab s.bs.length cb) (.slice ag s.gs.length cg) (.slice at_ s.ts.length ct)) #[.int .i64 0, .int .i64 0, .int .i64 0, .int .i64 0, .slice none 0 0, .int .i64 0, .slice none 0 0, .string ⟨#[]⟩, .bool false, .string ⟨#[]⟩, .bool false, .slice none 0 0, .slice none 0 0] from ⟨HK.out, HQ.out, Below.refl _ _⟩)
 have HLk := Lib.hid (show OL w0 0 (.slice am s.ms.length cm) s.ms (.slice ag s.gs.length cg) s.gs (.slice at_ s.ts.length ct) s.ts (.slice ab s.bs.length cb) s.bs from ⟨HOm.out, HOg.out, HOt.out, HOb.out⟩)
 clear c0 c1 c2 c3 c4 c5 c6 c7 c8 c9 c10 c11 c12 z0 z1 z2 z3 z4 z5 z6 z7 z8 z9 z10 z11 z12 f0 f1 f2 f3 f4 f5 f6 f7 f8 f9 f10 f11 f12
 go_cut [] (fun wx => ∃ um ub ug ut, Mid w0 wx w.heap.size (lsC s um ub ug ut) #[.int .i64 0, .int .i64 0, .int .i64 0, .int .i64 0, .slice none 0 0, .int .i64 0, .slice none 0 0, .string ⟨#[]⟩, .bool false, .string ⟨#[]⟩, .bool false, .slice none 0 0, .slice none 0 0] ∧ OL wx 0 um s.ms ug s.gs ut s.ts ub s.bs)
 case first =>
  have hNw : w.heap.size + 2 ≤ w0.heap.size := by rw [hN]; exact HMk.out.bl.size
  have HM1 := Lib.hid (HMk.out.below ((Below.refl _ _).alloc (Nat.le_refl _) (.cells #[] 9)))
  have HL1 := Lib.hid (HLk.out.below ((Below.refl _ _).alloc (Nat.le_refl _) (.cells #[] 9)))
  have HOe := Lib.hid (show OS (w0.alloc (.cells #[] 9)) w0.heap.size (.slice (some ⟨w0.heap.size, 0, none⟩) 0 0) [] from OS_made w0 rfl (Nat.le_refl _))
  have HLW := Lib.hid (show OL w0 0 (.slice am s.ms.length cm) s.ms (.slice ag s.gs.length cg) s.gs (.slice at_ s.ts.length ct) s.ts (.slice ab s.bs.length cb) s.bs from HLk.out)
  have k1 : (w0.alloc (.cells #[] 9)).cell? ⟨w.heap.size, 4, none⟩ = some (.slice am s.ms.length cm) := HM1.out.bk.cell rfl
  go_wp2_with (at_builtin; refine wpList_append_os _ rfl _ _ 25 rfl w0.heap.size i0 Tryz.underlying25 HI.out HZ0.out HZ1.out HZ2.out _ [] rfl HOe.out _ _ s.ms rfl (RS.below (HL1.out.1.reads) (Below.refl _ _)) (by simp; omega) (by simp) ?_; intro v2 w5 hown hg5 hat5; rw [List.nil_append] at hown; obtain ⟨A2, C2, hsh⟩ := hown.reads.shape; subst hsh; have HM5 := Lib.hid (HM1.out.grown (HOe.out.mono (by omega)) hg5); have hb5 := (Below.refl w0.heap.size w0).alloc (Nat.le_refl _) (.cells #[] 9) |>.grown hg5 (by simp) (fun k hk => (HOe.out.low k hk).1); have HL5 := Lib.hid (OL.under HLW.out hb5 (Nat.le_refl _)); have HOw := Lib.hid (hown.mono (base' := 0) (Nat.zero_le _)); have k2 : w5.cell? ⟨w.heap.size, 4, none⟩ = some (.slice am s.ms.length cm) := HM5.out.bk.cell rfl; have f2 := HM5.out.bk.free 4; clear hown hg5 hat5 hb5 k1)
  go_meet
  exact ⟨(.slice A2 s.ms.length C2), (.slice ab s.bs.length cb), (.slice ag s.gs.length cg), (.slice at_ s.ts.length ct), HM5.out.set (i := 4) (.slice A2 s.ms.length C2), ⟨os_set HOw.out (own_ne HM5.out.bk line_str HOw.out) _, os_set HL5.out.2.1 (own_ne HM5.out.bk line_str HL5.out.2.1) _, os_set HL5.out.2.2.1 (own_ne HM5.out.bk line_str HL5.out.2.2.1) _, os_set HL5.out.2.2.2 (own_ne HM5.out.bk line_str HL5.out.2.2.2) _⟩⟩
 case rest =>
  obtain ⟨um, ub, ug, ut, hm, hl⟩ := hcut
  obtain ⟨wc0, hwc⟩ : ∃ x, x = wc := ⟨_, rfl⟩
  rw [← hwc] at hm hl ⊢
  clear hwc HMk HLk
  have HMk := Lib.hid hm
  have HLk := Lib.hid hl
  clear hm hl
  go_upto_region 2 with fail
  go_cut [] (fun wx => ∃ um ub ug ut, Mid w0 wx w.heap.size (lsC s um ub ug ut) #[.int .i64 0, .int .i64 0, .int .i64 0, .int .i64 0, .slice none 0 0, .int .i64 0, .slice none 0 0, .string ⟨#[]⟩, .bool false, .string ⟨#[]⟩, .bool false, .slice none 0 0, .slice none 0 0] ∧ OL wx 0 um s.ms ug s.gs ut s.ts ub s.bs)
  case first =>
   obtain ⟨xm, ym, rfl⟩ := HLk.out.1.reads.shape
   obtain ⟨xg, yg, rfl⟩ := HLk.out.2.1.reads.shape
   obtain ⟨xt, yt, rfl⟩ := HLk.out.2.2.1.reads.shape
   obtain ⟨xb, yb, rfl⟩ := HLk.out.2.2.2.reads.shape
   have hNw : w.heap.size + 2 ≤ wc0.heap.size := by rw [hN]; exact HMk.out.bl.size
   have HM1 := Lib.hid (HMk.out.below ((Below.refl _ _).alloc (Nat.le_refl _) (.cells #[] 9)))
   have HL1 := Lib.hid (HLk.out.below ((Below.refl _ _).alloc (Nat.le_refl _) (.cells #[] 9)))
   have HOe := Lib.hid (show OS (wc0.alloc (.cells #[] 9)) wc0.heap.size (.slice (some ⟨wc0.heap.size, 0, none⟩) 0 0) [] from OS_made wc0 rfl (Nat.le_refl _))
   have HLW := Lib.hid (show OL wc0 0 (.slice xm s.ms.length ym) s.ms (.slice xg s.gs.length yg) s.gs (.slice xt s.ts.length yt) s.ts (.slice xb s.bs.length yb) s.bs from HLk.out)
   have k1 : (wc0.alloc (.cells #[] 9)).cell? ⟨w.heap.size, 6, none⟩ = some (.slice xg s.gs.length yg) := HM1.out.bk.cell rfl
   go_wp2_with (at_builtin; refine wpList_append_os _ rfl _ _ 25 rfl wc0.heap.size i0 Tryz.underlying25 HI.out HZ0.out HZ1.out HZ2.out _ [] rfl HOe.out _ _ s.gs rfl (RS.below (HL1.out.2.1.reads) (Below.refl _ _)) (by simp; omega) (by simp) ?_; intro v2 w5 hown hg5 hat5; rw [List.nil_append] at hown; obtain ⟨A2, C2, hsh⟩ := hown.reads.shape; subst hsh; have HM5 := Lib.hid (HM1.out.grown (HOe.out.mono (by omega)) hg5); have hb5 := (Below.refl wc0.heap.size wc0).alloc (Nat.le_refl _) (.cells #[] 9) |>.grown hg5 (by simp) (fun k hk => (HOe.out.low k hk).1); have HL5 := Lib.hid (OL.under HLW.out hb5 (Nat.le_refl _)); have HOw := Lib.hid (hown.mono (base' := 0) (Nat.zero_le _)); have k2 : w5.cell? ⟨w.heap.size, 6, none⟩ = some (.slice xg s.gs.length yg) := HM5.out.bk.cell rfl; have f2 := HM5.out.bk.free 6; clear hown hg5 hat5 hb5 k1)
   go_meet
   exact ⟨(.slice xm s.ms.length ym), (.slice xb s.bs.length yb), (.slice A2 s.gs.length C2), (.slice xt s.ts.length yt), HM5.out.set (i := 6) (.slice A2 s.gs.length C2), ⟨os_set HL5.out.1 (own_ne HM5.out.bk line_str HL5.out.1) _, os_set HOw.out (own_ne HM5.out.bk line_str HOw.out) _, os_set HL5.out.2.2.1 (own_ne HM5.out.bk line_str HL5.out.2.2.1) _, os_set HL5.out.2.2.2 (own_ne HM5.out.bk line_str HL5.out.2.2.2) _⟩⟩
  case rest =>
   obtain ⟨um, ub, ug, ut, hm, hl⟩ := hcut
   obtain ⟨wc1, hwc⟩ : ∃ x, x = wc := ⟨_, rfl⟩
   rw [← hwc] at hm hl ⊢
   clear hwc HMk HLk
   have HMk := Lib.hid hm
   have HLk := Lib.hid hl
   clear hm hl
   go_upto_region 3 with fail
   go_cut [] (fun wx => ∃ um ub ug ut, Mid w0 wx w.heap.size (lsC s um ub ug ut) #[.int .i64 0, .int .i64 0, .int .i64 0, .int .i64 0, .slice none 0 0, .int .i64 0, .slice none 0 0, .string ⟨#[]⟩, .bool false, .string ⟨#[]⟩, .bool false, .slice none 0 0, .slice none 0 0] ∧ OL wx 0 um s.ms ug s.gs ut s.ts ub s.bs)
   case first =>
    obtain ⟨xm, ym, rfl⟩ := HLk.out.1.reads.shape
    obtain ⟨xg, yg, rfl⟩ := HLk.out.2.1.reads.shape
    obtain ⟨xt, yt, rfl⟩ := HLk.out.2.2.1.reads.shape
    obtain ⟨xb, yb, rfl⟩ := HLk.out.2.2.2.reads.shape
    have hNw : w.heap.size + 2 ≤ wc1.heap.size := by rw [hN]; exact HMk.out.bl.size
    have HM1 := Lib.hid (HMk.out.below ((Below.refl _ _).alloc (Nat.le_refl _) (.cells #[] 9)))
    have HL1 := Lib.hid (HLk.out.below ((Below.refl _ _).alloc (Nat.le_refl _) (.cells #[] 9)))
    have HOe := Lib.hid (show OS (wc1.alloc (.cells #[] 9)) wc1.heap.size (.slice (some ⟨wc1.heap.size, 0, none⟩) 0 0) [] from OS_made wc1 rfl (Nat.le_refl _))
    have HLW := Lib.hid (show OL wc1 0 (.slice xm s.ms.length ym) s.ms (.slice xg s.gs.length yg) s.gs (.slice xt s.ts.length yt) s.ts (.slice xb s.bs.length yb) s.bs from HLk.out)
    have k1 : (wc1.alloc (.cells #[] 9)).cell? ⟨w.heap.size, 11, none⟩ = some (.slice xt s.ts.length yt) := HM1.out.bk.cell rfl
    go_wp2_with (at_builtin; refine wpList_append_os _ rfl _ _ 25 rfl wc1.heap.size i0 Tryz.underlying25 HI.out HZ0.out HZ1.out HZ2.out _ [] rfl HOe.out _ _ s.ts rfl (RS.below (HL1.out.2.2.1.reads) (Below.refl _ _)) (by simp; omega) (by simp) ?_; intro v2 w5 hown hg5 hat5; rw [List.nil_append] at hown; obtain ⟨A2, C2, hsh⟩ := hown.reads.shape; subst hsh; have HM5 := Lib.hid (HM1.out.grown (HOe.out.mono (by omega)) hg5); have hb5 := (Below.refl wc1.heap.size wc1).alloc (Nat.le_refl _) (.cells #[] 9) |>.grown hg5 (by simp) (fun k hk => (HOe.out.low k hk).1); have HL5 := Lib.hid (OL.under HLW.out hb5 (Nat.le_refl _)); have HOw := Lib.hid (hown.mono (base' := 0) (Nat.zero_le _)); have k2 : w5.cell? ⟨w.heap.size, 11, none⟩ = some (.slice xt s.ts.length yt) := HM5.out.bk.cell rfl; have f2 := HM5.out.bk.free 11; clear hown hg5 hat5 hb5 k1)
    go_meet
    exact ⟨(.slice xm s.ms.length ym), (.slice xb s.bs.length yb), (.slice xg s.gs.length yg), (.slice A2 s.ts.length C2), HM5.out.set (i := 11) (.slice A2 s.ts.length C2), ⟨os_set HL5.out.1 (own_ne HM5.out.bk line_str HL5.out.1) _, os_set HL5.out.2.1 (own_ne HM5.out.bk line_str HL5.out.2.1) _, os_set HOw.out (own_ne HM5.out.bk line_str HOw.out) _, os_set HL5.out.2.2.2 (own_ne HM5.out.bk line_str HL5.out.2.2.2) _⟩⟩
   case rest =>
    obtain ⟨um, ub, ug, ut, hm, hl⟩ := hcut
    obtain ⟨wc2, hwc⟩ : ∃ x, x = wc := ⟨_, rfl⟩
    rw [← hwc] at hm hl ⊢
    clear hwc HMk HLk
    have HMk := Lib.hid hm
    have HLk := Lib.hid hl
    clear hm hl
    go_upto_region 4 with fail
    go_cut [] (fun wx => ∃ um ub ug ut, Mid w0 wx w.heap.size (lsC s um ub ug ut) #[.int .i64 0, .int .i64 0, .int .i64 0, .int .i64 0, .slice none 0 0, .int .i64 0, .slice none 0 0, .string ⟨#[]⟩, .bool false, .string ⟨#[]⟩, .bool false, .slice none 0 0, .slice none 0 0] ∧ OL wx 0 um s.ms ug s.gs ut s.ts ub s.bs)
    case first =>
     obtain ⟨xm, ym, rfl⟩ := HLk.out.1.reads.shape
     obtain ⟨xg, yg, rfl⟩ := HLk.out.2.1.reads.shape
     obtain ⟨xt, yt, rfl⟩ := HLk.out.2.2.1.reads.shape
     obtain ⟨xb, yb, rfl⟩ := HLk.out.2.2.2.reads.shape
     have hNw : w.heap.size + 2 ≤ wc2.heap.size := by rw [hN]; exact HMk.out.bl.size
     have HM1 := Lib.hid (HMk.out.below ((Below.refl _ _).alloc (Nat.le_refl _) (.cells #[] 9)))
     have HL1 := Lib.hid (HLk.out.below ((Below.refl _ _).alloc (Nat.le_refl _) (.cells #[] 9)))
     have HOe := Lib.hid (show OS (wc2.alloc (.cells #[] 9)) wc2.heap.size (.slice (some ⟨wc2.heap.size, 0, none⟩) 0 0) [] from OS_made wc2 rfl (Nat.le_refl _))
     have HLW := Lib.hid (show OL wc2 0 (.slice xm s.ms.length ym) s.ms (.slice xg s.gs.length yg) s.gs (.slice xt s.ts.length yt) s.ts (.slice xb s.bs.length yb) s.bs from HLk.out)
     have k1 : (wc2.alloc (.cells #[] 9)).cell? ⟨w.heap.size, 12, none⟩ = some (.slice xb s.bs.length yb) := HM1.out.bk.cell rfl
     go_wp2_with (at_builtin; refine wpList_append_os _ rfl _ _ 25 rfl wc2.heap.size i0 Tryz.underlying25 HI.out HZ0.out HZ1.out HZ2.out _ [] rfl HOe.out _ _ s.bs rfl (RS.below (HL1.out.2.2.2.reads) (Below.refl _ _)) (by simp; omega) (by simp) ?_; intro v2 w5 hown hg5 hat5; rw [List.nil_append] at hown; obtain ⟨A2, C2, hsh⟩ := hown.reads.shape; subst hsh; have HM5 := Lib.hid (HM1.out.grown (HOe.out.mono (by omega)) hg5); have hb5 := (Below.refl wc2.heap.size wc2).alloc (Nat.le_refl _) (.cells #[] 9) |>.grown hg5 (by simp) (fun k hk => (HOe.out.low k hk).1); have HL5 := Lib.hid (OL.under HLW.out hb5 (Nat.le_refl _)); have HOw := Lib.hid (hown.mono (base' := 0) (Nat.zero_le _)); have k2 : w5.cell? ⟨w.heap.size, 12, none⟩ = some (.slice xb s.bs.length yb) := HM5.out.bk.cell rfl; have f2 := HM5.out.bk.free 12; clear hown hg5 hat5 hb5 k1)
     go_meet
     exact ⟨(.slice xm s.ms.length ym), (.slice A2 s.bs.length C2), (.slice xg s.gs.length yg), (.slice xt s.ts.length yt), HM5.out.set (i := 12) (.slice A2 s.bs.length C2), ⟨os_set HL5.out.1 (own_ne HM5.out.bk line_str HL5.out.1) _, os_set HL5.out.2.1 (own_ne HM5.out.bk line_str HL5.out.2.1) _, os_set HL5.out.2.2.1 (own_ne HM5.out.bk line_str HL5.out.2.2.1) _, os_set HOw.out (own_ne HM5.out.bk line_str HOw.out) _⟩⟩
    case rest =>
     obtain ⟨um, ub, ug, ut, hm, hl⟩ := hcut
     obtain ⟨wc3, hwc⟩ : ∃ x, x = wc := ⟨_, rfl⟩
     rw [← hwc] at hm hl ⊢
     clear hwc HMk HLk
     have HMk := Lib.hid hm
     have HLk := Lib.hid hl
     clear hm hl
     obtain ⟨am2, cm2, rfl⟩ := HLk.out.1.reads.shape
     obtain ⟨ag2, cg2, rfl⟩ := HLk.out.2.1.reads.shape
     obtain ⟨at2, ct2, rfl⟩ := HLk.out.2.2.1.reads.shape
     obtain ⟨ab2, cb2, rfl⟩ := HLk.out.2.2.2.reads.shape
     obtain ⟨c0, c1, c2, c3, c4, c5, c6, c7, c8, c9, c10, c11, c12⟩ := cells13 HMk.out.bk
     obtain ⟨z0, z1, z2, z3, z4, z5, z6, z7, z8, z9, z10, z11, z12⟩ := cells13 HMk.out.bq
     obtain ⟨f0, f1, f2, f3, f4, f5, f6, f7, f8, f9, f10, f11, f12⟩ := free13 HMk.out.bq
     go_wp2
     have hq := set13_bk (v0 := .int .i64 s.c.codec) (v1 := .int .i64 s.c.sum) (v2 := .int .i64 s.c.most) (v3 := .int .i64 s.c.map) (v4 := .slice am2 s.ms.length cm2) (v5 := .int .i64 (s.nx : Int)) (v6 := .slice ag2 s.gs.length cg2) (v7 := .string (bzL s.f.held)) (v8 := .bool s.f.over) (v9 := .string (bzL s.h.held)) (v10 := .bool s.h.over) (v11 := .slice at2 s.ts.length ct2) (v12 := .slice ab2 s.bs.length cb2) HMk.out.bq rfl
     exact line_ret Tryz.results52 hq rfl rfl ⟨_, _, _, _, rfl, OL.whole2 HMk.out HLk.out, set13_below (HB.out.trans HMk.out.bl) (by omega)⟩
end Go.Proofs.YtmggoiabcboaiaaGreat
namespace Go.Proofs.YtmggoiabcboaiaaGreat
open Go.ChangeShapes Go.WideShapes Go.ChangeAt Go.RowKit
set_option linter.unusedVariables false
structure Cal (w0 wx : World) (M Zb : Nat) (s : Ls) (vm vb vg vt : Value) : Prop where
 bk : BK wx M (lsC s vm vb vg vt) 32
 bq : BK wx Zb #[.int .i64 0, .int .i64 0, .int .i64 0, .int .i64 0, .slice none 0 0, .int .i64 0, .slice none 0 0, .string ⟨#[]⟩, .bool false, .string ⟨#[]⟩, .bool false, .slice none 0 0, .slice none 0 0] 32
 bl : Below w0.heap.size w0 wx
 ol : OL wx 0 vm s.ms vg s.gs vt s.ts vb s.bs
def Cals (w0 wx : World) (M Zb : Nat) (s : Ls) : Prop := ∃ vm vb vg vt, Cal w0 wx M Zb s vm vb vg vt
theorem Cal.next {w0 wx wy : World} {M Zb : Nat} {s s' : Ls} {vm vb vg vt um ub ug ut : Value} (h : Cal w0 wx M Zb s vm vb vg vt) (hM : w0.heap.size ≤ M) (hZ : M ≠ Zb) (hb : Below wx.heap.size wx wy) (ho : OL wy 0 um s'.ms ug s'.gs ut s'.ts ub s'.bs) :
  Cal w0 (set13 wy M (.int .i64 s'.c.codec) (.int .i64 s'.c.sum) (.int .i64 s'.c.most) (.int .i64 s'.c.map) um (.int .i64 (s'.nx : Int)) ug (.string (bzL s'.f.held)) (.bool s'.f.over) (.string (bzL s'.h.held)) (.bool s'.h.over) ut ub) M Zb s' um ub ug ut := by
 have hbk := h.bk.from hb
 have hbq := h.bq.from hb
 exact ⟨set13_bk hbk rfl, set13_far hbq hZ, set13_below (h.bl.trans (hb.mono h.bl.size)) hM, ⟨set13_own ho.1 (own_ne hbk line_str ho.1), set13_own ho.2.1 (own_ne hbk line_str ho.2.1), set13_own ho.2.2.1 (own_ne hbk line_str ho.2.2.1), set13_own ho.2.2.2 (own_ne hbk line_str ho.2.2.2)⟩⟩
theorem cal_to {w0 wx : World} {M Zb : Nat} {s : Ls} (h : Cals w0 wx M Zb s) : wireLen wx M 11 = s.ts.length := by
 obtain ⟨vm, vb, vg, vt, h⟩ := h
 obtain ⟨a, c, e⟩ := h.ol.2.2.1.reads.shape
 have hc : wx.cell? ⟨M, 11, none⟩ = some vt := h.bk.cell rfl
 unfold wireLen
 rw [hc, e]
theorem cal_back {w0 wx : World} {M Zb : Nat} {s : Ls} (h : Cals w0 wx M Zb s) : wireLen wx M 12 = s.bs.length := by
 obtain ⟨vm, vb, vg, vt, h⟩ := h
 obtain ⟨a, c, e⟩ := h.ol.2.2.2.reads.shape
 have hc : wx.cell? ⟨M, 12, none⟩ = some vb := h.bk.cell rfl
 unfold wireLen
 rw [hc, e]
set_option maxRecDepth 100000 in
set_option maxHeartbeats 2000000 in
theorem specLineCalm_any (a b d m nx : Int) (vm : Value) (ms : List ByteArray) (vg : Value) (gs : List ByteArray) (vt : Value) (ts : List ByteArray) (vb : Value) (bs : List ByteArray) (T H : ByteArray) (tO hO : Bool) (r : Int) (w : World) (h0 : OL w 0 vm ms vg gs vt ts vb bs)
  (wa : (Lit.int .i64 a).wf = true) (hs : fewLn ms gs T H ts bs) :
  Calls Tryz.prog 20 #[lnV a b d m vm nx vg T tO H hO vt vb, .int .i64 r] w (TPost w (calmRes (mkLs a b d m ms nx gs T tO H hO ts bs) (okLn a b d m ms nx gs T tO H hO ts bs) r)) := by
 obtain ⟨am, cm, rfl⟩ := h0.1.reads.shape
 obtain ⟨ag, cg, rfl⟩ := h0.2.1.reads.shape
 obtain ⟨at_, ct, rfl⟩ := h0.2.2.1.reads.shape
 obtain ⟨ab, cb, rfl⟩ := h0.2.2.2.reads.shape
 have hzl := zero_line
 have hk := (BK.new w #[.int .i64 a, .int .i64 b, .int .i64 d, .int .i64 m, .slice am ms.length cm, .int .i64 nx, .slice ag gs.length cg, .string T, .bool tO, .string H, .bool hO, .slice at_ ts.length ct, .slice ab bs.length cb] 32).alloc (.cells #[.int .i64 0, .int .i64 0, .int .i64 0, .int .i64 0, .slice none 0 0, .int .i64 0, .slice none 0 0, .string ⟨#[]⟩, .bool false, .string ⟨#[]⟩, .bool false, .slice none 0 0, .slice none 0 0] 32)
 have hq := BK.new (w.alloc (.cells #[.int .i64 a, .int .i64 b, .int .i64 d, .int .i64 m, .slice am ms.length cm, .int .i64 nx, .slice ag gs.length cg, .string T, .bool tO, .string H, .bool hO, .slice at_ ts.length ct, .slice ab bs.length cb] 32)) #[.int .i64 0, .int .i64 0, .int .i64 0, .int .i64 0, .slice none 0 0, .int .i64 0, .slice none 0 0, .string ⟨#[]⟩, .bool false, .string ⟨#[]⟩, .bool false, .slice none 0 0, .slice none 0 0] 32
 rw [World.size_alloc] at hq
 have hb := ((Below.refl w.heap.size w).alloc (Nat.le_refl _) (.cells #[.int .i64 a, .int .i64 b, .int .i64 d, .int .i64 m, .slice am ms.length cm, .int .i64 nx, .slice ag gs.length cg, .string T, .bool tO, .string H, .bool hO, .slice at_ ts.length ct, .slice ab bs.length cb] 32)).alloc (by simp) (.cells #[.int .i64 0, .int .i64 0, .int .i64 0, .int .i64 0, .slice none 0 0, .int .i64 0, .slice none 0 0, .string ⟨#[]⟩, .bool false, .string ⟨#[]⟩, .bool false, .slice none 0 0, .slice none 0 0] 32)
 have HO := Lib.hid (h0.below hb)
 have HB := Lib.hid hb
 have HQ := Lib.hid hq
 have HK := Lib.hid hk
 have HSM := Lib.hid hs
 obtain ⟨c0, c1, c2, c3, c4, c5, c6, c7, c8, c9, c10, c11, c12⟩ := cells13 hk
 have HLO := Lib.hid (fun (u : World) (hr : RS u u.heap.size (.slice am ms.length cm) ms) => l8Ok_any a b d m nx _ ms ag at_ ab gs.length cg ts.length ct bs.length cb T H tO hO u u.heap.size hr (Nat.le_refl _) wa (by have := HSM.out.1.1; unfold maxLen; omega) (by have := HSM.out.1.2; unfold maxLen; omega) (by have := HSM.out.2.1.1; unfold maxLen; omega) (fun s hs => by have := HSM.out.2.2.1 s hs; unfold maxLen; omega))
 rw [show lineB ⟨a, b, d, m⟩ ms nx gs.length ⟨T.data.toList, tO⟩ ⟨H.data.toList, hO⟩ ts.length bs.length = okLn a b d m ms nx gs T tO H hO ts bs from rfl] at HLO
 clear h0 hk hq hb hs
 go_enter Tryz.func20, Tryz.ntmps20
 go_wp2_with fail
 refine (HLO.out _ HO.out.1.reads).mono ?_
 rintro e w1 ⟨rfl, hb1⟩
 have hk1 := HK.out.from hb1
 have hq1 := HQ.out.from hb1
 have HO1 := Lib.hid (HO.out.below hb1)
 have HB1 := Lib.hid (HB.out.trans (hb1.mono HB.out.size))
 obtain ⟨c0, c1, c2, c3, c4, c5, c6, c7, c8, c9, c10, c11, c12⟩ := cells13 hk1
 obtain ⟨z0, z1, z2, z3, z4, z5, z6, z7, z8, z9, z10, z11, z12⟩ := cells13 hq1
 obtain ⟨f0, f1, f2, f3, f4, f5, f6, f7, f8, f9, f10, f11, f12⟩ := free13 hq1
 have HQ1 := Lib.hid hq1
 have HK1 := Lib.hid hk1
 clear hb1 hk1 hq1
 by_cases hc : okLn a b d m ms nx gs T tO H hO ts bs = true ∧ 0 ≤ r ∧ r ≤ 12
 ·obtain ⟨hok, hr0, hr12⟩ := hc
  have HV := Lib.hid (show calmRes (mkLs a b d m ms nx gs T tO H hO ts bs) (okLn a b d m ms nx gs T tO H hO ts bs) r = Ls.calmN r.toNat (mkLs a b d m ms nx gs T tO H hO ts bs) by unfold calmRes; rw [if_pos ⟨hok, hr0, hr12⟩])
  obtain ⟨hoks, hnx⟩ := okLn_yes hok ⟨HSM.out.2.2.2.1, HSM.out.2.2.2.2.1, HSM.out.2.2.2.2.2⟩
  have HOK := Lib.hid hoks
  rw [hok]
  obtain ⟨n, rfl⟩ := Int.eq_ofNat_of_zero_le hr0
  have hn12 : n ≤ 12 := by omega
  have hin : inB (n : Int) 0 12 = true := by simp [inB]; omega
  obtain ⟨s0, hs0⟩ : ∃ s0, s0 = mkLs a b d m ms nx gs T tO H hO ts bs := ⟨_, rfl⟩
  have HCP := Lib.hid (fun (u : World) (ho : OL u 0 (.slice am ms.length cm) ms (.slice ag gs.length cg) gs (.slice at_ ts.length ct) ts (.slice ab bs.length cb) bs) => l8Copy_any (mkLs a b d m ms nx gs T tO H hO ts bs) hoks (.slice am ms.length cm) (.slice ab bs.length cb) (.slice ag gs.length cg) (.slice at_ ts.length ct) u ho)
  rw [show lsV (mkLs a b d m ms nx gs T tO H hO ts bs) (.slice am ms.length cm) (.slice ab bs.length cb) (.slice ag gs.length cg) (.slice at_ ts.length ct) = lnV a b d m (.slice am ms.length cm) nx (.slice ag gs.length cg) T tO H hO (.slice at_ ts.length ct) (.slice ab bs.length cb) by rw [hnx]; rfl] at HCP
  rw [← hs0] at HCP HOK
  have HS0 := Lib.hid hs0
  clear hs0 hoks hnx hok
  go_wp2_with fail
  refine (l1In_any _ _ _ _).mono ?_
  rintro e w1b ⟨rfl, hww⟩
  obtain rfl := hww.symm
  rw [hin]
  go_wp2_with fail
  refine (HCP.out _ HO1.out).mono ?_
  rintro e w2 ⟨xm, xb, xg, xt, rfl, hol2, hb2⟩
  obtain ⟨am2, cm2, rfl⟩ := hol2.1.reads.shape
  obtain ⟨ag2, cg2, rfl⟩ := hol2.2.1.reads.shape
  obtain ⟨at2, ct2, rfl⟩ := hol2.2.2.1.reads.shape
  obtain ⟨ab2, cb2, rfl⟩ := hol2.2.2.2.reads.shape
  have hM : w.heap.size ≤ w2.heap.size := Nat.le_trans HB1.out.size hb2.size
  have hqq := HQ1.out.from hb2
  have hql := hqq.lt
  have hMZ : w2.heap.size ≠ w.heap.size + 1 := by omega
  have HC0 := Lib.hid (show Cal w (w2.alloc (.cells (lsC s0 (.slice am2 s0.ms.length cm2) (.slice ab2 s0.bs.length cb2) (.slice ag2 s0.gs.length cg2) (.slice at2 s0.ts.length ct2)) 32)) w2.heap.size (w.heap.size + 1) s0 (.slice am2 s0.ms.length cm2) (.slice ab2 s0.bs.length cb2) (.slice ag2 s0.gs.length cg2) (.slice at2 s0.ts.length ct2) from ⟨BK.new _ _ _, hqq.alloc _, (HB1.out.trans (hb2.mono HB1.out.size)).alloc hM _, hol2.below ((Below.refl _ _).alloc (Nat.le_refl _) _)⟩)
  clear hol2 hb2 hqq z0 z1 z2 z3 z4 z5 z6 z7 z8 z9 z10 z11 z12 f0 f1 f2 f3 f4 f5 f6 f7 f8 f9 f10 f11 f12 c0 c1 c2 c3 c4 c5 c6 c7 c8 c9 c10 c11 c12
  go_wp2
  go_loopw [6] (fun i wr => ∃ k : Nat, k ≤ n ∧ i = .int .i64 (k : Int) ∧ Cals w wr w2.heap.size (w.heap.size + 1) (Ls.calmN k s0)) (fun i _ => n - (intOf i).toNat)
  case atStart => exact ⟨0, Nat.zero_le _, rfl, _, _, _, _, HC0.out⟩
  case round =>
   obtain ⟨k, hk, rfl, hcs⟩ := hrel
   have HCS := Lib.hid hcs
   clear hcs HC0
   by_cases hlt : k < n
   ·have HOKk := Lib.hid (Ls.Ok.calmN k HOK.out)
    have HPK := Lib.hid (show Ls.calmN (k + 1) s0 = (Ls.calmN k s0).calmP from rfl)
    generalize Ls.calmN k s0 = p0 at *
    go_wp2
    go_loopw [] (fun wr => ∃ q : Ls, q.Ok ∧ Cals w wr w2.heap.size (w.heap.size + 1) q ∧ q.allT = p0.allT) (fun wr => wireLen wr w2.heap.size 11)
    case atStart => exact ⟨p0, HOKk.out, HCS.out, rfl⟩
    case round =>
     obtain ⟨q, hq, hcq, hall⟩ := hrel
     have HQK := Lib.hid hq
     have HWL := Lib.hid (cal_to hcq)
     have HAL := Lib.hid hall
     obtain ⟨um, ub, ug, ut, hcal⟩ := hcq
     obtain ⟨am4, cm4, rfl⟩ := hcal.ol.1.reads.shape
     obtain ⟨ag4, cg4, rfl⟩ := hcal.ol.2.1.reads.shape
     obtain ⟨at4, ct4, rfl⟩ := hcal.ol.2.2.1.reads.shape
     obtain ⟨ab4, cb4, rfl⟩ := hcal.ol.2.2.2.reads.shape
     have HC := Lib.hid hcal
     clear hq hall hcal
     by_cases hpos : 0 < q.ts.length
     ·have HNE := Lib.hid (List.length_pos_iff.1 hpos)
      obtain ⟨c0, c1, c2, c3, c4, c5, c6, c7, c8, c9, c10, c11, c12⟩ := cells13 HC.out.bk
      go_wp2_with fail
      refine (l8There_any q HQK.out _ _ _ _ _ HC.out.ol).mono ?_
      rintro e w5 ⟨xm, xb, xg, xt, b5, rfl, hol5, hb5⟩
      obtain ⟨am3, cm3, rfl⟩ := hol5.1.reads.shape
      obtain ⟨ag3, cg3, rfl⟩ := hol5.2.1.reads.shape
      obtain ⟨at3, ct3, rfl⟩ := hol5.2.2.1.reads.shape
      obtain ⟨ab3, cb3, rfl⟩ := hol5.2.2.2.reads.shape
      clear c0 c1 c2 c3 c4 c5 c6 c7 c8 c9 c10 c11 c12
      obtain ⟨c0, c1, c2, c3, c4, c5, c6, c7, c8, c9, c10, c11, c12⟩ := cells13 (HC.out.bk.from hb5)
      obtain ⟨f0, f1, f2, f3, f4, f5, f6, f7, f8, f9, f10, f11, f12⟩ := free13 (HC.out.bk.from hb5)
      have HC5 := Lib.hid (HC.out.next (s' := q.there) hM hMZ hb5 hol5)
      clear hol5 hb5
      go_wp2
      go_roundw
      case rel => exact ⟨q.there, HQK.out.there, ⟨_, _, _, _, HC5.out⟩, (allT_cons HNE.out).trans HAL.out⟩
      case measure =>
       rw [HWL.out]
       refine Nat.lt_of_le_of_lt (Nat.le_of_eq (cal_to (w0 := w) (Zb := w.heap.size + 1) ⟨_, _, _, _, HC5.out⟩)) ?_
       rw [there_ts, List.length_tail]
       omega
     ·have HNIL := Lib.hid (List.eq_nil_of_length_eq_zero (show q.ts.length = 0 by omega))
      have HA2 := Lib.hid (show q = p0.allT from (allT_nil HNIL.out).symm.trans HAL.out)
      have HCQ := Lib.hid (show Cals w wr w2.heap.size (w.heap.size + 1) q from ⟨_, _, _, _, HC.out⟩)
      have k11 : wr.cell? ⟨w2.heap.size, 11, none⟩ = some (.slice at4 q.ts.length ct4) := HC.out.bk.cell rfl
      clear HWL HNIL
      go_wp2
      clear k11
      go_loopw [] (fun wr => ∃ p : Ls, p.Ok ∧ Cals w wr w2.heap.size (w.heap.size + 1) p ∧ p.allB = p0.allT.allB) (fun wr => wireLen wr w2.heap.size 12)
      case atStart => exact ⟨q, HQK.out, HCQ.out, by rw [HA2.out]⟩
      case round =>
       obtain ⟨p, hp, hcp, hallp⟩ := hrel
       have HPKp := Lib.hid hp
       have HWB := Lib.hid (cal_back hcp)
       have HAP := Lib.hid hallp
       clear HC HCQ
       obtain ⟨um, ub, ug, ut, hcal⟩ := hcp
       obtain ⟨am5, cm5, rfl⟩ := hcal.ol.1.reads.shape
       obtain ⟨ag5, cg5, rfl⟩ := hcal.ol.2.1.reads.shape
       obtain ⟨at5, ct5, rfl⟩ := hcal.ol.2.2.1.reads.shape
       obtain ⟨ab5, cb5, rfl⟩ := hcal.ol.2.2.2.reads.shape
       have HC := Lib.hid hcal
       clear hp hallp hcal
       by_cases hposb : 0 < p.bs.length
       ·have HNE := Lib.hid (List.length_pos_iff.1 hposb)
        obtain ⟨c0, c1, c2, c3, c4, c5, c6, c7, c8, c9, c10, c11, c12⟩ := cells13 HC.out.bk
        go_wp2_with fail
        refine (l8Here_any p HPKp.out _ _ _ _ _ HC.out.ol).mono ?_
        rintro e w5 ⟨xm, xb, xg, xt, b5, rfl, hol5, hb5⟩
        obtain ⟨am3, cm3, rfl⟩ := hol5.1.reads.shape
        obtain ⟨ag3, cg3, rfl⟩ := hol5.2.1.reads.shape
        obtain ⟨at3, ct3, rfl⟩ := hol5.2.2.1.reads.shape
        obtain ⟨ab3, cb3, rfl⟩ := hol5.2.2.2.reads.shape
        clear c0 c1 c2 c3 c4 c5 c6 c7 c8 c9 c10 c11 c12
        obtain ⟨c0, c1, c2, c3, c4, c5, c6, c7, c8, c9, c10, c11, c12⟩ := cells13 (HC.out.bk.from hb5)
        obtain ⟨f0, f1, f2, f3, f4, f5, f6, f7, f8, f9, f10, f11, f12⟩ := free13 (HC.out.bk.from hb5)
        have HC5 := Lib.hid (HC.out.next (s' := p.here) hM hMZ hb5 hol5)
        clear hol5 hb5
        go_wp2
        go_roundw
        case rel => exact ⟨p.here, HPKp.out.here, ⟨_, _, _, _, HC5.out⟩, (allB_cons HNE.out).trans HAP.out⟩
        case measure =>
         rw [HWB.out]
         refine Nat.lt_of_le_of_lt (Nat.le_of_eq (cal_back (w0 := w) (Zb := w.heap.size + 1) ⟨_, _, _, _, HC5.out⟩)) ?_
         rw [here_bs, List.length_tail]
         omega
       ·have HNIL := Lib.hid (List.eq_nil_of_length_eq_zero (show p.bs.length = 0 by omega))
        have HB2 := Lib.hid (show p = p0.allT.allB from (allB_nil HNIL.out).symm.trans HAP.out)
        clear HWB HNIL
        obtain ⟨c0, c1, c2, c3, c4, c5, c6, c7, c8, c9, c10, c11, c12⟩ := cells13 HC.out.bk
        go_wp2_with fail
        refine (l8Send_any p HPKp.out _ _ _ _ _ HC.out.ol).mono ?_
        rintro e w5 ⟨xm, xb, xg, xt, b5, rfl, hol5, hb5⟩
        obtain ⟨am3, cm3, rfl⟩ := hol5.1.reads.shape
        obtain ⟨ag3, cg3, rfl⟩ := hol5.2.1.reads.shape
        obtain ⟨at3, ct3, rfl⟩ := hol5.2.2.1.reads.shape
        obtain ⟨ab3, cb3, rfl⟩ := hol5.2.2.2.reads.shape
        clear c0 c1 c2 c3 c4 c5 c6 c7 c8 c9 c10 c11 c12
        obtain ⟨c0, c1, c2, c3, c4, c5, c6, c7, c8, c9, c10, c11, c12⟩ := cells13 (HC.out.bk.from hb5)
        obtain ⟨f0, f1, f2, f3, f4, f5, f6, f7, f8, f9, f10, f11, f12⟩ := free13 (HC.out.bk.from hb5)
        have HC5 := Lib.hid (HC.out.next (s' := p.sendP) hM hMZ hb5 hol5)
        clear hol5 hb5
        go_wp2
        go_roundw
        case rel => exact ⟨k + 1, by omega, by go_num, by rw [HPK.out]; unfold Ls.calmP; rw [← HB2.out]; exact ⟨_, _, _, _, HC5.out⟩⟩
        case measure => simp [intOf]; omega
   ·have hkn : k = n := by omega
    have HV2 := Lib.hid (HV.out.trans (show Ls.calmN ((n : Int)).toNat (mkLs a b d m ms nx gs T tO H hO ts bs) = Ls.calmN k s0 by rw [hkn, HS0.out]; rfl))
    clear hkn
    generalize Ls.calmN k s0 = q at *
    obtain ⟨um, ub, ug, ut, hcal⟩ := HCS.out
    obtain ⟨am4, cm4, rfl⟩ := hcal.ol.1.reads.shape
    obtain ⟨ag4, cg4, rfl⟩ := hcal.ol.2.1.reads.shape
    obtain ⟨at4, ct4, rfl⟩ := hcal.ol.2.2.1.reads.shape
    obtain ⟨ab4, cb4, rfl⟩ := hcal.ol.2.2.2.reads.shape
    have HC := Lib.hid hcal
    clear hcal
    obtain ⟨c0, c1, c2, c3, c4, c5, c6, c7, c8, c9, c10, c11, c12⟩ := cells13 HC.out.bk
    obtain ⟨z0, z1, z2, z3, z4, z5, z6, z7, z8, z9, z10, z11, z12⟩ := cells13 HC.out.bq
    obtain ⟨f0, f1, f2, f3, f4, f5, f6, f7, f8, f9, f10, f11, f12⟩ := free13 HC.out.bq
    go_wp2
    rw [HV2.out]
    have hq := set13_bk (v0 := .int .i64 q.c.codec) (v1 := .int .i64 q.c.sum) (v2 := .int .i64 q.c.most) (v3 := .int .i64 q.c.map) (v4 := (.slice am4 q.ms.length cm4)) (v5 := .int .i64 (q.nx : Int)) (v6 := (.slice ag4 q.gs.length cg4)) (v7 := .string (bzL q.f.held)) (v8 := .bool q.f.over) (v9 := .string (bzL q.h.held)) (v10 := .bool q.h.over) (v11 := (.slice at4 q.ts.length ct4)) (v12 := (.slice ab4 q.bs.length cb4)) HC.out.bq rfl
    refine line_ret Tryz.results20 hq rfl rfl ⟨_, _, _, _, rfl, ⟨set13_own HC.out.ol.1 (own_ne HC.out.bq line_str HC.out.ol.1), set13_own HC.out.ol.2.1 (own_ne HC.out.bq line_str HC.out.ol.2.1), set13_own HC.out.ol.2.2.1 (own_ne HC.out.bq line_str HC.out.ol.2.2.1), set13_own HC.out.ol.2.2.2 (own_ne HC.out.bq line_str HC.out.ol.2.2.2)⟩, set13_below HC.out.bl (by omega)⟩
 ·have HV := Lib.hid (show calmRes (mkLs a b d m ms nx gs T tO H hO ts bs) (okLn a b d m ms nx gs T tO H hO ts bs) r = zeroLs by unfold calmRes; rw [if_neg hc])
  have hq := set13_bk (v0 := .int .i64 0) (v1 := .int .i64 0) (v2 := .int .i64 0) (v3 := .int .i64 0) (v4 := .slice none 0 0) (v5 := .int .i64 0) (v6 := .slice none 0 0) (v7 := .string ⟨#[]⟩) (v8 := .bool false) (v9 := .string ⟨#[]⟩) (v10 := .bool false) (v11 := .slice none 0 0) (v12 := .slice none 0 0) HQ1.out rfl
  have HQ := Lib.hid hq
  have HBZ := Lib.hid (show Below w.heap.size w _ from set13_below (g := w.heap.size + 1) (v0 := .int .i64 0) (v1 := .int .i64 0) (v2 := .int .i64 0) (v3 := .int .i64 0) (v4 := .slice none 0 0) (v5 := .int .i64 0) (v6 := .slice none 0 0) (v7 := .string ⟨#[]⟩) (v8 := .bool false) (v9 := .string ⟨#[]⟩) (v10 := .bool false) (v11 := .slice none 0 0) (v12 := .slice none 0 0) HB1.out (by omega))
  clear hq
  cases ho : okLn a b d m ms nx gs T tO H hO ts bs with
  | false =>
   clear hc
   go_wp2
   rw [HV.out]
   exact line_ret Tryz.results20 HQ.out rfl rfl ⟨_, _, _, _, rfl, ⟨OS_nil _ _, OS_nil _ _, OS_nil _ _, OS_nil _ _⟩, HBZ.out⟩
  | true =>
   have hin : inB r 0 12 = false := by
    rw [ho] at hc
    simp only [true_and] at hc
    simp [inB]
    omega
   clear hc
   go_wp2_with fail
   refine (l1In_any _ _ _ _).mono ?_
   rintro e w1b ⟨rfl, hww⟩
   obtain rfl := hww.symm
   rw [hin]
   go_wp2
   rw [HV.out]
   exact line_ret Tryz.results20 HQ.out rfl rfl ⟨_, _, _, _, rfl, ⟨OS_nil _ _, OS_nil _ _, OS_nil _ _, OS_nil _ _⟩, HBZ.out⟩
end Go.Proofs.YtmggoiabcboaiaaGreat
namespace Go.Proofs.YtmggoiabcboaiaaGreat
open Go.ChangeShapes Go.WideShapes Go.ChangeAt Go.RowKit
def RW (w W : World) (B g N : Nat) : Prop := Rd W B g N ∧ w.grownBy W (some g) ∧ g < w.heap.size
section
variable {w W W' : World} {B g N N' : Nat}
theorem RW.start (h : Rd w B g N) : RW w w B g N := ⟨h, ⟨rfl, rfl, rfl, Nat.le_refl _, fun _ _ _ => rfl⟩, h.lt⟩
theorem RW.alloc (h : RW w W B g N) (o : Obj) : RW w (W.alloc o) B g N := ⟨h.1.alloc _, grown_alloc h.2.1 _, h.2.2⟩
theorem RW.next (h : RW w W B g N) (hr : Rd W' B g N') (hw : W.grownBy W' (some g)) : RW w W' B g N' := ⟨hr, grown_trans h.2.1 hw, h.2.2⟩
theorem RW.from (h : RW w W B g N) (hb : Below W.heap.size W W') : RW w W' B g N := ⟨h.1.grow (below_grown hb none) (by simp) (by simp), grown_trans h.2.1 (below_grown hb _), h.2.2⟩
theorem RW.drew (h : RW w W B g N) : RW w W.drew B g N := ⟨h.1, ⟨h.2.1.os, h.2.1.tape, h.2.1.output, h.2.1.size, h.2.1.block⟩, h.2.2⟩
theorem RW.mono (h : RW w W B g N) (hN : N ≤ N') : RW w W B g N' := ⟨h.1.mono hN, h.2⟩
theorem RW.own {row : Option Nat} (h : RW w W B g N) (hg : W.grownBy W' row) (hr : ∀ k, row = some k → w.heap.size ≤ k) : RW w W' B g N := by
 have hB : B ≤ g := by obtain ⟨_, _, _, _, _, _, _, _, _, h5, _⟩ := h.1; exact h5
 have hgw := h.2.2
 exact ⟨h.1.grow hg (fun e => by have := hr _ e; omega) (fun k hk => by have := hr _ hk; omega), grown_own h.2.1 hg hr, h.2.2⟩
theorem RW.set (h : RW w W B g N) {j o : Nat} (hj : w.heap.size ≤ j) (x : Value) : RW w (W.setCell ⟨j, o, none⟩ x) B g N := by
 have hB : B ≤ g := by obtain ⟨_, _, _, _, _, _, _, _, _, h5, _⟩ := h.1; exact h5
 have hgl := h.2.2
 refine ⟨h.1.keep fun i hi => Below.heap_setCell _ _ _ _ (by simp only; omega), ?_, hgl⟩
 have hg := h.2.1
 refine ⟨hg.os, hg.tape, hg.output, by simpa using hg.size, fun k hk hne => ?_⟩
 rw [Below.heap_setCell _ _ _ _ (by simp only; omega)]
 exact hg.block k hk hne
theorem RW.size (h : RW w W B g N) : w.heap.size ≤ W.heap.size := h.2.1.size
theorem BK.next {j : Nat} {cs : Array Value} {t : TypeId} (h : BK W j cs t) (hw : W.grownBy W' (some g)) (hj : g < j) : BK W' j cs t := h.grown hw (by simp; omega)
end
end Go.Proofs.YtmggoiabcboaiaaGreat
namespace Go.Proofs.YtmggoiabcboaiaaGreat
open Go.ChangeShapes Go.WideShapes Go.ChangeAt Go.RowKit
theorem zero_conf (w : World) : (zeroValue 24).run Tryz.prog w = .ok (.agg #[.int .i64 0, .int .i64 0, .int .i64 0, .int .i64 0]) w := by kernel_rfl
def ConfPost (w : World) (B g N : Nat) (e : Ending) (w' : World) : Prop := ∃ a b d m : Int, e = .returned (cfV a b d m) ∧ confB ⟨a, b, d, m⟩ = true ∧ Rd w' B g N ∧ w.grownBy w' (some g)
theorem cells4 {W : World} {g : Nat} {a b d m : Value} {t : TypeId} (h : BK W g #[a, b, d, m] t) : W.cell? ⟨g, 0, none⟩ = some a ∧ W.cell? ⟨g, 1, none⟩ = some b ∧ W.cell? ⟨g, 2, none⟩ = some d ∧ W.cell? ⟨g, 3, none⟩ = some m := ⟨h.cell rfl, h.cell rfl, h.cell rfl, h.cell rfl⟩
theorem free4 {W : World} {g : Nat} {cs : Array Value} {t : TypeId} (h : BK W g cs t) : W.frozen? ⟨g, 0, none⟩ = false ∧ W.frozen? ⟨g, 1, none⟩ = false ∧ W.frozen? ⟨g, 2, none⟩ = false ∧ W.frozen? ⟨g, 3, none⟩ = false := ⟨h.free 0, h.free 1, h.free 2, h.free 3⟩
theorem confB_mk {a b d m : Int} (h1 : a = 1 ∨ a = 2 ∨ a = 3) (h2 : b = 2 ∨ b = 4) (h3 : 0 ≤ d ∧ d ≤ 40) (h4 : 0 ≤ m ∧ m ≤ 4294967295) (h5 : a = 1 ∨ m = 0) : confB ⟨a, b, d, m⟩ = true := by
 have hk : kindB b = true := by rcases h2 with rfl | rfl <;> rfl
 simp only [confB, inB, mapOkB, hk, Bool.and_eq_true, Bool.or_eq_true, decide_eq_true_eq]
 exact ⟨by omega, trivial, h3, h4, h5⟩
theorem conf_end {w W : World} {B g N : Nat} {a b d m : Int} (h : RW w W B g N) (hc : confB ⟨a, b, d, m⟩ = true) :
  ConfPost w B g N (.returned (cfV a b d m)) ((((W.setCell ⟨w.heap.size, 0, none⟩ (.int .i64 a)).setCell ⟨w.heap.size, 1, none⟩ (.int .i64 b)).setCell ⟨w.heap.size, 2, none⟩ (.int .i64 d)).setCell ⟨w.heap.size, 3, none⟩ (.int .i64 m)) := by
 have h2 := (((h.set (Nat.le_refl _) (o := 0) (.int .i64 a)).set (Nat.le_refl _) (o := 1) (.int .i64 b)).set (Nat.le_refl _) (o := 2) (.int .i64 d)).set (Nat.le_refl _) (o := 3) (.int .i64 m)
 exact ⟨a, b, d, m, rfl, hc, h2.1, h2.2.1⟩
set_option maxRecDepth 100000 in
set_option maxHeartbeats 2000000 in
theorem conf_any {w : World} {B g N : Nat} (h : Rd w B g N) (hN : N + 4 ≤ 1000000000) :
  Calls Tryz.prog 35 #[.pointer (some ⟨g, 0, none⟩)] w (ConfPost w B g (N + 4)) := by
 have hz := zero_conf
 have hgl := h.lt
 have HR0 := Lib.hid ((RW.start h).alloc (.cells #[.int .i64 0, .int .i64 0, .int .i64 0, .int .i64 0] 24))
 have HK0 := Lib.hid (BK.new w #[.int .i64 0, .int .i64 0, .int .i64 0, .int .i64 0] 24)
 clear h
 go_enter Tryz.func35, Tryz.ntmps35
 go_wp2_with fail
 refine (pick_any 3 HR0.out.1 (by omega)).mono ?_
 rintro e w1 ⟨⟨x, rfl, hx, _⟩, hr1, hg1⟩
 obtain ⟨hx0, hx3⟩ := hx (by omega)
 obtain ⟨a, hadd, ha1, ha3⟩ : ∃ a : Int, 1 + x = a ∧ 1 ≤ a ∧ a ≤ 3 := ⟨_, rfl, by omega, by omega⟩
 have HR1 := Lib.hid (HR0.out.next hr1 hg1)
 have HK1 := Lib.hid (HK0.out.next hg1 hgl)
 clear hx hr1 hg1 HR0 HK0
 have hs1 : w.heap.size + 1 ≤ w1.heap.size := HK1.out.lt
 go_wp2_with fail
 refine (one_any [2, 4] 3 (HR1.out.alloc _).1 (by omega) (by simp) (by simp) (by omega) (list_row w1 _ _ _ rfl)).mono ?_
 rintro e w2 ⟨b, hb, rfl, hr2, hg2⟩
 have HR2 := Lib.hid ((HR1.out.alloc _).next hr2 hg2)
 have HK2 := Lib.hid ((HK1.out.alloc _).next hg2 hgl)
 have hs2 : w.heap.size + 1 ≤ w2.heap.size := HK2.out.lt
 clear hr2 hg2 HR1 HK1
 go_wp2_with fail
 refine (one_any [0, 5, 12, 40] 3 (HR2.out.alloc _).1 (by omega) (by simp) (by simp) (by omega) (list_row w2 _ _ _ rfl)).mono ?_
 rintro e w3 ⟨d, hd, rfl, hr3, hg3⟩
 have hR3 := (HR2.out.alloc _).next hr3 hg3
 have hK3 := (HK2.out.alloc _).next hg3 hgl
 have hs3 : w.heap.size + 1 ≤ w3.heap.size := hK3.lt
 have HX := Lib.hid (BK.new w3 #[.int .i64 a, .int .i64 b, .int .i64 d, .int .i64 0] 24)
 have HR3 := Lib.hid (hR3.alloc (.cells #[.int .i64 a, .int .i64 b, .int .i64 d, .int .i64 0] 24))
 have HK3 := Lib.hid (hK3.alloc (.cells #[.int .i64 a, .int .i64 b, .int .i64 d, .int .i64 0] 24))
 have hbb : b = 2 ∨ b = 4 := by simpa using hb
 have hdd : d = 0 ∨ d = 5 ∨ d = 12 ∨ d = 40 := by simpa using hd
 clear hr3 hg3 HR2 HK2 hR3 hK3 hb hd
 by_cases hx1 : a = 1
 ·have hxb : (a == 1) = true := by rw [beq_iff_eq]; exact hx1
  have HX1 := Lib.hid hx1
  clear hx1
  have x0 := HX.out.cell (i := 0) rfl
  have hrow := list_row (w3.alloc (.cells #[.int .i64 a, .int .i64 b, .int .i64 d, .int .i64 0] 24)) #[.int .i64 0, .int .i64 4294967295, .int .i64 655360] 3 [0, 4294967295, 655360] rfl
  rw [World.size_alloc] at hrow
  have HROW := Lib.hid hrow
  clear hrow
  go_wp2_with fail
  refine (one_any (m := w3.heap.size + 1) [0, 4294967295, 655360] 3 (HR3.out.alloc _).1 (by omega) (by simp) (by simp) (by omega) HROW.out).mono ?_
  rintro e w4 ⟨m, hm, rfl, hr4, hg4⟩
  have hX4 := (HX.out.alloc _).next hg4 (by omega)
  have hK4 := (HK3.out.alloc _).next hg4 hgl
  have hR4 := (HR3.out.alloc _).next hr4 hg4
  have hmm : m = 0 ∨ m = 4294967295 ∨ m = 655360 := by simpa using hm
  clear hr4 hg4 x0 hm HX HR3 HK3
  obtain ⟨x0, x1, x2, x3⟩ := cells4 hX4
  obtain ⟨y0, y1, y2, y3⟩ := free4 hX4
  obtain ⟨z0, z1, z2, z3⟩ := cells4 hK4
  obtain ⟨u0, u1, u2, u3⟩ := free4 hK4
  have HR4 := Lib.hid hR4
  have hne : w.heap.size ≠ w3.heap.size := by omega
  have hne2 : w3.heap.size ≠ w.heap.size := by omega
  clear hX4 hK4 hR4
  go_wp2
  exact bodyPost_ret (v := cfV a b d m) (by simp [results, Tryz.results35, go_sem, z0, z1, z2, z3]) rfl (conf_end (HR4.out.set (by omega) _) (confB_mk (.inl HX1.out) hbb (by omega) (by omega) (.inl HX1.out)))
 ·have hxb : (a == 1) = false := beq_eq_false_iff_ne.2 hx1
  obtain ⟨x0, x1, x2, x3⟩ := cells4 HX.out
  obtain ⟨z0, z1, z2, z3⟩ := cells4 HK3.out
  obtain ⟨u0, u1, u2, u3⟩ := free4 HK3.out
  have hne : w.heap.size ≠ w3.heap.size := by omega
  have hne2 : w3.heap.size ≠ w.heap.size := by omega
  go_wp2
  exact bodyPost_ret (v := cfV a b d 0) (by simp [results, Tryz.results35, go_sem, z0, z1, z2, z3]) rfl (conf_end (HR3.out.mono (by omega)) (confB_mk (by omega) hbb (by omega) (by omega) (.inr rfl)))
end Go.Proofs.YtmggoiabcboaiaaGreat
