/- Parts of a proof, 29: LkY. -/
import Derived.Test.YtmggoiabcboaiaaGreatZe1
import Derived.Test.YtmggoiabcboaiaaGreatZe2
import Derived.Test.YtmggoiabcboaiaaGreatZe3
import Derived.Test.YtmggoiabcboaiaaGreatZe4
import Derived.Test.YtmggoiabcboaiaaGreatZe5
import Derived.Test.YtmggoiabcboaiaaGreatZe6
import Derived.Test.YtmggoiabcboaiaaGreatZe7
import Derived.Test.YtmggoiabcboaiaaGreatZe8
import Derived.Test.YtmggoiabcboaiaaGreatZe9
import Derived.Test.YtmggoiabcboaiaaGreatZe10
import Derived.Test.YtmggoiabcboaiaaGreatZe11
import Derived.Test.YtmggoiabcboaiaaGreatZe12
import Derived.Test.YtmggoiabcboaiaaGreatZe13
import Derived.Test.YtmggoiabcboaiaaGreatZe14
import Derived.Test.YtmggoiabcboaiaaGreatZe15
import Derived.Test.YtmggoiabcboaiaaGreatZe16
import Derived.Test.YtmggoiabcboaiaaGreatZe17
import Derived.Test.YtmggoiabcboaiaaGreatZe18
import Derived.Test.YtmggoiabcboaiaaGreatZe19
import Derived.Test.YtmggoiabcboaiaaGreatZe20
import Derived.Test.YtmggoiabcboaiaaGreatZe21
import Derived.Test.YtmggoiabcboaiaaGreatZe23
import Derived.Test.YtmggoiabcboaiaaGreatZe24
import Derived.Test.YtmggoiabcboaiaaGreatZe25
import Derived.Test.YtmggoiabcboaiaaGreatZe26
import Derived.Test.YtmggoiabcboaiaaGreatZe28
namespace Go.Proofs.YtmggoiabcboaiaaGreat
open Go.ChangeShapes Go.WideShapes Go.ChangeAt Go.RowKit
set_option linter.unusedVariables false
set_option maxRecDepth 100000 in
set_option maxHeartbeats 2000000 in
theorem l8Do_anyB {base : Nat} (s : Ls) (hs : s.Ok) (k : Int) (vm vb vg vt : Value) (w : World) (h0 : OL w base vm s.ms vg s.gs vt s.ts vb s.bs) (hbs : base ≤ w.heap.size) :
  Calls Tryz.prog 43 #[lsV s vm vb vg vt, .int .i64 k] w (SPostB base w (s.doP k)) := by
 obtain ⟨i0, hi0, hz0, hz1, hz2⟩ := info_parts info_str
 have HI := Lib.hid hi0
 have HZ0 := Lib.hid hz0
 have HZ1 := Lib.hid hz1
 have HZ2 := Lib.hid hz2
 have h := h0.reads
 have hB : w.heap.size ≤ w.heap.size := Nat.le_refl _
 obtain ⟨am, cm, rfl⟩ := h.1.shape
 obtain ⟨ag, cg, rfl⟩ := h.2.1.shape
 obtain ⟨at_, ct, rfl⟩ := h.2.2.1.shape
 obtain ⟨ab, cb, rfl⟩ := h.2.2.2.shape
 have hzl := zero_line
 have hml := hs.ml
 have hnx := hs.nxl
 have htl := hs.tl
 have hgl := hs.gl
 have hbl := hs.bl
 have hcf := hs.conf
 have hmost := (confB_yes hs.conf).2.2.1
 have hk := (BK.new w #[.int .i64 s.c.codec, .int .i64 s.c.sum, .int .i64 s.c.most, .int .i64 s.c.map, .slice am s.ms.length cm, .int .i64 (s.nx : Int), .slice ag s.gs.length cg, .string (bzL s.f.held), .bool s.f.over, .string (bzL s.h.held), .bool s.h.over, .slice at_ s.ts.length ct, .slice ab s.bs.length cb] 32).alloc (.cells #[.int .i64 0, .int .i64 0, .int .i64 0, .int .i64 0, .slice none 0 0, .int .i64 0, .slice none 0 0, .string ⟨#[]⟩, .bool false, .string ⟨#[]⟩, .bool false, .slice none 0 0, .slice none 0 0] 32)
 have hq := BK.new (w.alloc (.cells #[.int .i64 s.c.codec, .int .i64 s.c.sum, .int .i64 s.c.most, .int .i64 s.c.map, .slice am s.ms.length cm, .int .i64 (s.nx : Int), .slice ag s.gs.length cg, .string (bzL s.f.held), .bool s.f.over, .string (bzL s.h.held), .bool s.h.over, .slice at_ s.ts.length ct, .slice ab s.bs.length cb] 32)) #[.int .i64 0, .int .i64 0, .int .i64 0, .int .i64 0, .slice none 0 0, .int .i64 0, .slice none 0 0, .string ⟨#[]⟩, .bool false, .string ⟨#[]⟩, .bool false, .slice none 0 0, .slice none 0 0] 32
 rw [World.size_alloc] at hq
 have hb := ((Below.refl w.heap.size w).alloc (Nat.le_refl _) (.cells #[.int .i64 s.c.codec, .int .i64 s.c.sum, .int .i64 s.c.most, .int .i64 s.c.map, .slice am s.ms.length cm, .int .i64 (s.nx : Int), .slice ag s.gs.length cg, .string (bzL s.f.held), .bool s.f.over, .string (bzL s.h.held), .bool s.h.over, .slice at_ s.ts.length ct, .slice ab s.bs.length cb] 32)).alloc (by simp) (.cells #[.int .i64 0, .int .i64 0, .int .i64 0, .int .i64 0, .slice none 0 0, .int .i64 0, .slice none 0 0, .string ⟨#[]⟩, .bool false, .string ⟨#[]⟩, .bool false, .slice none 0 0, .slice none 0 0] 32)
 have HR := Lib.hid ((h.mono hB).below hb)
 have HB := Lib.hid hb
 have HQ := Lib.hid hq
 have HK := Lib.hid hk
 have HH := Lib.hid h
 obtain ⟨w0, hw0⟩ : ∃ w0, w0 = (w.alloc (.cells #[.int .i64 s.c.codec, .int .i64 s.c.sum, .int .i64 s.c.most, .int .i64 s.c.map, .slice am s.ms.length cm, .int .i64 (s.nx : Int), .slice ag s.gs.length cg, .string (bzL s.f.held), .bool s.f.over, .string (bzL s.h.held), .bool s.h.over, .slice at_ s.ts.length ct, .slice ab s.bs.length cb] 32)).alloc (.cells #[.int .i64 0, .int .i64 0, .int .i64 0, .int .i64 0, .slice none 0 0, .int .i64 0, .slice none 0 0, .string ⟨#[]⟩, .bool false, .string ⟨#[]⟩, .bool false, .slice none 0 0, .slice none 0 0] 32) := ⟨_, rfl⟩
 rw [← hw0] at HR HB HQ HK
 have HW := Lib.hid hw0
 have HOm := Lib.hid (h0.1.below HB.out)
 have HOg := Lib.hid (h0.2.1.below HB.out)
 have HOt := Lib.hid (h0.2.2.1.below HB.out)
 have HOb := Lib.hid (h0.2.2.2.below HB.out)
 have HLm := Lib.hid (fun k hk => (h0.1.low k hk).2)
 have HLg := Lib.hid (fun k hk => (h0.2.1.low k hk).2)
 have HLt := Lib.hid (fun k hk => (h0.2.2.1.low k hk).2)
 have HLb := Lib.hid (fun k hk => (h0.2.2.2.low k hk).2)
 have HH0 := Lib.hid h0
 have hk0 := HK.out
 have hq0 := HQ.out
 rw [hw0] at hk0 hq0
 obtain ⟨c0, c1, c2, c3, c4, c5, c6, c7, c8, c9, c10, c11, c12⟩ := cells13 hk0
 obtain ⟨z0, z1, z2, z3, z4, z5, z6, z7, z8, z9, z10, z11, z12⟩ := cells13 hq0
 obtain ⟨f0, f1, f2, f3, f4, f5, f6, f7, f8, f9, f10, f11, f12⟩ := free13 hq0
 have hN : w.heap.size + 2 = w0.heap.size := by rw [hw0]; simp
 have HSOK := Lib.hid hs
 clear h h0 hk hq hb hk0 hq0 hi0 hz0 hz1 hz2 hw0 hs
 by_cases hk1 : k = 1
 ·subst hk1
  have HE := Lib.hid (show s.doP 1 = s.sendP by simp [Ls.doP])
  generalize hQ : s.sendP = Q at HE
  have HC := Lib.hid (show Calls Tryz.prog 55 #[lsV s (.slice am s.ms.length cm) (.slice ab s.bs.length cb) (.slice ag s.gs.length cg) (.slice at_ s.ts.length ct)] w0 (SPostB base w0 Q) from by rw [← hQ]; exact l8Send_anyB s HSOK.out _ _ _ _ w0 ⟨HOm.out, HOg.out, HOt.out, HOb.out⟩ (by omega))
  clear hQ
  go_enter Tryz.func43, Tryz.ntmps43
  go_wp2_with fail
  rw [← HW.out]
  refine HC.out.mono ?_
  rintro e w1 ⟨xm, xb, xg, xt, q, rfl, hol, hb1⟩
  obtain ⟨am3, cm3, rfl⟩ := hol.1.reads.shape
  obtain ⟨ag3, cg3, rfl⟩ := hol.2.1.reads.shape
  obtain ⟨at3, ct3, rfl⟩ := hol.2.2.1.reads.shape
  obtain ⟨ab3, cb3, rfl⟩ := hol.2.2.2.reads.shape
  clear c0 c1 c2 c3 c4 c5 c6 c7 c8 c9 c10 c11 c12 z0 z1 z2 z3 z4 z5 z6 z7 z8 z9 z10 z11 z12 f0 f1 f2 f3 f4 f5 f6 f7 f8 f9 f10 f11 f12
  have hbq := HQ.out.from hb1
  obtain ⟨z0, z1, z2, z3, z4, z5, z6, z7, z8, z9, z10, z11, z12⟩ := cells13 hbq
  obtain ⟨f0, f1, f2, f3, f4, f5, f6, f7, f8, f9, f10, f11, f12⟩ := free13 hbq
  have HBQ := Lib.hid hbq
  have HOL := Lib.hid hol
  have HB1 := Lib.hid (HB.out.trans (hb1.mono HB.out.size))
  clear hbq hol hb1
  go_wp2
  rw [HE.out]
  have hq := set13_bk (v0 := .int .i64 Q.c.codec) (v1 := .int .i64 Q.c.sum) (v2 := .int .i64 Q.c.most) (v3 := .int .i64 Q.c.map) (v4 := .slice am3 Q.ms.length cm3) (v5 := .int .i64 (Q.nx : Int)) (v6 := .slice ag3 Q.gs.length cg3) (v7 := .string (bzL Q.f.held)) (v8 := .bool Q.f.over) (v9 := .string (bzL Q.h.held)) (v10 := .bool Q.h.over) (v11 := .slice at3 Q.ts.length ct3) (v12 := .slice ab3 Q.bs.length cb3) HBQ.out rfl
  exact line_ret2 Tryz.results43 hq rfl rfl rfl ⟨_, _, _, _, _, rfl, ⟨set13_own HOL.out.1 (own_ne HBQ.out line_str HOL.out.1), set13_own HOL.out.2.1 (own_ne HBQ.out line_str HOL.out.2.1), set13_own HOL.out.2.2.1 (own_ne HBQ.out line_str HOL.out.2.2.1), set13_own HOL.out.2.2.2 (own_ne HBQ.out line_str HOL.out.2.2.2)⟩, set13_below HB1.out (by omega)⟩
 by_cases hk2 : k = 2
 ·subst hk2
  have HE := Lib.hid (show s.doP 2 = s.there by simp [Ls.doP])
  generalize hQ : s.there = Q at HE
  have HC := Lib.hid (show Calls Tryz.prog 53 #[lsV s (.slice am s.ms.length cm) (.slice ab s.bs.length cb) (.slice ag s.gs.length cg) (.slice at_ s.ts.length ct)] w0 (SPostB base w0 Q) from by rw [← hQ]; exact l8There_anyB s HSOK.out _ _ _ _ w0 ⟨HOm.out, HOg.out, HOt.out, HOb.out⟩ (by omega))
  clear hQ
  go_enter Tryz.func43, Tryz.ntmps43
  go_wp2_with fail
  rw [← HW.out]
  refine HC.out.mono ?_
  rintro e w1 ⟨xm, xb, xg, xt, q, rfl, hol, hb1⟩
  obtain ⟨am3, cm3, rfl⟩ := hol.1.reads.shape
  obtain ⟨ag3, cg3, rfl⟩ := hol.2.1.reads.shape
  obtain ⟨at3, ct3, rfl⟩ := hol.2.2.1.reads.shape
  obtain ⟨ab3, cb3, rfl⟩ := hol.2.2.2.reads.shape
  clear c0 c1 c2 c3 c4 c5 c6 c7 c8 c9 c10 c11 c12 z0 z1 z2 z3 z4 z5 z6 z7 z8 z9 z10 z11 z12 f0 f1 f2 f3 f4 f5 f6 f7 f8 f9 f10 f11 f12
  have hbq := HQ.out.from hb1
  obtain ⟨z0, z1, z2, z3, z4, z5, z6, z7, z8, z9, z10, z11, z12⟩ := cells13 hbq
  obtain ⟨f0, f1, f2, f3, f4, f5, f6, f7, f8, f9, f10, f11, f12⟩ := free13 hbq
  have HBQ := Lib.hid hbq
  have HOL := Lib.hid hol
  have HB1 := Lib.hid (HB.out.trans (hb1.mono HB.out.size))
  clear hbq hol hb1
  go_wp2
  rw [HE.out]
  have hq := set13_bk (v0 := .int .i64 Q.c.codec) (v1 := .int .i64 Q.c.sum) (v2 := .int .i64 Q.c.most) (v3 := .int .i64 Q.c.map) (v4 := .slice am3 Q.ms.length cm3) (v5 := .int .i64 (Q.nx : Int)) (v6 := .slice ag3 Q.gs.length cg3) (v7 := .string (bzL Q.f.held)) (v8 := .bool Q.f.over) (v9 := .string (bzL Q.h.held)) (v10 := .bool Q.h.over) (v11 := .slice at3 Q.ts.length ct3) (v12 := .slice ab3 Q.bs.length cb3) HBQ.out rfl
  exact line_ret2 Tryz.results43 hq rfl rfl rfl ⟨_, _, _, _, _, rfl, ⟨set13_own HOL.out.1 (own_ne HBQ.out line_str HOL.out.1), set13_own HOL.out.2.1 (own_ne HBQ.out line_str HOL.out.2.1), set13_own HOL.out.2.2.1 (own_ne HBQ.out line_str HOL.out.2.2.1), set13_own HOL.out.2.2.2 (own_ne HBQ.out line_str HOL.out.2.2.2)⟩, set13_below HB1.out (by omega)⟩
 by_cases hk3 : k = 3
 ·subst hk3
  have HE := Lib.hid (show s.doP 3 = s.here by simp [Ls.doP])
  generalize hQ : s.here = Q at HE
  have HC := Lib.hid (show Calls Tryz.prog 54 #[lsV s (.slice am s.ms.length cm) (.slice ab s.bs.length cb) (.slice ag s.gs.length cg) (.slice at_ s.ts.length ct)] w0 (SPostB base w0 Q) from by rw [← hQ]; exact l8Here_anyB s HSOK.out _ _ _ _ w0 ⟨HOm.out, HOg.out, HOt.out, HOb.out⟩ (by omega))
  clear hQ
  go_enter Tryz.func43, Tryz.ntmps43
  go_wp2_with fail
  rw [← HW.out]
  refine HC.out.mono ?_
  rintro e w1 ⟨xm, xb, xg, xt, q, rfl, hol, hb1⟩
  obtain ⟨am3, cm3, rfl⟩ := hol.1.reads.shape
  obtain ⟨ag3, cg3, rfl⟩ := hol.2.1.reads.shape
  obtain ⟨at3, ct3, rfl⟩ := hol.2.2.1.reads.shape
  obtain ⟨ab3, cb3, rfl⟩ := hol.2.2.2.reads.shape
  clear c0 c1 c2 c3 c4 c5 c6 c7 c8 c9 c10 c11 c12 z0 z1 z2 z3 z4 z5 z6 z7 z8 z9 z10 z11 z12 f0 f1 f2 f3 f4 f5 f6 f7 f8 f9 f10 f11 f12
  have hbq := HQ.out.from hb1
  obtain ⟨z0, z1, z2, z3, z4, z5, z6, z7, z8, z9, z10, z11, z12⟩ := cells13 hbq
  obtain ⟨f0, f1, f2, f3, f4, f5, f6, f7, f8, f9, f10, f11, f12⟩ := free13 hbq
  have HBQ := Lib.hid hbq
  have HOL := Lib.hid hol
  have HB1 := Lib.hid (HB.out.trans (hb1.mono HB.out.size))
  clear hbq hol hb1
  go_wp2
  rw [HE.out]
  have hq := set13_bk (v0 := .int .i64 Q.c.codec) (v1 := .int .i64 Q.c.sum) (v2 := .int .i64 Q.c.most) (v3 := .int .i64 Q.c.map) (v4 := .slice am3 Q.ms.length cm3) (v5 := .int .i64 (Q.nx : Int)) (v6 := .slice ag3 Q.gs.length cg3) (v7 := .string (bzL Q.f.held)) (v8 := .bool Q.f.over) (v9 := .string (bzL Q.h.held)) (v10 := .bool Q.h.over) (v11 := .slice at3 Q.ts.length ct3) (v12 := .slice ab3 Q.bs.length cb3) HBQ.out rfl
  exact line_ret2 Tryz.results43 hq rfl rfl rfl ⟨_, _, _, _, _, rfl, ⟨set13_own HOL.out.1 (own_ne HBQ.out line_str HOL.out.1), set13_own HOL.out.2.1 (own_ne HBQ.out line_str HOL.out.2.1), set13_own HOL.out.2.2.1 (own_ne HBQ.out line_str HOL.out.2.2.1), set13_own HOL.out.2.2.2 (own_ne HBQ.out line_str HOL.out.2.2.2)⟩, set13_below HB1.out (by omega)⟩
 by_cases hk4 : k = 4
 ·subst hk4
  have HE := Lib.hid (show s.doP 4 = { s with ts := loseP false s.ts } by simp [Ls.doP, loseP])
  have HC := Lib.hid (l8Lose_any (.slice at_ s.ts.length ct) s.ts false w0 HOt.out HSOK.out.tl (by omega))
  go_enter Tryz.func43, Tryz.ntmps43
  go_wp2_with fail
  rw [← HW.out]
  refine HC.out.mono ?_
  rintro e w1 ⟨u, q, rfl, hown, hb1⟩
  generalize loseP false s.ts = L at *
  obtain ⟨A3, C3, rfl⟩ := hown.reads.shape
  clear c0 c1 c2 c3 c4 c5 c6 c7 c8 c9 c10 c11 c12 z0 z1 z2 z3 z4 z5 z6 z7 z8 z9 z10 z11 z12 f0 f1 f2 f3 f4 f5 f6 f7 f8 f9 f10 f11 f12
  have hbq := HQ.out.from hb1
  have hbk := HK.out.from hb1
  obtain ⟨z0, z1, z2, z3, z4, z5, z6, z7, z8, z9, z10, z11, z12⟩ := cells13 hbq
  obtain ⟨f0, f1, f2, f3, f4, f5, f6, f7, f8, f9, f10, f11, f12⟩ := free13 hbq
  obtain ⟨c0, c1, c2, c3, c4, c5, c6, c7, c8, c9, c10, c11, c12⟩ := cells13 hbk
  have fk := hbk.free 11
  have HPm := Lib.hid (os_set (HOm.out.below hb1) (own_ne hbk line_str (HOm.out.below hb1)) (i := 11) (.slice A3 L.length C3))
  have HPg := Lib.hid (os_set (HOg.out.below hb1) (own_ne hbk line_str (HOg.out.below hb1)) (i := 11) (.slice A3 L.length C3))
  have HPt := Lib.hid (os_set (hown) (own_ne hbk line_str (hown)) (i := 11) (.slice A3 L.length C3))
  have HPb := Lib.hid (os_set (HOb.out.below hb1) (own_ne hbk line_str (HOb.out.below hb1)) (i := 11) (.slice A3 L.length C3))
  have HBQ := Lib.hid (hbq.far (j := w.heap.size) (o := 11) (by omega) (.slice A3 L.length C3))
  have HB1 := Lib.hid ((HB.out.trans (hb1.mono HB.out.size)).setCell (p := ⟨w.heap.size, 11, none⟩) (Nat.le_refl _) (.slice A3 L.length C3))
  clear hbq hbk hown hb1
  go_wp2
  rw [HE.out]
  have hq := set13_bk (v0 := .int .i64 s.c.codec) (v1 := .int .i64 s.c.sum) (v2 := .int .i64 s.c.most) (v3 := .int .i64 s.c.map) (v4 := .slice am s.ms.length cm) (v5 := .int .i64 (s.nx : Int)) (v6 := .slice ag s.gs.length cg) (v7 := .string (bzL s.f.held)) (v8 := .bool s.f.over) (v9 := .string (bzL s.h.held)) (v10 := .bool s.h.over) (v11 := .slice A3 L.length C3) (v12 := .slice ab s.bs.length cb) HBQ.out rfl
  exact line_ret2 Tryz.results43 hq rfl rfl rfl ⟨_, _, _, _, _, rfl, ⟨set13_own HPm.out (own_ne HBQ.out line_str HPm.out), set13_own HPg.out (own_ne HBQ.out line_str HPg.out), set13_own HPt.out (own_ne HBQ.out line_str HPt.out), set13_own HPb.out (own_ne HBQ.out line_str HPb.out)⟩, set13_below HB1.out (by omega)⟩
 by_cases hk5 : k = 5
 ·subst hk5
  have HE := Lib.hid (show s.doP 5 = { s with bs := loseP false s.bs } by simp [Ls.doP, loseP])
  have HC := Lib.hid (l8Lose_any (.slice ab s.bs.length cb) s.bs false w0 HOb.out HSOK.out.bl (by omega))
  go_enter Tryz.func43, Tryz.ntmps43
  go_wp2_with fail
  rw [← HW.out]
  refine HC.out.mono ?_
  rintro e w1 ⟨u, q, rfl, hown, hb1⟩
  generalize loseP false s.bs = L at *
  obtain ⟨A3, C3, rfl⟩ := hown.reads.shape
  clear c0 c1 c2 c3 c4 c5 c6 c7 c8 c9 c10 c11 c12 z0 z1 z2 z3 z4 z5 z6 z7 z8 z9 z10 z11 z12 f0 f1 f2 f3 f4 f5 f6 f7 f8 f9 f10 f11 f12
  have hbq := HQ.out.from hb1
  have hbk := HK.out.from hb1
  obtain ⟨z0, z1, z2, z3, z4, z5, z6, z7, z8, z9, z10, z11, z12⟩ := cells13 hbq
  obtain ⟨f0, f1, f2, f3, f4, f5, f6, f7, f8, f9, f10, f11, f12⟩ := free13 hbq
  obtain ⟨c0, c1, c2, c3, c4, c5, c6, c7, c8, c9, c10, c11, c12⟩ := cells13 hbk
  have fk := hbk.free 12
  have HPm := Lib.hid (os_set (HOm.out.below hb1) (own_ne hbk line_str (HOm.out.below hb1)) (i := 12) (.slice A3 L.length C3))
  have HPg := Lib.hid (os_set (HOg.out.below hb1) (own_ne hbk line_str (HOg.out.below hb1)) (i := 12) (.slice A3 L.length C3))
  have HPt := Lib.hid (os_set (HOt.out.below hb1) (own_ne hbk line_str (HOt.out.below hb1)) (i := 12) (.slice A3 L.length C3))
  have HPb := Lib.hid (os_set (hown) (own_ne hbk line_str (hown)) (i := 12) (.slice A3 L.length C3))
  have HBQ := Lib.hid (hbq.far (j := w.heap.size) (o := 12) (by omega) (.slice A3 L.length C3))
  have HB1 := Lib.hid ((HB.out.trans (hb1.mono HB.out.size)).setCell (p := ⟨w.heap.size, 12, none⟩) (Nat.le_refl _) (.slice A3 L.length C3))
  clear hbq hbk hown hb1
  go_wp2
  rw [HE.out]
  have hq := set13_bk (v0 := .int .i64 s.c.codec) (v1 := .int .i64 s.c.sum) (v2 := .int .i64 s.c.most) (v3 := .int .i64 s.c.map) (v4 := .slice am s.ms.length cm) (v5 := .int .i64 (s.nx : Int)) (v6 := .slice ag s.gs.length cg) (v7 := .string (bzL s.f.held)) (v8 := .bool s.f.over) (v9 := .string (bzL s.h.held)) (v10 := .bool s.h.over) (v11 := .slice at_ s.ts.length ct) (v12 := .slice A3 L.length C3) HBQ.out rfl
  exact line_ret2 Tryz.results43 hq rfl rfl rfl ⟨_, _, _, _, _, rfl, ⟨set13_own HPm.out (own_ne HBQ.out line_str HPm.out), set13_own HPg.out (own_ne HBQ.out line_str HPg.out), set13_own HPt.out (own_ne HBQ.out line_str HPt.out), set13_own HPb.out (own_ne HBQ.out line_str HPb.out)⟩, set13_below HB1.out (by omega)⟩
 by_cases hk6 : k = 6
 ·subst hk6
  have HE := Lib.hid (show s.doP 6 = { s with ts := loseP true s.ts } by simp [Ls.doP, loseP])
  have HC := Lib.hid (l8Lose_any (.slice at_ s.ts.length ct) s.ts true w0 HOt.out HSOK.out.tl (by omega))
  go_enter Tryz.func43, Tryz.ntmps43
  go_wp2_with fail
  rw [← HW.out]
  refine HC.out.mono ?_
  rintro e w1 ⟨u, q, rfl, hown, hb1⟩
  generalize loseP true s.ts = L at *
  obtain ⟨A3, C3, rfl⟩ := hown.reads.shape
  clear c0 c1 c2 c3 c4 c5 c6 c7 c8 c9 c10 c11 c12 z0 z1 z2 z3 z4 z5 z6 z7 z8 z9 z10 z11 z12 f0 f1 f2 f3 f4 f5 f6 f7 f8 f9 f10 f11 f12
  have hbq := HQ.out.from hb1
  have hbk := HK.out.from hb1
  obtain ⟨z0, z1, z2, z3, z4, z5, z6, z7, z8, z9, z10, z11, z12⟩ := cells13 hbq
  obtain ⟨f0, f1, f2, f3, f4, f5, f6, f7, f8, f9, f10, f11, f12⟩ := free13 hbq
  obtain ⟨c0, c1, c2, c3, c4, c5, c6, c7, c8, c9, c10, c11, c12⟩ := cells13 hbk
  have fk := hbk.free 11
  have HPm := Lib.hid (os_set (HOm.out.below hb1) (own_ne hbk line_str (HOm.out.below hb1)) (i := 11) (.slice A3 L.length C3))
  have HPg := Lib.hid (os_set (HOg.out.below hb1) (own_ne hbk line_str (HOg.out.below hb1)) (i := 11) (.slice A3 L.length C3))
  have HPt := Lib.hid (os_set (hown) (own_ne hbk line_str (hown)) (i := 11) (.slice A3 L.length C3))
  have HPb := Lib.hid (os_set (HOb.out.below hb1) (own_ne hbk line_str (HOb.out.below hb1)) (i := 11) (.slice A3 L.length C3))
  have HBQ := Lib.hid (hbq.far (j := w.heap.size) (o := 11) (by omega) (.slice A3 L.length C3))
  have HB1 := Lib.hid ((HB.out.trans (hb1.mono HB.out.size)).setCell (p := ⟨w.heap.size, 11, none⟩) (Nat.le_refl _) (.slice A3 L.length C3))
  clear hbq hbk hown hb1
  go_wp2
  rw [HE.out]
  have hq := set13_bk (v0 := .int .i64 s.c.codec) (v1 := .int .i64 s.c.sum) (v2 := .int .i64 s.c.most) (v3 := .int .i64 s.c.map) (v4 := .slice am s.ms.length cm) (v5 := .int .i64 (s.nx : Int)) (v6 := .slice ag s.gs.length cg) (v7 := .string (bzL s.f.held)) (v8 := .bool s.f.over) (v9 := .string (bzL s.h.held)) (v10 := .bool s.h.over) (v11 := .slice A3 L.length C3) (v12 := .slice ab s.bs.length cb) HBQ.out rfl
  exact line_ret2 Tryz.results43 hq rfl rfl rfl ⟨_, _, _, _, _, rfl, ⟨set13_own HPm.out (own_ne HBQ.out line_str HPm.out), set13_own HPg.out (own_ne HBQ.out line_str HPg.out), set13_own HPt.out (own_ne HBQ.out line_str HPt.out), set13_own HPb.out (own_ne HBQ.out line_str HPb.out)⟩, set13_below HB1.out (by omega)⟩
 by_cases hk7 : k = 7
 ·subst hk7
  have HE := Lib.hid (show s.doP 7 = { s with bs := loseP true s.bs } by simp [Ls.doP, loseP])
  have HC := Lib.hid (l8Lose_any (.slice ab s.bs.length cb) s.bs true w0 HOb.out HSOK.out.bl (by omega))
  go_enter Tryz.func43, Tryz.ntmps43
  go_wp2_with fail
  rw [← HW.out]
  refine HC.out.mono ?_
  rintro e w1 ⟨u, q, rfl, hown, hb1⟩
  generalize loseP true s.bs = L at *
  obtain ⟨A3, C3, rfl⟩ := hown.reads.shape
  clear c0 c1 c2 c3 c4 c5 c6 c7 c8 c9 c10 c11 c12 z0 z1 z2 z3 z4 z5 z6 z7 z8 z9 z10 z11 z12 f0 f1 f2 f3 f4 f5 f6 f7 f8 f9 f10 f11 f12
  have hbq := HQ.out.from hb1
  have hbk := HK.out.from hb1
  obtain ⟨z0, z1, z2, z3, z4, z5, z6, z7, z8, z9, z10, z11, z12⟩ := cells13 hbq
  obtain ⟨f0, f1, f2, f3, f4, f5, f6, f7, f8, f9, f10, f11, f12⟩ := free13 hbq
  obtain ⟨c0, c1, c2, c3, c4, c5, c6, c7, c8, c9, c10, c11, c12⟩ := cells13 hbk
  have fk := hbk.free 12
  have HPm := Lib.hid (os_set (HOm.out.below hb1) (own_ne hbk line_str (HOm.out.below hb1)) (i := 12) (.slice A3 L.length C3))
  have HPg := Lib.hid (os_set (HOg.out.below hb1) (own_ne hbk line_str (HOg.out.below hb1)) (i := 12) (.slice A3 L.length C3))
  have HPt := Lib.hid (os_set (HOt.out.below hb1) (own_ne hbk line_str (HOt.out.below hb1)) (i := 12) (.slice A3 L.length C3))
  have HPb := Lib.hid (os_set (hown) (own_ne hbk line_str (hown)) (i := 12) (.slice A3 L.length C3))
  have HBQ := Lib.hid (hbq.far (j := w.heap.size) (o := 12) (by omega) (.slice A3 L.length C3))
  have HB1 := Lib.hid ((HB.out.trans (hb1.mono HB.out.size)).setCell (p := ⟨w.heap.size, 12, none⟩) (Nat.le_refl _) (.slice A3 L.length C3))
  clear hbq hbk hown hb1
  go_wp2
  rw [HE.out]
  have hq := set13_bk (v0 := .int .i64 s.c.codec) (v1 := .int .i64 s.c.sum) (v2 := .int .i64 s.c.most) (v3 := .int .i64 s.c.map) (v4 := .slice am s.ms.length cm) (v5 := .int .i64 (s.nx : Int)) (v6 := .slice ag s.gs.length cg) (v7 := .string (bzL s.f.held)) (v8 := .bool s.f.over) (v9 := .string (bzL s.h.held)) (v10 := .bool s.h.over) (v11 := .slice at_ s.ts.length ct) (v12 := .slice A3 L.length C3) HBQ.out rfl
  exact line_ret2 Tryz.results43 hq rfl rfl rfl ⟨_, _, _, _, _, rfl, ⟨set13_own HPm.out (own_ne HBQ.out line_str HPm.out), set13_own HPg.out (own_ne HBQ.out line_str HPg.out), set13_own HPt.out (own_ne HBQ.out line_str HPt.out), set13_own HPb.out (own_ne HBQ.out line_str HPb.out)⟩, set13_below HB1.out (by omega)⟩
 have HE := Lib.hid (show s.doP k = s by simp [Ls.doP, hk1, hk2, hk3, hk4, hk5, hk6, hk7])
 have hq1 : (k == 1) = false := by simpa using hk1
 have hq2 : (k == 2) = false := by simpa using hk2
 have hq3 : (k == 3) = false := by simpa using hk3
 have hq4 : (k == 4) = false := by simpa using hk4
 have hq5 : (k == 5) = false := by simpa using hk5
 have hq6 : (k == 6) = false := by simpa using hk6
 have hq7 : (k == 7) = false := by simpa using hk7
 go_enter Tryz.func43, Tryz.ntmps43
 go_wp2
 rw [HE.out]
 have hqF := BK.new (w.alloc (.cells #[.int .i64 s.c.codec, .int .i64 s.c.sum, .int .i64 s.c.most, .int .i64 s.c.map, .slice am s.ms.length cm, .int .i64 (s.nx : Int), .slice ag s.gs.length cg, .string (bzL s.f.held), .bool s.f.over, .string (bzL s.h.held), .bool s.h.over, .slice at_ s.ts.length ct, .slice ab s.bs.length cb] 32)) #[.int .i64 s.c.codec, .int .i64 s.c.sum, .int .i64 s.c.most, .int .i64 s.c.map, .slice am s.ms.length cm, .int .i64 (s.nx : Int), .slice ag s.gs.length cg, .string (bzL s.f.held), .bool s.f.over, .string (bzL s.h.held), .bool s.h.over, .slice at_ s.ts.length ct, .slice ab s.bs.length cb] 32
 rw [World.size_alloc] at hqF
 have hbF := ((Below.refl w.heap.size w).alloc (Nat.le_refl _) (.cells #[.int .i64 s.c.codec, .int .i64 s.c.sum, .int .i64 s.c.most, .int .i64 s.c.map, .slice am s.ms.length cm, .int .i64 (s.nx : Int), .slice ag s.gs.length cg, .string (bzL s.f.held), .bool s.f.over, .string (bzL s.h.held), .bool s.h.over, .slice at_ s.ts.length ct, .slice ab s.bs.length cb] 32)).alloc (by simp) (.cells #[.int .i64 s.c.codec, .int .i64 s.c.sum, .int .i64 s.c.most, .int .i64 s.c.map, .slice am s.ms.length cm, .int .i64 (s.nx : Int), .slice ag s.gs.length cg, .string (bzL s.f.held), .bool s.f.over, .string (bzL s.h.held), .bool s.h.over, .slice at_ s.ts.length ct, .slice ab s.bs.length cb] 32)
 exact line_ret2 Tryz.results43 hqF rfl rfl rfl ⟨_, _, _, _, _, rfl, HH0.out.below hbF, hbF⟩
end Go.Proofs.YtmggoiabcboaiaaGreat
