/- Parts of a proof, 31: DrawLc. -/
import Derived.Test.YtmggoiabcboaiaaGreatZe1
import Derived.Test.YtmggoiabcboaiaaGreatZe2
import Derived.Test.YtmggoiabcboaiaaGreatZe3
import Derived.Test.YtmggoiabcboaiaaGreatZe4
import Derived.Test.YtmggoiabcboaiaaGreatZe5
import Derived.Test.YtmggoiabcboaiaaGreatZe6
import Derived.Test.YtmggoiabcboaiaaGreatZe7
import Derived.Test.YtmggoiabcboaiaaGreatZe8
import Derived.Test.YtmggoiabcboaiaaGreatZe9
import Derived.Test.YtmggoiabcboaiaaGreatZe10
import Derived.Test.YtmggoiabcboaiaaGreatZe11
import Derived.Test.YtmggoiabcboaiaaGreatZe12
import Derived.Test.YtmggoiabcboaiaaGreatZe13
import Derived.Test.YtmggoiabcboaiaaGreatZe14
import Derived.Test.YtmggoiabcboaiaaGreatZe15
import Derived.Test.YtmggoiabcboaiaaGreatZe16
import Derived.Test.YtmggoiabcboaiaaGreatZe17
import Derived.Test.YtmggoiabcboaiaaGreatZe18
import Derived.Test.YtmggoiabcboaiaaGreatZe19
import Derived.Test.YtmggoiabcboaiaaGreatZe20
import Derived.Test.YtmggoiabcboaiaaGreatZe21
import Derived.Test.YtmggoiabcboaiaaGreatZe22
import Derived.Test.YtmggoiabcboaiaaGreatZe23
import Derived.Test.YtmggoiabcboaiaaGreatZe24
import Derived.Test.YtmggoiabcboaiaaGreatZe25
import Derived.Test.YtmggoiabcboaiaaGreatZe26
import Derived.Test.YtmggoiabcboaiaaGreatZe27
import Derived.Test.YtmggoiabcboaiaaGreatZe28
import Derived.Test.YtmggoiabcboaiaaGreatZe29
import Derived.Test.YtmggoiabcboaiaaGreatZe30
namespace Go.Proofs.YtmggoiabcboaiaaGreat
open Go.ChangeShapes Go.WideShapes Go.ChangeAt Go.RowKit
set_option linter.unusedVariables false
theorem RW.set13 {w W : World} {B g N j : Nat} (h : RW w W B g N) (hj : w.heap.size ≤ j) {v0 v1 v2 v3 v4 v5 v6 v7 v8 v9 v10 v11 v12 : Value} : RW w (set13 W j v0 v1 v2 v3 v4 v5 v6 v7 v8 v9 v10 v11 v12) B g N :=
 ((((((((((((h.set hj v0).set hj v1).set hj v2).set hj v3).set hj v4).set hj v5).set hj v6).set hj v7).set hj v8).set hj v9).set hj v10).set hj v11).set hj v12
structure LcAt (w wx : World) (B g N P : Nat) (q : Ls) (um ub ug ut : Value) : Prop where
 bk : BK wx P (lsC q um ub ug ut) 32
 bq : BK wx w.heap.size #[.int .i64 0, .int .i64 0, .int .i64 0, .int .i64 0, .slice none 0 0, .int .i64 0, .slice none 0 0, .string ⟨#[]⟩, .bool false, .string ⟨#[]⟩, .bool false, .slice none 0 0, .slice none 0 0] 32
 hp : w.heap.size < P
 ol : OL wx w.heap.size um q.ms ug q.gs ut q.ts ub q.bs
 rw : RW w wx B g N
def LineDrawn (w : World) (B g N : Nat) (e : Ending) (w' : World) : Prop := ∃ (a b d m nx : Int) (vm : Value) (ms : List ByteArray) (vg : Value) (gs : List ByteArray) (T : ByteArray) (tO : Bool) (H : ByteArray) (hO : Bool) (vt : Value) (ts : List ByteArray) (vb : Value) (bs : List ByteArray),
 e = .returned (lnV a b d m vm nx vg T tO H hO vt vb) ∧ OL w' 0 vm ms vg gs vt ts vb bs ∧ fewLn ms gs T H ts bs ∧ (Lit.int .i64 a).wf = true ∧ RW w w' B g N
theorem OL.keptg {w w' : World} {base g : Nat} {vm vg vt vb : Value} {ms gs ts bs : List ByteArray} (h : OL w base vm ms vg gs vt ts vb bs) (hg : w.grownBy w' (some g)) (hb : g < base) : OL w' base vm ms vg gs vt ts vb bs := ⟨h.1.keptg hg hb, h.2.1.keptg hg hb, h.2.2.1.keptg hg hb, h.2.2.2.keptg hg hb⟩
theorem OL.lmonoD {w : World} {base base' : Nat} {vm vg vt vb : Value} {ms gs ts bs : List ByteArray} (h : OL w base vm ms vg gs vt ts vb bs) (hb : base' ≤ base) : OL w base' vm ms vg gs vt ts vb bs := ⟨h.1.mono hb, h.2.1.mono hb, h.2.2.1.mono hb, h.2.2.2.mono hb⟩
theorem LcAt.next {w wx wy : World} {B g N N' P : Nat} {q : Ls} {um ub ug ut : Value} (h : LcAt w wx B g N P q um ub ug ut) (hr : Rd wy B g N') (hg : wx.grownBy wy (some g)) : LcAt w wy B g N' P q um ub ug ut :=
 ⟨h.bk.next hg (by have := h.hp; have := h.rw.2.2; omega), h.bq.next hg h.rw.2.2, h.hp, h.ol.keptg hg h.rw.2.2, h.rw.next hr hg⟩
theorem LcAt.below {w wx wy : World} {B g N P : Nat} {q : Ls} {um ub ug ut : Value} (h : LcAt w wx B g N P q um ub ug ut) (hb : Below wx.heap.size wx wy) : LcAt w wy B g N P q um ub ug ut :=
 ⟨h.bk.from hb, h.bq.from hb, h.hp, h.ol.below hb, h.rw.from hb⟩
theorem wf_confD {c : Cf} (h : confB c = true) : (Lit.int .i64 c.codec).wf = true := by
 have := (confB_yes h).1
 simp [Lit.wf, IntKind.min, IntKind.max, IntKind.signed, IntKind.bits]
 omega
theorem play_few {c : Cf} {ms : List ByteArray} {zs : List Int} (hc : confB c = true) : (Lit.int .i64 (playRes c ms zs).c.codec).wf = true ∧ fewLn (playRes c ms zs).ms (playRes c ms zs).gs (bzL (playRes c ms zs).f.held) (bzL (playRes c ms zs).h.held) (playRes c ms zs).ts (playRes c ms zs).bs ∧ ((playRes c ms zs).ms.length ≤ 10 ∧ (playRes c ms zs).gs.length ≤ 10 ∧ (playRes c ms zs).ts.length ≤ 10 ∧ (playRes c ms zs).bs.length ≤ 10) := by
 unfold playRes
 by_cases hn : newB c ms = true
 ·rw [if_pos hn]
  have h := Ls.Ok.plays (zs.take 80) (newLs_ok hn)
  have h1 := (okF_yes h.okf).2.1
  have h2 := (okF_yes h.okh).2.1
  have h3 := (confB_yes h.conf)
  have h4 := h3.2.2.1.2
  have h5 := kind_or h3.2.1
  have e1 := h.ml
  have e2 := h.gl
  have e3 := h.tl
  have e4 := h.bl
  unfold holdN at h1 h2
  exact ⟨wf_confD h.conf, ⟨⟨by rw [bzL_size]; omega, by rw [bzL_size]; omega⟩, ⟨by omega, by omega, by omega, by omega⟩, fun s hs => by have := h.mz s hs; omega, h.gz, h.tz, h.bz⟩, ⟨by omega, by omega, by omega, by omega⟩⟩
 ·rw [if_neg hn]
  exact ⟨by decide, ⟨⟨by decide, by decide⟩, ⟨Nat.zero_le _, Nat.zero_le _, Nat.zero_le _, Nat.zero_le _⟩, fun _ h => (by cases h), fun _ h => (by cases h), fun _ h => (by cases h), fun _ h => (by cases h)⟩, ⟨Nat.zero_le _, Nat.zero_le _, Nat.zero_le _, Nat.zero_le _⟩⟩
set_option maxRecDepth 100000 in
set_option maxHeartbeats 4000000 in
theorem l20Line_any {w : World} {B g N : Nat} (h : Rd w B g N) (hN : N + 1000 ≤ 1000000000) :
  Calls Tryz.prog 48 #[.pointer (some ⟨g, 0, none⟩)] w (LineDrawn w B g (N + 500)) := by
 obtain ⟨i0, hi, hz0, hz1, hz2⟩ := info_parts info_str
 have HI := Lib.hid hi
 have HZ0 := Lib.hid hz0
 have HZ1 := Lib.hid hz1
 have HZ2 := Lib.hid hz2
 have hzl := zero_line
 have hzc := zero_conf
 have hgl := h.lt
 have HR := Lib.hid ((RW.start h).alloc (.cells #[.int .i64 0, .int .i64 0, .int .i64 0, .int .i64 0, .slice none 0 0, .int .i64 0, .slice none 0 0, .string ⟨#[]⟩, .bool false, .string ⟨#[]⟩, .bool false, .slice none 0 0, .slice none 0 0] 32))
 have HQ := Lib.hid (BK.new w #[.int .i64 0, .int .i64 0, .int .i64 0, .int .i64 0, .slice none 0 0, .int .i64 0, .slice none 0 0, .string ⟨#[]⟩, .bool false, .string ⟨#[]⟩, .bool false, .slice none 0 0, .slice none 0 0] 32)
 clear h hi hz0 hz1 hz2
 go_enter Tryz.func48, Tryz.ntmps48
 go_wp2_with fail
 refine (conf_any HR.out.1 (by omega)).mono ?_
 rintro e x1 ⟨a, b, d, m, rfl, hcf, hr1, hg1⟩
 have HCF := Lib.hid hcf
 have HR := Lib.hid ((HR.out.next hr1 hg1).alloc (.cells #[.int .i64 a, .int .i64 b, .int .i64 d, .int .i64 m] 24))
 have HQ := Lib.hid ((HQ.out.next hg1 hgl).alloc (.cells #[.int .i64 a, .int .i64 b, .int .i64 d, .int .i64 m] 24))
 have hk := BK.new x1 #[.int .i64 a, .int .i64 b, .int .i64 d, .int .i64 m] 24
 have hsz1 : w.heap.size + 1 ≤ x1.heap.size := by have := hg1.size; simp at this; exact this
 obtain ⟨c0, c1, c2, c3⟩ := cells4 hk
 have HK := Lib.hid hk
 have hd2 : -1 ≤ d ∧ d ≤ 41 := by
  have hd := (confB_yes hcf).2.2.1
  have h1 : (0 : Int) ≤ d := hd.1
  have h2 : d ≤ 40 := hd.2
  omega
 clear hr1 hg1 hk hcf
 have HPF := Lib.hid (fun (ms : List ByteArray) (zs : List Int) => play_few (c := ⟨a, b, d, m⟩) (ms := ms) (zs := zs) HCF.out)
 go_upto_region 2 with fail
 go_cut [4] (fun s4 wx => ∃ P ms zs um ub ug ut, s4 = .pointer (some ⟨P, 0, none⟩) ∧ LcAt w wx B g (N + 4 + 300 + 100) P (playRes ⟨a, b, d, m⟩ ms zs) um ub ug ut)
 case first =>
  have hK := HK.out.drew
  have hQ := HQ.out.drew
  have hRW := HR.out.drew
  have hS := cells4 hK
  clear c0 c1 c2 c3
  refine wp_region_held_drew (S := (fun wx => wx.cell? ⟨x1.heap.size, 0, none⟩ = some (.int .i64 a) ∧ wx.cell? ⟨x1.heap.size, 1, none⟩ = some (.int .i64 b) ∧ wx.cell? ⟨x1.heap.size, 2, none⟩ = some (.int .i64 d) ∧ wx.cell? ⟨x1.heap.size, 3, none⟩ = some (.int .i64 m))) (by kernel_rfl) hS (fun hHeld => ?_)
  obtain ⟨wd, hwd⟩ : ∃ x, x = (x1.alloc (.cells #[.int .i64 a, .int .i64 b, .int .i64 d, .int .i64 m] 24)).drew := ⟨_, rfl⟩
  rw [← hwd] at hK hQ hRW hS ⊢
  have hx1d : x1.heap.size < wd.heap.size := hK.lt
  clear hwd
  refine tkH 0 ?_ rfl (Or.inl ⟨by rfl, ?_⟩) ?_; rotate_left
  ·intro wq hSw; (try dsimp only at hSw); (try simp only [gT, gZ]); go_simp; (try with_reducible rfl)
  simp only [Act.put, gT, gZ, sT, sZ, sS]
  refine tkH 1 ?_ rfl (Or.inl ⟨by rfl, ?_⟩) ?_; rotate_left
  ·intro wq hSw; (try dsimp only at hSw); (try simp only [gT, gS, gZ]); go_simp; (try with_reducible rfl)
  simp only [Act.put, gT, gS, gZ, sT, sZ, sS]
  refine tkH 2 ?_ rfl (Or.inl ⟨by rfl, ?_⟩) ?_; rotate_left
  ·intro wq hSw; (try dsimp only at hSw); (try simp only [gT, gS, gZ]); go_simp; (try with_reducible rfl)
  simp only [Act.put, gT, gS, gZ, sT, sZ, sS]
  refine tkH 4 ?_ rfl (Or.inl ⟨by rfl, ?_⟩) ?_; rotate_left
  ·intro wq hSw; (try dsimp only at hSw); (try simp only [gT, gS, gZ]); go_simp; (try with_reducible rfl)
  simp only [Act.put, gT, gS, gZ, sT, sZ, sS]
  refine wpAnyH_ready (rs := [3, 7]) (by kernel_rfl) (by simp) ?_
  refine AllReadyH.cons rfl ?_ (AllReadyH.cons rfl ?_ AllReadyH.nil)
  ·intro K hK0
   (try simp only [gT, gS, gZ])
   go_simp
   go_at_call 36
   refine (msgs_any a b d m hRW.1 hd2 (by omega)).mono ?_
   rintro e x3 ⟨v, ms, rfl, hO, hl, hzs, hr, hg⟩
   have hO := OS.mono (base' := w.heap.size) hO hRW.size
   have hK := hK.next hg (by omega)
   have hQ := hQ.next hg hgl
   have hRW := hRW.next hr hg
   have hS := cells4 hK
   have hsz : wd.heap.size ≤ x3.heap.size := hg.size
   clear hr hg
   refine hK0.out _ _ hS (fun hHeld => ?_)
   clear hK0 K
   refine wpAnyH_ready (rs := [5, 7]) (by kernel_rfl) (by simp) ?_
   refine AllReadyH.cons rfl ?_ (AllReadyH.cons rfl ?_ AllReadyH.nil)
   ·intro K hK0
    (try simp only [gT, gS, gZ])
    go_simp
    go_at_call 37
    refine (steps_any hRW.1 (by omega)).mono ?_
    rintro e x4 ⟨vz, zs, rfl, hZ, hzl2, hzz, hr, hg⟩
    have hZ := OZ.mono (base' := w.heap.size) hZ hRW.size
    have hK := hK.next hg (by omega)
    have hQ := hQ.next hg hgl
    have hRW := hRW.next hr hg
    have hO := hO.keptg hg hgl
    have hS := cells4 hK
    have hsz : wd.heap.size ≤ x4.heap.size := Nat.le_trans hsz hg.size
    clear hr hg
    refine hK0.out _ _ hS (fun hHeld => ?_)
    clear hK0 K
    refine wpAnyH_ready (rs := [6, 7]) (by kernel_rfl) (by simp) ?_
    refine AllReadyH.cons rfl ?_ (AllReadyH.cons rfl ?_ AllReadyH.nil)
    ·intro K hK0
     (try simp only [gT, gS, gZ])
     go_simp
     go_at_call 12
     refine (specLinePlay_anyB a b d m _ ms _ zs x4 x4.heap.size hO.reads hZ.reads (Nat.le_refl _) (by omega) (fun s hs => by have := hzs s hs; omega) (by omega)).mono ?_
     rintro e x5 ⟨um, ub, ug, ut, rfl, hL, hb⟩
     have hL := hL.lmonoD (hRW.size)
     have hK := hK.from hb
     have hQ := hQ.from hb
     have hRW := hRW.from hb
     have hO := hO.below hb
     have hZ := hZ.below hb
     have hS := cells4 hK
     have hsz : wd.heap.size ≤ x5.heap.size := Nat.le_trans hsz hb.size
     clear hb
     generalize hq : playRes ⟨a, b, d, m⟩ ms zs = q at *
     obtain ⟨AmL, CmL, hsh⟩ := hL.1.reads.shape
     subst hsh
     obtain ⟨AgL, CgL, hsh⟩ := hL.2.1.reads.shape
     subst hsh
     obtain ⟨AtL, CtL, hsh⟩ := hL.2.2.1.reads.shape
     subst hsh
     obtain ⟨AbL, CbL, hsh⟩ := hL.2.2.2.reads.shape
     subst hsh
     refine hK0.out _ _ hS (fun hHeld => ?_)
     clear hK0 K
     refine wpAnyH_ready (rs := [7]) (by kernel_rfl) (by simp) ?_
     refine AllReadyH.cons rfl (fun K hK0 => ?_) AllReadyH.nil
     (try simp only [gT, gS, gZ])
     go_simp
     have hba := (Below.refl x5.heap.size x5).alloc (Nat.le_refl _) (.cells #[.int .i64 0, .int .i64 0, .int .i64 0, .int .i64 0, .slice none 0 0, .int .i64 0, .slice none 0 0, .string ⟨#[]⟩, .bool false, .string ⟨#[]⟩, .bool false, .slice none 0 0, .slice none 0 0] 32)
     have hK := hK.from hba
     have hQ := hQ.from hba
     have hRW := hRW.from hba
     have hO := hO.below hba
     have hZ := hZ.below hba
     have hL := hL.below hba
     have hS := cells4 hK
     have hP := BK.new x5 #[.int .i64 0, .int .i64 0, .int .i64 0, .int .i64 0, .slice none 0 0, .int .i64 0, .slice none 0 0, .string ⟨#[]⟩, .bool false, .string ⟨#[]⟩, .bool false, .slice none 0 0, .slice none 0 0] 32
     have hPw : x1.heap.size < x5.heap.size := Nat.lt_of_lt_of_le hx1d hsz
     refine hK0.out _ _ hS (fun hHeld => ?_)
     clear hK0 K
     obtain ⟨x6, hwx6⟩ : ∃ x, x = x5.alloc (.cells #[.int .i64 0, .int .i64 0, .int .i64 0, .int .i64 0, .slice none 0 0, .int .i64 0, .slice none 0 0, .string ⟨#[]⟩, .bool false, .string ⟨#[]⟩, .bool false, .slice none 0 0, .slice none 0 0] 32) := ⟨_, rfl⟩
     have hsz : wd.heap.size ≤ x6.heap.size := by rw [hwx6]; simp; omega
     rw [← hwx6] at hK hQ hRW hO hZ hL hP hS ⊢
     clear hwx6 hba
     have hPB := hP
     obtain ⟨z0, z1, z2, z3, z4, z5, z6, z7, z8, z9, z10, z11, z12⟩ := cells13 hP
     obtain ⟨f0, f1, f2, f3, f4, f5, f6, f7, f8, f9, f10, f11, f12⟩ := free13 hP
     have hS := cells4 (show BK (set13 x6 x5.heap.size (.int .i64 q.c.codec) (.int .i64 q.c.sum) (.int .i64 q.c.most) (.int .i64 q.c.map) (.slice AmL q.ms.length CmL) (.int .i64 (q.nx : Int)) (.slice AgL q.gs.length CgL) (.string (bzL q.f.held)) (.bool q.f.over) (.string (bzL q.h.held)) (.bool q.h.over) (.slice AtL q.ts.length CtL) (.slice AbL q.bs.length CbL)) x1.heap.size #[.int .i64 a, .int .i64 b, .int .i64 d, .int .i64 m] 24 from set13_far hK (by omega))
     refine wpAnyH_ready (rs := [8]) (by kernel_rfl) (by simp) ?_
     refine AllReadyH.cons rfl (fun K hK => ?_) AllReadyH.nil
     (try simp only [gT, gS, gZ])
     skip
     go_simp
     skip
     refine hK.out _ _ hS (fun hHeld => ?_)
     clear hK K
     refine wpAnyH_done (by kernel_rfl) ?_ _
     have HX := Lib.hid (show LcAt w (set13 x6 x5.heap.size (.int .i64 q.c.codec) (.int .i64 q.c.sum) (.int .i64 q.c.most) (.int .i64 q.c.map) (.slice AmL q.ms.length CmL) (.int .i64 (q.nx : Int)) (.slice AgL q.gs.length CgL) (.string (bzL q.f.held)) (.bool q.f.over) (.string (bzL q.h.held)) (.bool q.h.over) (.slice AtL q.ts.length CtL) (.slice AbL q.bs.length CbL)) B g (N + 4 + 300 + 100) x5.heap.size q _ _ _ _ from ⟨set13_bk hP rfl, set13_far hQ (by omega), (by omega), ⟨set13_own hL.1 (own_ne hP line_str hL.1), set13_own hL.2.1 (own_ne hP line_str hL.2.1), set13_own hL.2.2.1 (own_ne hP line_str hL.2.2.1), set13_own hL.2.2.2 (own_ne hP line_str hL.2.2.2)⟩, hRW.set13 (by omega)⟩)
     clear hS hK hQ hP hPB hL hRW z0 z1 z2 z3 z4 z5 z6 z7 z8 z9 z10 z11 z12 f0 f1 f2 f3 f4 f5 f6 f7 f8 f9 f10 f11 f12
     subst hq
     go_wp2
     go_meet
     exact ⟨_, ms, zs, _, _, _, _, rfl, HX.out⟩
    ·intro K hK0
     (try simp only [gT, gS, gZ])
     go_simp
     have hba := (Below.refl x4.heap.size x4).alloc (Nat.le_refl _) (.cells #[.int .i64 0, .int .i64 0, .int .i64 0, .int .i64 0, .slice none 0 0, .int .i64 0, .slice none 0 0, .string ⟨#[]⟩, .bool false, .string ⟨#[]⟩, .bool false, .slice none 0 0, .slice none 0 0] 32)
     have hK := hK.from hba
     have hQ := hQ.from hba
     have hRW := hRW.from hba
     have hO := hO.below hba
     have hZ := hZ.below hba
     have hS := cells4 hK
     have hP := BK.new x4 #[.int .i64 0, .int .i64 0, .int .i64 0, .int .i64 0, .slice none 0 0, .int .i64 0, .slice none 0 0, .string ⟨#[]⟩, .bool false, .string ⟨#[]⟩, .bool false, .slice none 0 0, .slice none 0 0] 32
     have hPw : x1.heap.size < x4.heap.size := Nat.lt_of_lt_of_le hx1d hsz
     refine hK0.out _ _ hS (fun hHeld => ?_)
     clear hK0 K
     obtain ⟨x7, hwx7⟩ : ∃ x, x = x4.alloc (.cells #[.int .i64 0, .int .i64 0, .int .i64 0, .int .i64 0, .slice none 0 0, .int .i64 0, .slice none 0 0, .string ⟨#[]⟩, .bool false, .string ⟨#[]⟩, .bool false, .slice none 0 0, .slice none 0 0] 32) := ⟨_, rfl⟩
     have hsz : wd.heap.size ≤ x7.heap.size := by rw [hwx7]; simp; omega
     rw [← hwx7] at hK hQ hRW hO hZ hP hS ⊢
     clear hwx7 hba
     refine wpAnyH_ready (rs := [6]) (by kernel_rfl) (by simp) ?_
     refine AllReadyH.cons rfl (fun K hK0 => ?_) AllReadyH.nil
     (try simp only [gT, gS, gZ])
     go_simp
     go_at_call 12
     refine (specLinePlay_anyB a b d m _ ms _ zs x7 x7.heap.size hO.reads hZ.reads (Nat.le_refl _) (by omega) (fun s hs => by have := hzs s hs; omega) (by omega)).mono ?_
     rintro e x8 ⟨um, ub, ug, ut, rfl, hL, hb⟩
     have hL := hL.lmonoD (hRW.size)
     have hK := hK.from hb
     have hQ := hQ.from hb
     have hRW := hRW.from hb
     have hO := hO.below hb
     have hZ := hZ.below hb
     have hP := hP.from hb
     have hS := cells4 hK
     have hsz : wd.heap.size ≤ x8.heap.size := Nat.le_trans hsz hb.size
     clear hb
     generalize hq : playRes ⟨a, b, d, m⟩ ms zs = q at *
     obtain ⟨AmL, CmL, hsh⟩ := hL.1.reads.shape
     subst hsh
     obtain ⟨AgL, CgL, hsh⟩ := hL.2.1.reads.shape
     subst hsh
     obtain ⟨AtL, CtL, hsh⟩ := hL.2.2.1.reads.shape
     subst hsh
     obtain ⟨AbL, CbL, hsh⟩ := hL.2.2.2.reads.shape
     subst hsh
     refine hK0.out _ _ hS (fun hHeld => ?_)
     clear hK0 K
     have hPB := hP
     obtain ⟨z0, z1, z2, z3, z4, z5, z6, z7, z8, z9, z10, z11, z12⟩ := cells13 hP
     obtain ⟨f0, f1, f2, f3, f4, f5, f6, f7, f8, f9, f10, f11, f12⟩ := free13 hP
     have hS := cells4 (show BK (set13 x8 x4.heap.size (.int .i64 q.c.codec) (.int .i64 q.c.sum) (.int .i64 q.c.most) (.int .i64 q.c.map) (.slice AmL q.ms.length CmL) (.int .i64 (q.nx : Int)) (.slice AgL q.gs.length CgL) (.string (bzL q.f.held)) (.bool q.f.over) (.string (bzL q.h.held)) (.bool q.h.over) (.slice AtL q.ts.length CtL) (.slice AbL q.bs.length CbL)) x1.heap.size #[.int .i64 a, .int .i64 b, .int .i64 d, .int .i64 m] 24 from set13_far hK (by omega))
     refine wpAnyH_ready (rs := [8]) (by kernel_rfl) (by simp) ?_
     refine AllReadyH.cons rfl (fun K hK => ?_) AllReadyH.nil
     (try simp only [gT, gS, gZ])
     skip
     go_simp
     skip
     refine hK.out _ _ hS (fun hHeld => ?_)
     clear hK K
     refine wpAnyH_done (by kernel_rfl) ?_ _
     have HX := Lib.hid (show LcAt w (set13 x8 x4.heap.size (.int .i64 q.c.codec) (.int .i64 q.c.sum) (.int .i64 q.c.most) (.int .i64 q.c.map) (.slice AmL q.ms.length CmL) (.int .i64 (q.nx : Int)) (.slice AgL q.gs.length CgL) (.string (bzL q.f.held)) (.bool q.f.over) (.string (bzL q.h.held)) (.bool q.h.over) (.slice AtL q.ts.length CtL) (.slice AbL q.bs.length CbL)) B g (N + 4 + 300 + 100) x4.heap.size q _ _ _ _ from ⟨set13_bk hP rfl, set13_far hQ (by omega), (by omega), ⟨set13_own hL.1 (own_ne hP line_str hL.1), set13_own hL.2.1 (own_ne hP line_str hL.2.1), set13_own hL.2.2.1 (own_ne hP line_str hL.2.2.1), set13_own hL.2.2.2 (own_ne hP line_str hL.2.2.2)⟩, hRW.set13 (by omega)⟩)
     clear hS hK hQ hP hPB hL hRW z0 z1 z2 z3 z4 z5 z6 z7 z8 z9 z10 z11 z12 f0 f1 f2 f3 f4 f5 f6 f7 f8 f9 f10 f11 f12
     subst hq
     go_wp2
     go_meet
     exact ⟨_, ms, zs, _, _, _, _, rfl, HX.out⟩
   ·intro K hK0
    (try simp only [gT, gS, gZ])
    go_simp
    have hba := (Below.refl x3.heap.size x3).alloc (Nat.le_refl _) (.cells #[.int .i64 0, .int .i64 0, .int .i64 0, .int .i64 0, .slice none 0 0, .int .i64 0, .slice none 0 0, .string ⟨#[]⟩, .bool false, .string ⟨#[]⟩, .bool false, .slice none 0 0, .slice none 0 0] 32)
    have hK := hK.from hba
    have hQ := hQ.from hba
    have hRW := hRW.from hba
    have hO := hO.below hba
    have hS := cells4 hK
    have hP := BK.new x3 #[.int .i64 0, .int .i64 0, .int .i64 0, .int .i64 0, .slice none 0 0, .int .i64 0, .slice none 0 0, .string ⟨#[]⟩, .bool false, .string ⟨#[]⟩, .bool false, .slice none 0 0, .slice none 0 0] 32
    have hPw : x1.heap.size < x3.heap.size := Nat.lt_of_lt_of_le hx1d hsz
    refine hK0.out _ _ hS (fun hHeld => ?_)
    clear hK0 K
    obtain ⟨x9, hwx9⟩ : ∃ x, x = x3.alloc (.cells #[.int .i64 0, .int .i64 0, .int .i64 0, .int .i64 0, .slice none 0 0, .int .i64 0, .slice none 0 0, .string ⟨#[]⟩, .bool false, .string ⟨#[]⟩, .bool false, .slice none 0 0, .slice none 0 0] 32) := ⟨_, rfl⟩
    have hsz : wd.heap.size ≤ x9.heap.size := by rw [hwx9]; simp; omega
    rw [← hwx9] at hK hQ hRW hO hP hS ⊢
    clear hwx9 hba
    refine wpAnyH_ready (rs := [5]) (by kernel_rfl) (by simp) ?_
    refine AllReadyH.cons rfl (fun K hK0 => ?_) AllReadyH.nil
    (try simp only [gT, gS, gZ])
    go_simp
    go_at_call 37
    refine (steps_any hRW.1 (by omega)).mono ?_
    rintro e x10 ⟨vz, zs, rfl, hZ, hzl2, hzz, hr, hg⟩
    have hZ := OZ.mono (base' := w.heap.size) hZ hRW.size
    have hK := hK.next hg (by omega)
    have hQ := hQ.next hg hgl
    have hRW := hRW.next hr hg
    have hO := hO.keptg hg hgl
    have hP := hP.next hg (by omega)
    have hS := cells4 hK
    have hsz : wd.heap.size ≤ x10.heap.size := Nat.le_trans hsz hg.size
    clear hr hg
    refine hK0.out _ _ hS (fun hHeld => ?_)
    clear hK0 K
    refine wpAnyH_ready (rs := [6]) (by kernel_rfl) (by simp) ?_
    refine AllReadyH.cons rfl (fun K hK0 => ?_) AllReadyH.nil
    (try simp only [gT, gS, gZ])
    go_simp
    go_at_call 12
    refine (specLinePlay_anyB a b d m _ ms _ zs x10 x10.heap.size hO.reads hZ.reads (Nat.le_refl _) (by omega) (fun s hs => by have := hzs s hs; omega) (by omega)).mono ?_
    rintro e x11 ⟨um, ub, ug, ut, rfl, hL, hb⟩
    have hL := hL.lmonoD (hRW.size)
    have hK := hK.from hb
    have hQ := hQ.from hb
    have hRW := hRW.from hb
    have hO := hO.below hb
    have hZ := hZ.below hb
    have hP := hP.from hb
    have hS := cells4 hK
    have hsz : wd.heap.size ≤ x11.heap.size := Nat.le_trans hsz hb.size
    clear hb
    generalize hq : playRes ⟨a, b, d, m⟩ ms zs = q at *
    obtain ⟨AmL, CmL, hsh⟩ := hL.1.reads.shape
    subst hsh
    obtain ⟨AgL, CgL, hsh⟩ := hL.2.1.reads.shape
    subst hsh
    obtain ⟨AtL, CtL, hsh⟩ := hL.2.2.1.reads.shape
    subst hsh
    obtain ⟨AbL, CbL, hsh⟩ := hL.2.2.2.reads.shape
    subst hsh
    refine hK0.out _ _ hS (fun hHeld => ?_)
    clear hK0 K
    have hPB := hP
    obtain ⟨z0, z1, z2, z3, z4, z5, z6, z7, z8, z9, z10, z11, z12⟩ := cells13 hP
    obtain ⟨f0, f1, f2, f3, f4, f5, f6, f7, f8, f9, f10, f11, f12⟩ := free13 hP
    have hS := cells4 (show BK (set13 x11 x3.heap.size (.int .i64 q.c.codec) (.int .i64 q.c.sum) (.int .i64 q.c.most) (.int .i64 q.c.map) (.slice AmL q.ms.length CmL) (.int .i64 (q.nx : Int)) (.slice AgL q.gs.length CgL) (.string (bzL q.f.held)) (.bool q.f.over) (.string (bzL q.h.held)) (.bool q.h.over) (.slice AtL q.ts.length CtL) (.slice AbL q.bs.length CbL)) x1.heap.size #[.int .i64 a, .int .i64 b, .int .i64 d, .int .i64 m] 24 from set13_far hK (by omega))
    refine wpAnyH_ready (rs := [8]) (by kernel_rfl) (by simp) ?_
    refine AllReadyH.cons rfl (fun K hK => ?_) AllReadyH.nil
    (try simp only [gT, gS, gZ])
    skip
    go_simp
    skip
    refine hK.out _ _ hS (fun hHeld => ?_)
    clear hK K
    refine wpAnyH_done (by kernel_rfl) ?_ _
    have HX := Lib.hid (show LcAt w (set13 x11 x3.heap.size (.int .i64 q.c.codec) (.int .i64 q.c.sum) (.int .i64 q.c.most) (.int .i64 q.c.map) (.slice AmL q.ms.length CmL) (.int .i64 (q.nx : Int)) (.slice AgL q.gs.length CgL) (.string (bzL q.f.held)) (.bool q.f.over) (.string (bzL q.h.held)) (.bool q.h.over) (.slice AtL q.ts.length CtL) (.slice AbL q.bs.length CbL)) B g (N + 4 + 300 + 100) x3.heap.size q _ _ _ _ from ⟨set13_bk hP rfl, set13_far hQ (by omega), (by omega), ⟨set13_own hL.1 (own_ne hP line_str hL.1), set13_own hL.2.1 (own_ne hP line_str hL.2.1), set13_own hL.2.2.1 (own_ne hP line_str hL.2.2.1), set13_own hL.2.2.2 (own_ne hP line_str hL.2.2.2)⟩, hRW.set13 (by omega)⟩)
    clear hS hK hQ hP hPB hL hRW z0 z1 z2 z3 z4 z5 z6 z7 z8 z9 z10 z11 z12 f0 f1 f2 f3 f4 f5 f6 f7 f8 f9 f10 f11 f12
    subst hq
    go_wp2
    go_meet
    exact ⟨_, ms, zs, _, _, _, _, rfl, HX.out⟩
  ·intro K hK0
   (try simp only [gT, gS, gZ])
   go_simp
   have hba := (Below.refl wd.heap.size wd).alloc (Nat.le_refl _) (.cells #[.int .i64 0, .int .i64 0, .int .i64 0, .int .i64 0, .slice none 0 0, .int .i64 0, .slice none 0 0, .string ⟨#[]⟩, .bool false, .string ⟨#[]⟩, .bool false, .slice none 0 0, .slice none 0 0] 32)
   have hK := hK.from hba
   have hQ := hQ.from hba
   have hRW := hRW.from hba
   have hS := cells4 hK
   have hP := BK.new wd #[.int .i64 0, .int .i64 0, .int .i64 0, .int .i64 0, .slice none 0 0, .int .i64 0, .slice none 0 0, .string ⟨#[]⟩, .bool false, .string ⟨#[]⟩, .bool false, .slice none 0 0, .slice none 0 0] 32
   have hPw : x1.heap.size < wd.heap.size := hx1d
   refine hK0.out _ _ hS (fun hHeld => ?_)
   clear hK0 K
   obtain ⟨x12, hwx12⟩ : ∃ x, x = wd.alloc (.cells #[.int .i64 0, .int .i64 0, .int .i64 0, .int .i64 0, .slice none 0 0, .int .i64 0, .slice none 0 0, .string ⟨#[]⟩, .bool false, .string ⟨#[]⟩, .bool false, .slice none 0 0, .slice none 0 0] 32) := ⟨_, rfl⟩
   have hsz : wd.heap.size ≤ x12.heap.size := by rw [hwx12]; simp
   rw [← hwx12] at hK hQ hRW hP hS ⊢
   clear hwx12 hba
   refine wpAnyH_ready (rs := [3]) (by kernel_rfl) (by simp) ?_
   refine AllReadyH.cons rfl (fun K hK0 => ?_) AllReadyH.nil
   (try simp only [gT, gS, gZ])
   go_simp
   go_at_call 36
   refine (msgs_any a b d m hRW.1 hd2 (by omega)).mono ?_
   rintro e x13 ⟨v, ms, rfl, hO, hl, hzs, hr, hg⟩
   have hO := OS.mono (base' := w.heap.size) hO hRW.size
   have hK := hK.next hg (by omega)
   have hQ := hQ.next hg hgl
   have hRW := hRW.next hr hg
   have hP := hP.next hg (by omega)
   have hS := cells4 hK
   have hsz : wd.heap.size ≤ x13.heap.size := Nat.le_trans hsz hg.size
   clear hr hg
   refine hK0.out _ _ hS (fun hHeld => ?_)
   clear hK0 K
   refine wpAnyH_ready (rs := [5]) (by kernel_rfl) (by simp) ?_
   refine AllReadyH.cons rfl (fun K hK0 => ?_) AllReadyH.nil
   (try simp only [gT, gS, gZ])
   go_simp
   go_at_call 37
   refine (steps_any hRW.1 (by omega)).mono ?_
   rintro e x14 ⟨vz, zs, rfl, hZ, hzl2, hzz, hr, hg⟩
   have hZ := OZ.mono (base' := w.heap.size) hZ hRW.size
   have hK := hK.next hg (by omega)
   have hQ := hQ.next hg hgl
   have hRW := hRW.next hr hg
   have hO := hO.keptg hg hgl
   have hP := hP.next hg (by omega)
   have hS := cells4 hK
   have hsz : wd.heap.size ≤ x14.heap.size := Nat.le_trans hsz hg.size
   clear hr hg
   refine hK0.out _ _ hS (fun hHeld => ?_)
   clear hK0 K
   refine wpAnyH_ready (rs := [6]) (by kernel_rfl) (by simp) ?_
   refine AllReadyH.cons rfl (fun K hK0 => ?_) AllReadyH.nil
   (try simp only [gT, gS, gZ])
   go_simp
   go_at_call 12
   refine (specLinePlay_anyB a b d m _ ms _ zs x14 x14.heap.size hO.reads hZ.reads (Nat.le_refl _) (by omega) (fun s hs => by have := hzs s hs; omega) (by omega)).mono ?_
   rintro e x15 ⟨um, ub, ug, ut, rfl, hL, hb⟩
   have hL := hL.lmonoD (hRW.size)
   have hK := hK.from hb
   have hQ := hQ.from hb
   have hRW := hRW.from hb
   have hO := hO.below hb
   have hZ := hZ.below hb
   have hP := hP.from hb
   have hS := cells4 hK
   have hsz : wd.heap.size ≤ x15.heap.size := Nat.le_trans hsz hb.size
   clear hb
   generalize hq : playRes ⟨a, b, d, m⟩ ms zs = q at *
   obtain ⟨AmL, CmL, hsh⟩ := hL.1.reads.shape
   subst hsh
   obtain ⟨AgL, CgL, hsh⟩ := hL.2.1.reads.shape
   subst hsh
   obtain ⟨AtL, CtL, hsh⟩ := hL.2.2.1.reads.shape
   subst hsh
   obtain ⟨AbL, CbL, hsh⟩ := hL.2.2.2.reads.shape
   subst hsh
   refine hK0.out _ _ hS (fun hHeld => ?_)
   clear hK0 K
   have hPB := hP
   obtain ⟨z0, z1, z2, z3, z4, z5, z6, z7, z8, z9, z10, z11, z12⟩ := cells13 hP
   obtain ⟨f0, f1, f2, f3, f4, f5, f6, f7, f8, f9, f10, f11, f12⟩ := free13 hP
   have hS := cells4 (show BK (set13 x15 wd.heap.size (.int .i64 q.c.codec) (.int .i64 q.c.sum) (.int .i64 q.c.most) (.int .i64 q.c.map) (.slice AmL q.ms.length CmL) (.int .i64 (q.nx : Int)) (.slice AgL q.gs.length CgL) (.string (bzL q.f.held)) (.bool q.f.over) (.string (bzL q.h.held)) (.bool q.h.over) (.slice AtL q.ts.length CtL) (.slice AbL q.bs.length CbL)) x1.heap.size #[.int .i64 a, .int .i64 b, .int .i64 d, .int .i64 m] 24 from set13_far hK (by omega))
   refine wpAnyH_ready (rs := [8]) (by kernel_rfl) (by simp) ?_
   refine AllReadyH.cons rfl (fun K hK => ?_) AllReadyH.nil
   (try simp only [gT, gS, gZ])
   skip
   go_simp
   skip
   refine hK.out _ _ hS (fun hHeld => ?_)
   clear hK K
   refine wpAnyH_done (by kernel_rfl) ?_ _
   have HX := Lib.hid (show LcAt w (set13 x15 wd.heap.size (.int .i64 q.c.codec) (.int .i64 q.c.sum) (.int .i64 q.c.most) (.int .i64 q.c.map) (.slice AmL q.ms.length CmL) (.int .i64 (q.nx : Int)) (.slice AgL q.gs.length CgL) (.string (bzL q.f.held)) (.bool q.f.over) (.string (bzL q.h.held)) (.bool q.h.over) (.slice AtL q.ts.length CtL) (.slice AbL q.bs.length CbL)) B g (N + 4 + 300 + 100) wd.heap.size q _ _ _ _ from ⟨set13_bk hP rfl, set13_far hQ (by omega), (by omega), ⟨set13_own hL.1 (own_ne hP line_str hL.1), set13_own hL.2.1 (own_ne hP line_str hL.2.1), set13_own hL.2.2.1 (own_ne hP line_str hL.2.2.1), set13_own hL.2.2.2 (own_ne hP line_str hL.2.2.2)⟩, hRW.set13 (by omega)⟩)
   clear hS hK hQ hP hPB hL hRW z0 z1 z2 z3 z4 z5 z6 z7 z8 z9 z10 z11 z12 f0 f1 f2 f3 f4 f5 f6 f7 f8 f9 f10 f11 f12
   subst hq
   go_wp2
   go_meet
   exact ⟨_, ms, zs, _, _, _, _, rfl, HX.out⟩
 case rest =>
  obtain ⟨P, ms, zs, um, ub, ug, ut, rfl, hlc⟩ := hcut
  obtain ⟨wq, hfw, hl10⟩ := HPF.out ms zs
  generalize playRes ⟨a, b, d, m⟩ ms zs = q at *
  obtain ⟨AmL, CmL, hsh⟩ := hlc.ol.1.reads.shape
  subst hsh
  obtain ⟨AgL, CgL, hsh⟩ := hlc.ol.2.1.reads.shape
  subst hsh
  obtain ⟨AtL, CtL, hsh⟩ := hlc.ol.2.2.1.reads.shape
  subst hsh
  obtain ⟨AbL, CbL, hsh⟩ := hlc.ol.2.2.2.reads.shape
  subst hsh
  have HL := Lib.hid hlc
  have HFW := Lib.hid hfw
  have HL10 := Lib.hid hl10
  have HPW := Lib.hid hlc.hp
  clear hlc hfw hl10 c0 c1 c2 c3
  go_wp2_with fail
  refine (pick_any _ HL.out.rw.1 (by omega)).mono ?_
  rintro e wp ⟨⟨x, rfl, _, _⟩, hr, hg⟩
  have HL := Lib.hid (HL.out.next hr hg)
  clear hr hg
  by_cases hx0 : x = 0
  ·subst hx0
   have HW1 := Lib.hid (HL.out.below ((Below.refl wp.heap.size wp).alloc (Nat.le_refl _) (.cells #[.int .i64 (-1), .int .i64 7, .int .i64 0] 3)))
   have HLR := Lib.hid (list_row wp #[.int .i64 (-1), .int .i64 7, .int .i64 0] 3 [-1, 7, 0] rfl)
   have hgp : ¬ wp.heap.size = g := by have := HL.out.rw.1.lt; omega
   go_wp2_with fail
   refine (one_any (m := wp.heap.size) [-1, 7, 0] 3 HW1.out.rw.1 (by omega) (by simp) (by simp) hgp HLR.out).mono ?_
   rintro e w2 ⟨y, _, rfl, hr, hg⟩
   have HL2 := Lib.hid (HW1.out.next hr hg)
   clear hr hg HW1 HLR
   have f5 := HL2.out.bk.free 5
   have HBQ := Lib.hid (HL2.out.bq.far (j := P) (o := 5) (by have := HPW.out; omega) (.int .i64 y))
   have HRW := Lib.hid (HL2.out.rw.set (j := P) (o := 5) (Nat.le_of_lt HPW.out) (.int .i64 y))
   have HFE := Lib.hid (show fewLn q.ms q.gs (bzL q.f.held) (bzL q.h.held) q.ts q.bs from HFW.out)
   have HOL := Lib.hid (show OL (w2.setCell ⟨P, 5, none⟩ (.int .i64 y)) 0 (.slice AmL q.ms.length CmL) q.ms (.slice AgL q.gs.length CgL) q.gs (.slice AtL q.ts.length CtL) q.ts (.slice AbL q.bs.length CbL) q.bs from ⟨os_set (HL2.out.ol.1.mono (Nat.zero_le _)) (own_ne HL2.out.bk line_str HL2.out.ol.1) _, os_set (HL2.out.ol.2.1.mono (Nat.zero_le _)) (own_ne HL2.out.bk line_str HL2.out.ol.2.1) _, os_set (HL2.out.ol.2.2.1.mono (Nat.zero_le _)) (own_ne HL2.out.bk line_str HL2.out.ol.2.2.1) _, os_set (HL2.out.ol.2.2.2.mono (Nat.zero_le _)) (own_ne HL2.out.bk line_str HL2.out.ol.2.2.2) _⟩)
   obtain ⟨c0, c1, c2, c3, c4, c5, c6, c7, c8, c9, c10, c11, c12⟩ := cells13 (HL2.out.bk)
   go_wp2_with fail
   refine (l8CopyA_any q.c.codec q.c.sum q.c.most q.c.map (y) q.ms q.gs (bzL q.f.held) (bzL q.h.held) q.f.over q.h.over q.ts q.bs _ _ _ _ _ HOL.out (by have h := HL10.out; exact ⟨by omega, by omega, by omega, by omega⟩)).mono ?_
   rintro e wz ⟨ym, yb, yg, yt, rfl, hol9, hb9⟩
   obtain ⟨Am9, Cm9, hsh⟩ := hol9.1.reads.shape
   subst hsh
   obtain ⟨Ag9, Cg9, hsh⟩ := hol9.2.1.reads.shape
   subst hsh
   obtain ⟨At9, Ct9, hsh⟩ := hol9.2.2.1.reads.shape
   subst hsh
   obtain ⟨Ab9, Cb9, hsh⟩ := hol9.2.2.2.reads.shape
   subst hsh
   have hbq9 := HBQ.out.from hb9
   clear c0 c1 c2 c3 c4 c5 c6 c7 c8 c9 c10 c11 c12
   obtain ⟨z0, z1, z2, z3, z4, z5, z6, z7, z8, z9, z10, z11, z12⟩ := cells13 hbq9
   obtain ⟨f0, f1, f2, f3, f4, f5, f6, f7, f8, f9, f10, f11, f12⟩ := free13 hbq9
   have HB9 := Lib.hid hbq9
   have HO9 := Lib.hid hol9
   have HR9 := Lib.hid (HRW.out.from hb9)
   clear hbq9 hol9 hb9
   go_wp2
   refine line_ret Tryz.results48 (set13_bk (v0 := .int .i64 q.c.codec) (v1 := .int .i64 q.c.sum) (v2 := .int .i64 q.c.most) (v3 := .int .i64 q.c.map) (v4 := .slice Am9 q.ms.length Cm9) (v5 := .int .i64 (y)) (v6 := .slice Ag9 q.gs.length Cg9) (v7 := .string (bzL q.f.held)) (v8 := .bool q.f.over) (v9 := .string (bzL q.h.held)) (v10 := .bool q.h.over) (v11 := .slice At9 q.ts.length Ct9) (v12 := .slice Ab9 q.bs.length Cb9) HB9.out rfl) rfl rfl ?_
   exact ⟨_, _, _, _, _, _, q.ms, _, q.gs, _, _, _, _, _, q.ts, _, q.bs, rfl, ⟨set13_own HO9.out.1 (own_ne HB9.out line_str HO9.out.1), set13_own HO9.out.2.1 (own_ne HB9.out line_str HO9.out.2.1), set13_own HO9.out.2.2.1 (own_ne HB9.out line_str HO9.out.2.2.1), set13_own HO9.out.2.2.2 (own_ne HB9.out line_str HO9.out.2.2.2)⟩, HFE.out, wq, (HR9.out.mono (by omega)).set13 (Nat.le_refl _)⟩
  ·by_cases hx1 : x = 1
   ·subst hx1
    have new_small : ∀ s ∈ ([⟨#[120]⟩, ⟨#[121]⟩, ⟨#[122]⟩] : List ByteArray), s.size ≤ 1048576 := by decide
    have HW1 := Lib.hid (HL.out.below ((Below.refl wp.heap.size wp).alloc (Nat.le_refl _) (.cells #[.string ⟨#[120]⟩, .string ⟨#[121]⟩, .string ⟨#[122]⟩] 9)))
    have hnb := BK.new wp #[.string ⟨#[120]⟩, .string ⟨#[121]⟩, .string ⟨#[122]⟩] 9
    have HC0 := Lib.hid (show ∀ j (h : j < ([⟨#[120]⟩, ⟨#[121]⟩, ⟨#[122]⟩] : List ByteArray).length), (wp.alloc (.cells #[.string ⟨#[120]⟩, .string ⟨#[121]⟩, .string ⟨#[122]⟩] 9)).cell? ((⟨wp.heap.size, 0, none⟩ : Addr).add j) = some (.string ([⟨#[120]⟩, ⟨#[121]⟩, ⟨#[122]⟩] : List ByteArray)[j]) from fun j h => by
     rw [slit_add]
     rcases (show j = 0 ∨ j = 1 ∨ j = 2 by simp at h; omega) with rfl | rfl | rfl
     ·exact hnb.cell rfl
     ·exact hnb.cell rfl
     ·exact hnb.cell rfl)
    clear hnb
    obtain ⟨e0, e1, e2, e3, e4, e5, e6, e7, e8, e9, e10, e11, e12⟩ := cells13 HL.out.bk
    go_wp2_with (at_builtin; refine wpList_append_still _ rfl _ _ 25 rfl w.heap.size i0 Tryz.underlying25 HI.out HZ0.out HZ1.out HZ2.out _ q.ts rfl HW1.out.ol.2.2.1 ⟨wp.heap.size, 0, none⟩ 3 [⟨#[120]⟩, ⟨#[121]⟩, ⟨#[122]⟩] 3 rfl rfl HC0.out (by simp) (by have h := HL10.out; simp; omega) HW1.out.rw.size ?_; intro v4 w4 hown4 hg4 hst4; obtain ⟨L4, hL4⟩ : ∃ L : List ByteArray, L = q.ts ++ [⟨#[120]⟩, ⟨#[121]⟩, ⟨#[122]⟩] := ⟨_, rfl⟩; rw [← hL4] at hown4; have HLL := Lib.hid hL4; clear hL4; obtain ⟨A4, C4, hsh⟩ := hown4.reads.shape; subst hsh; have hbk4 := HW1.out.bk.os line_str HW1.out.ol.2.2.1 hg4; have hbq4 := HW1.out.bq.os line_str HW1.out.ol.2.2.1 hg4; have hrw4 := HW1.out.rw.own hg4 (fun k hk => (HW1.out.ol.2.2.1.low k hk).1); have HST := Lib.hid hst4; have f4 := hbk4.free 11; obtain ⟨c0, c1, c2, c3, c4, c5, c6, c7, c8, c9, c10, c11, c12⟩ := cells13 hbk4; have HO4 := Lib.hid hown4; have HBK4 := Lib.hid hbk4; have HBQ4 := Lib.hid hbq4; have HRW4 := Lib.hid hrw4; clear hown4 hg4 hst4 hbk4 hbq4 hrw4 e0 e1 e2 e3 e4 e5 e6 e7 e8 e9 e10 e11 e12)
    obtain ⟨Lm, hom, hlm, hmm⟩ := HST.out _ _ _ HW1.out.ol.1
    have HOm := Lib.hid hom
    have HMm := Lib.hid hmm
    clear hom hmm
    have HSm := Lib.hid hlm
    clear hlm
    obtain ⟨Lg, hog, hlg, hmg⟩ := HST.out _ _ _ HW1.out.ol.2.1
    have HOg := Lib.hid hog
    have HMg := Lib.hid hmg
    clear hog hmg
    have HSg := Lib.hid hlg
    clear hlg
    obtain ⟨Lb, hob, hlb, hmb⟩ := HST.out _ _ _ HW1.out.ol.2.2.2
    have HOb := Lib.hid hob
    have HMb := Lib.hid hmb
    clear hob hmb
    have HSb := Lib.hid hlb
    clear hlb
    have HBQ := Lib.hid (HBQ4.out.far (j := P) (o := 11) (by have := HPW.out; omega) (.slice A4 L4.length C4))
    have HRW := Lib.hid (HRW4.out.set (j := P) (o := 11) (Nat.le_of_lt HPW.out) (.slice A4 L4.length C4))
    have HFE := Lib.hid (show fewLn Lm Lg (bzL q.f.held) (bzL q.h.held) L4 Lb from ⟨HFW.out.1, ⟨(by have h := HL10.out; have h1 := HSm.out; omega), (by have h := HL10.out; have h1 := HSg.out; omega), (by have h := HL10.out; rw [HLL.out]; simp; omega), (by have h := HL10.out; have h1 := HSb.out; omega)⟩, (fun s hs => (HMm.out s hs).elim (fun h => HFW.out.2.2.1 s h) (fun h => new_small s h)), (fun s hs => (HMg.out s hs).elim (fun h => HFW.out.2.2.2.1 s h) (fun h => new_small s h)), (fun s hs => (List.mem_append.1 (by rw [HLL.out] at hs; exact hs)).elim (fun h => HFW.out.2.2.2.2.1 s h) (fun h => new_small s h)), (fun s hs => (HMb.out s hs).elim (fun h => HFW.out.2.2.2.2.2 s h) (fun h => new_small s h))⟩)
    have HOL := Lib.hid (show OL (w4.setCell ⟨P, 11, none⟩ (.slice A4 L4.length C4)) 0 (.slice AmL q.ms.length CmL) Lm (.slice AgL q.gs.length CgL) Lg (.slice A4 L4.length C4) L4 (.slice AbL q.bs.length CbL) Lb from ⟨os_set (HOm.out.mono (Nat.zero_le _)) (own_ne HBK4.out line_str HOm.out) _, os_set (HOg.out.mono (Nat.zero_le _)) (own_ne HBK4.out line_str HOg.out) _, os_set (HO4.out.mono (Nat.zero_le _)) (own_ne HBK4.out line_str HO4.out) _, os_set (HOb.out.mono (Nat.zero_le _)) (own_ne HBK4.out line_str HOb.out) _⟩)
    refine (l8CopyA_any q.c.codec q.c.sum q.c.most q.c.map ((q.nx : Int)) Lm Lg (bzL q.f.held) (bzL q.h.held) q.f.over q.h.over L4 Lb _ _ _ _ _ HOL.out (by have h := HL10.out; have hm := HSm.out; have hg := HSg.out; have hb := HSb.out; exact ⟨by omega, by omega, by rw [HLL.out]; simp; omega, by omega⟩)).mono ?_
    rintro e wz ⟨ym, yb, yg, yt, rfl, hol9, hb9⟩
    obtain ⟨Am9, Cm9, hsh⟩ := hol9.1.reads.shape
    subst hsh
    obtain ⟨Ag9, Cg9, hsh⟩ := hol9.2.1.reads.shape
    subst hsh
    obtain ⟨At9, Ct9, hsh⟩ := hol9.2.2.1.reads.shape
    subst hsh
    obtain ⟨Ab9, Cb9, hsh⟩ := hol9.2.2.2.reads.shape
    subst hsh
    have hbq9 := HBQ.out.from hb9
    clear c0 c1 c2 c3 c4 c5 c6 c7 c8 c9 c10 c11 c12
    obtain ⟨z0, z1, z2, z3, z4, z5, z6, z7, z8, z9, z10, z11, z12⟩ := cells13 hbq9
    obtain ⟨f0, f1, f2, f3, f4, f5, f6, f7, f8, f9, f10, f11, f12⟩ := free13 hbq9
    have HB9 := Lib.hid hbq9
    have HO9 := Lib.hid hol9
    have HR9 := Lib.hid (HRW.out.from hb9)
    clear hbq9 hol9 hb9
    go_wp2
    refine line_ret Tryz.results48 (set13_bk (v0 := .int .i64 q.c.codec) (v1 := .int .i64 q.c.sum) (v2 := .int .i64 q.c.most) (v3 := .int .i64 q.c.map) (v4 := .slice Am9 Lm.length Cm9) (v5 := .int .i64 ((q.nx : Int))) (v6 := .slice Ag9 Lg.length Cg9) (v7 := .string (bzL q.f.held)) (v8 := .bool q.f.over) (v9 := .string (bzL q.h.held)) (v10 := .bool q.h.over) (v11 := .slice At9 L4.length Ct9) (v12 := .slice Ab9 Lb.length Cb9) HB9.out rfl) rfl rfl ?_
    exact ⟨_, _, _, _, _, _, Lm, _, Lg, _, _, _, _, _, L4, _, Lb, rfl, ⟨set13_own HO9.out.1 (own_ne HB9.out line_str HO9.out.1), set13_own HO9.out.2.1 (own_ne HB9.out line_str HO9.out.2.1), set13_own HO9.out.2.2.1 (own_ne HB9.out line_str HO9.out.2.2.1), set13_own HO9.out.2.2.2 (own_ne HB9.out line_str HO9.out.2.2.2)⟩, HFE.out, wq, (HR9.out.mono (by omega)).set13 (Nat.le_refl _)⟩
   ·by_cases hx2 : x = 2
    ·subst hx2
     have new_small : ∀ s ∈ ([⟨#[113]⟩] : List ByteArray), s.size ≤ 1048576 := by decide
     have HW1 := Lib.hid (HL.out.below ((Below.refl wp.heap.size wp).alloc (Nat.le_refl _) (.cells #[.string ⟨#[113]⟩] 9)))
     have hnb := BK.new wp #[.string ⟨#[113]⟩] 9
     have HC0 := Lib.hid (show ∀ j (h : j < ([⟨#[113]⟩] : List ByteArray).length), (wp.alloc (.cells #[.string ⟨#[113]⟩] 9)).cell? ((⟨wp.heap.size, 0, none⟩ : Addr).add j) = some (.string ([⟨#[113]⟩] : List ByteArray)[j]) from fun j h => by
      rw [slit_add]
      have hj : j = 0 := by simp at h; omega
      subst hj
      exact hnb.cell rfl)
     clear hnb
     obtain ⟨e0, e1, e2, e3, e4, e5, e6, e7, e8, e9, e10, e11, e12⟩ := cells13 HL.out.bk
     go_wp2_with (at_builtin; refine wpList_append_still _ rfl _ _ 25 rfl w.heap.size i0 Tryz.underlying25 HI.out HZ0.out HZ1.out HZ2.out _ q.gs rfl HW1.out.ol.2.1 ⟨wp.heap.size, 0, none⟩ 1 [⟨#[113]⟩] 1 rfl rfl HC0.out (by simp) (by have h := HL10.out; simp; omega) HW1.out.rw.size ?_; intro v4 w4 hown4 hg4 hst4; obtain ⟨L4, hL4⟩ : ∃ L : List ByteArray, L = q.gs ++ [⟨#[113]⟩] := ⟨_, rfl⟩; rw [← hL4] at hown4; have HLL := Lib.hid hL4; clear hL4; obtain ⟨A4, C4, hsh⟩ := hown4.reads.shape; subst hsh; have hbk4 := HW1.out.bk.os line_str HW1.out.ol.2.1 hg4; have hbq4 := HW1.out.bq.os line_str HW1.out.ol.2.1 hg4; have hrw4 := HW1.out.rw.own hg4 (fun k hk => (HW1.out.ol.2.1.low k hk).1); have HST := Lib.hid hst4; have f4 := hbk4.free 6; obtain ⟨c0, c1, c2, c3, c4, c5, c6, c7, c8, c9, c10, c11, c12⟩ := cells13 hbk4; have HO4 := Lib.hid hown4; have HBK4 := Lib.hid hbk4; have HBQ4 := Lib.hid hbq4; have HRW4 := Lib.hid hrw4; clear hown4 hg4 hst4 hbk4 hbq4 hrw4 e0 e1 e2 e3 e4 e5 e6 e7 e8 e9 e10 e11 e12)
     obtain ⟨Lm, hom, hlm, hmm⟩ := HST.out _ _ _ HW1.out.ol.1
     have HOm := Lib.hid hom
     have HMm := Lib.hid hmm
     clear hom hmm
     have HSm := Lib.hid hlm
     clear hlm
     obtain ⟨Lt, hot, hlt, hmt⟩ := HST.out _ _ _ HW1.out.ol.2.2.1
     have HOt := Lib.hid hot
     have HMt := Lib.hid hmt
     clear hot hmt
     have HSt := Lib.hid hlt
     clear hlt
     obtain ⟨Lb, hob, hlb, hmb⟩ := HST.out _ _ _ HW1.out.ol.2.2.2
     have HOb := Lib.hid hob
     have HMb := Lib.hid hmb
     clear hob hmb
     have HSb := Lib.hid hlb
     clear hlb
     have HBQ := Lib.hid (HBQ4.out.far (j := P) (o := 6) (by have := HPW.out; omega) (.slice A4 L4.length C4))
     have HRW := Lib.hid (HRW4.out.set (j := P) (o := 6) (Nat.le_of_lt HPW.out) (.slice A4 L4.length C4))
     have HFE := Lib.hid (show fewLn Lm L4 (bzL q.f.held) (bzL q.h.held) Lt Lb from ⟨HFW.out.1, ⟨(by have h := HL10.out; have h1 := HSm.out; omega), (by have h := HL10.out; rw [HLL.out]; simp; omega), (by have h := HL10.out; have h1 := HSt.out; omega), (by have h := HL10.out; have h1 := HSb.out; omega)⟩, (fun s hs => (HMm.out s hs).elim (fun h => HFW.out.2.2.1 s h) (fun h => new_small s h)), (fun s hs => (List.mem_append.1 (by rw [HLL.out] at hs; exact hs)).elim (fun h => HFW.out.2.2.2.1 s h) (fun h => new_small s h)), (fun s hs => (HMt.out s hs).elim (fun h => HFW.out.2.2.2.2.1 s h) (fun h => new_small s h)), (fun s hs => (HMb.out s hs).elim (fun h => HFW.out.2.2.2.2.2 s h) (fun h => new_small s h))⟩)
     have HOL := Lib.hid (show OL (w4.setCell ⟨P, 6, none⟩ (.slice A4 L4.length C4)) 0 (.slice AmL q.ms.length CmL) Lm (.slice A4 L4.length C4) L4 (.slice AtL q.ts.length CtL) Lt (.slice AbL q.bs.length CbL) Lb from ⟨os_set (HOm.out.mono (Nat.zero_le _)) (own_ne HBK4.out line_str HOm.out) _, os_set (HO4.out.mono (Nat.zero_le _)) (own_ne HBK4.out line_str HO4.out) _, os_set (HOt.out.mono (Nat.zero_le _)) (own_ne HBK4.out line_str HOt.out) _, os_set (HOb.out.mono (Nat.zero_le _)) (own_ne HBK4.out line_str HOb.out) _⟩)
     refine (l8CopyA_any q.c.codec q.c.sum q.c.most q.c.map ((q.nx : Int)) Lm L4 (bzL q.f.held) (bzL q.h.held) q.f.over q.h.over Lt Lb _ _ _ _ _ HOL.out (by have h := HL10.out; have hm := HSm.out; have ht := HSt.out; have hb := HSb.out; exact ⟨by omega, by rw [HLL.out]; simp; omega, by omega, by omega⟩)).mono ?_
     rintro e wz ⟨ym, yb, yg, yt, rfl, hol9, hb9⟩
     obtain ⟨Am9, Cm9, hsh⟩ := hol9.1.reads.shape
     subst hsh
     obtain ⟨Ag9, Cg9, hsh⟩ := hol9.2.1.reads.shape
     subst hsh
     obtain ⟨At9, Ct9, hsh⟩ := hol9.2.2.1.reads.shape
     subst hsh
     obtain ⟨Ab9, Cb9, hsh⟩ := hol9.2.2.2.reads.shape
     subst hsh
     have hbq9 := HBQ.out.from hb9
     clear c0 c1 c2 c3 c4 c5 c6 c7 c8 c9 c10 c11 c12
     obtain ⟨z0, z1, z2, z3, z4, z5, z6, z7, z8, z9, z10, z11, z12⟩ := cells13 hbq9
     obtain ⟨f0, f1, f2, f3, f4, f5, f6, f7, f8, f9, f10, f11, f12⟩ := free13 hbq9
     have HB9 := Lib.hid hbq9
     have HO9 := Lib.hid hol9
     have HR9 := Lib.hid (HRW.out.from hb9)
     clear hbq9 hol9 hb9
     go_wp2
     refine line_ret Tryz.results48 (set13_bk (v0 := .int .i64 q.c.codec) (v1 := .int .i64 q.c.sum) (v2 := .int .i64 q.c.most) (v3 := .int .i64 q.c.map) (v4 := .slice Am9 Lm.length Cm9) (v5 := .int .i64 ((q.nx : Int))) (v6 := .slice Ag9 L4.length Cg9) (v7 := .string (bzL q.f.held)) (v8 := .bool q.f.over) (v9 := .string (bzL q.h.held)) (v10 := .bool q.h.over) (v11 := .slice At9 Lt.length Ct9) (v12 := .slice Ab9 Lb.length Cb9) HB9.out rfl) rfl rfl ?_
     exact ⟨_, _, _, _, _, _, Lm, _, L4, _, _, _, _, _, Lt, _, Lb, rfl, ⟨set13_own HO9.out.1 (own_ne HB9.out line_str HO9.out.1), set13_own HO9.out.2.1 (own_ne HB9.out line_str HO9.out.2.1), set13_own HO9.out.2.2.1 (own_ne HB9.out line_str HO9.out.2.2.1), set13_own HO9.out.2.2.2 (own_ne HB9.out line_str HO9.out.2.2.2)⟩, HFE.out, wq, (HR9.out.mono (by omega)).set13 (Nat.le_refl _)⟩
    ·have hq0 : (x == 0) = false := by simpa using hx0
     have hq1 : (x == 1) = false := by simpa using hx1
     have hq2 : (x == 2) = false := by simpa using hx2
     have HBQ := Lib.hid (HL.out.bq)
     have HRW := Lib.hid (HL.out.rw)
     have HFE := Lib.hid (show fewLn q.ms q.gs (bzL q.f.held) (bzL q.h.held) q.ts q.bs from HFW.out)
     have HOL := Lib.hid (show OL wp 0 (.slice AmL q.ms.length CmL) q.ms (.slice AgL q.gs.length CgL) q.gs (.slice AtL q.ts.length CtL) q.ts (.slice AbL q.bs.length CbL) q.bs from ⟨HL.out.ol.1.mono (Nat.zero_le _), HL.out.ol.2.1.mono (Nat.zero_le _), HL.out.ol.2.2.1.mono (Nat.zero_le _), HL.out.ol.2.2.2.mono (Nat.zero_le _)⟩)
     obtain ⟨c0, c1, c2, c3, c4, c5, c6, c7, c8, c9, c10, c11, c12⟩ := cells13 (HL.out.bk)
     go_wp2_with fail
     refine (l8CopyA_any q.c.codec q.c.sum q.c.most q.c.map ((q.nx : Int)) q.ms q.gs (bzL q.f.held) (bzL q.h.held) q.f.over q.h.over q.ts q.bs _ _ _ _ _ HOL.out (by have h := HL10.out; exact ⟨by omega, by omega, by omega, by omega⟩)).mono ?_
     rintro e wz ⟨ym, yb, yg, yt, rfl, hol9, hb9⟩
     obtain ⟨Am9, Cm9, hsh⟩ := hol9.1.reads.shape
     subst hsh
     obtain ⟨Ag9, Cg9, hsh⟩ := hol9.2.1.reads.shape
     subst hsh
     obtain ⟨At9, Ct9, hsh⟩ := hol9.2.2.1.reads.shape
     subst hsh
     obtain ⟨Ab9, Cb9, hsh⟩ := hol9.2.2.2.reads.shape
     subst hsh
     have hbq9 := HBQ.out.from hb9
     clear c0 c1 c2 c3 c4 c5 c6 c7 c8 c9 c10 c11 c12
     obtain ⟨z0, z1, z2, z3, z4, z5, z6, z7, z8, z9, z10, z11, z12⟩ := cells13 hbq9
     obtain ⟨f0, f1, f2, f3, f4, f5, f6, f7, f8, f9, f10, f11, f12⟩ := free13 hbq9
     have HB9 := Lib.hid hbq9
     have HO9 := Lib.hid hol9
     have HR9 := Lib.hid (HRW.out.from hb9)
     clear hbq9 hol9 hb9
     go_wp2
     refine line_ret Tryz.results48 (set13_bk (v0 := .int .i64 q.c.codec) (v1 := .int .i64 q.c.sum) (v2 := .int .i64 q.c.most) (v3 := .int .i64 q.c.map) (v4 := .slice Am9 q.ms.length Cm9) (v5 := .int .i64 ((q.nx : Int))) (v6 := .slice Ag9 q.gs.length Cg9) (v7 := .string (bzL q.f.held)) (v8 := .bool q.f.over) (v9 := .string (bzL q.h.held)) (v10 := .bool q.h.over) (v11 := .slice At9 q.ts.length Ct9) (v12 := .slice Ab9 q.bs.length Cb9) HB9.out rfl) rfl rfl ?_
     exact ⟨_, _, _, _, _, _, q.ms, _, q.gs, _, _, _, _, _, q.ts, _, q.bs, rfl, ⟨set13_own HO9.out.1 (own_ne HB9.out line_str HO9.out.1), set13_own HO9.out.2.1 (own_ne HB9.out line_str HO9.out.2.1), set13_own HO9.out.2.2.1 (own_ne HB9.out line_str HO9.out.2.2.1), set13_own HO9.out.2.2.2 (own_ne HB9.out line_str HO9.out.2.2.2)⟩, HFE.out, wq, (HR9.out.mono (by omega)).set13 (Nat.le_refl _)⟩
end Go.Proofs.YtmggoiabcboaiaaGreat
