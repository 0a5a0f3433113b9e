/- Parts of a proof, 23: LkU FdS Abp. -/
import Derived.Test.YtmggoiabcboaiaaGreatZd1
import Derived.Test.YtmggoiabcboaiaaGreatZd2
import Derived.Test.YtmggoiabcboaiaaGreatZd3
import Derived.Test.YtmggoiabcboaiaaGreatZd4
import Derived.Test.YtmggoiabcboaiaaGreatZd5
import Derived.Test.YtmggoiabcboaiaaGreatZd6
import Derived.Test.YtmggoiabcboaiaaGreatZd7
import Derived.Test.YtmggoiabcboaiaaGreatZd8
import Derived.Test.YtmggoiabcboaiaaGreatZd9
import Derived.Test.YtmggoiabcboaiaaGreatZd10
import Derived.Test.YtmggoiabcboaiaaGreatZd11
import Derived.Test.YtmggoiabcboaiaaGreatZd12
import Derived.Test.YtmggoiabcboaiaaGreatZd13
import Derived.Test.YtmggoiabcboaiaaGreatZd14
import Derived.Test.YtmggoiabcboaiaaGreatZd15
import Derived.Test.YtmggoiabcboaiaaGreatZd16
import Derived.Test.YtmggoiabcboaiaaGreatZd17
import Derived.Test.YtmggoiabcboaiaaGreatZd18
import Derived.Test.YtmggoiabcboaiaaGreatZd19
import Derived.Test.YtmggoiabcboaiaaGreatZd20
import Derived.Test.YtmggoiabcboaiaaGreatZd21
import Derived.Test.YtmggoiabcboaiaaGreatZd22
namespace Go.Proofs.YtmggoiabcboaiaaGreat
open Go.ChangeShapes Go.WideShapes Go.ChangeAt Go.RowKit
set_option linter.unusedVariables false
def newLs (c : Cf) (ms : List ByteArray) : Ls := ⟨c, ms, 0, [], ⟨[], false⟩, ⟨[], false⟩, [], []⟩
def playRes (c : Cf) (ms : List ByteArray) (zs : List Int) : Ls := if newB c ms = true then (zs.take 80).foldl Ls.doP (newLs c ms) else zeroLs
theorem newLs_ok {c : Cf} {ms : List ByteArray} (h : newB c ms = true) : (newLs c ms).Ok := by
 have h0 := (lineB_new c ms).trans h
 unfold lineB at h0
 simp only [Bool.and_eq_true, decide_eq_true_eq] at h0
 obtain ⟨h1, h2, h3, -⟩ := h0
 have h3' := h3
 simp only [msgsB, Bool.and_eq_true, decide_eq_true_eq, List.all_eq_true] at h3'
 exact ⟨(okF_yes h1).1, h1, h2, h3'.2, fun x hx => h3'.1 x hx, Nat.zero_le _, Nat.zero_le _, fun _ h => (by cases h), Nat.zero_le _, fun _ h => (by cases h), Nat.zero_le _, fun _ h => (by cases h)⟩
theorem Ls.Ok.plays (l : List Int) : ∀ {s : Ls}, s.Ok → (l.foldl Ls.doP s).Ok := by
 induction l with
 | nil => intro s h; exact h
 | cons z r ih => intro s h; exact ih (h.doP z)
set_option maxRecDepth 100000 in
set_option maxHeartbeats 2000000 in
theorem implLinePlay_any (a b d m : Int) (vm : Value) (ms : List ByteArray) (vz : Value) (zs : List Int) (w : World) (B : Nat) (h : RS w B vm ms) (hz : RZ w B vz zs) (hB : B ≤ w.heap.size)
  (wa : (Lit.int .i64 a).wf = true) (hl : ms.length ≤ 1048576) (hs : ∀ s ∈ ms, s.size ≤ 1048576) (hzl : zs.length ≤ maxLen) (hzw : ∀ z ∈ zs, (Lit.int .i64 z).wf = true) :
  Calls Tryz.prog 10 #[cfV a b d m, vm, vz] w (ResL w (playRes ⟨a, b, d, m⟩ ms zs)) := by
 obtain ⟨am, cm, rfl⟩ := h.shape
 obtain ⟨az, cz, rfl⟩ := hz.shape
 have hroom := hz.room
 have hzln := zero_line
 have hk := (BK.new w #[.int .i64 a, .int .i64 b, .int .i64 d, .int .i64 m] 24).alloc (.cells #[.int .i64 0, .int .i64 0, .int .i64 0, .int .i64 0, .slice none 0 0, .int .i64 0, .slice none 0 0, .string ⟨#[]⟩, .bool false, .string ⟨#[]⟩, .bool false, .slice none 0 0, .slice none 0 0] 32)
 have hq := BK.new (w.alloc (.cells #[.int .i64 a, .int .i64 b, .int .i64 d, .int .i64 m] 24)) #[.int .i64 0, .int .i64 0, .int .i64 0, .int .i64 0, .slice none 0 0, .int .i64 0, .slice none 0 0, .string ⟨#[]⟩, .bool false, .string ⟨#[]⟩, .bool false, .slice none 0 0, .slice none 0 0] 32
 rw [World.size_alloc] at hq
 have hb := ((Below.refl w.heap.size w).alloc (Nat.le_refl _) (.cells #[.int .i64 a, .int .i64 b, .int .i64 d, .int .i64 m] 24)).alloc (by simp) (.cells #[.int .i64 0, .int .i64 0, .int .i64 0, .int .i64 0, .slice none 0 0, .int .i64 0, .slice none 0 0, .string ⟨#[]⟩, .bool false, .string ⟨#[]⟩, .bool false, .slice none 0 0, .slice none 0 0] 32)
 have HM := Lib.hid ((h.mono hB).below hb)
 have HZ := Lib.hid ((hz.mono hB).below hb)
 have HB := Lib.hid hb
 have HQ := Lib.hid hq
 obtain ⟨c0, c1, c2, c3⟩ : _ ∧ _ ∧ _ ∧ _ := ⟨hk.cell (i := 0) rfl, hk.cell (i := 1) rfl, hk.cell (i := 2) rfl, hk.cell (i := 3) rfl⟩
 have HL := Lib.hid hl
 have HS := Lib.hid hs
 have HW := Lib.hid hzw
 clear h hz hk hq hb hs hl hzw
 go_enter Tryz.func10, Tryz.ntmps10
 go_wp2_with fail
 refine (implLineNew_any a b d m _ ms _ w.heap.size HM.out HB.out.size wa HL.out HS.out).mono ?_
 rintro e w1 hnew
 have HNEW := Lib.hid hnew
 have hb1 : Below (((w.alloc (.cells #[.int .i64 a, .int .i64 b, .int .i64 d, .int .i64 m] 24)).alloc (.cells #[.int .i64 0, .int .i64 0, .int .i64 0, .int .i64 0, .slice none 0 0, .int .i64 0, .slice none 0 0, .string ⟨#[]⟩, .bool false, .string ⟨#[]⟩, .bool false, .slice none 0 0, .slice none 0 0] 32)).heap.size) ((w.alloc (.cells #[.int .i64 a, .int .i64 b, .int .i64 d, .int .i64 m] 24)).alloc (.cells #[.int .i64 0, .int .i64 0, .int .i64 0, .int .i64 0, .slice none 0 0, .int .i64 0, .slice none 0 0, .string ⟨#[]⟩, .bool false, .string ⟨#[]⟩, .bool false, .slice none 0 0, .slice none 0 0] 32)) w1 := by
  rcases hnew with ⟨_, _, _, _, h⟩ | ⟨_, _, h⟩ <;> exact h
 have HQ1 := Lib.hid (HQ.out.from hb1)
 have HM1 := Lib.hid (HM.out.below (hb1.mono HB.out.size))
 have HZ1 := Lib.hid (HZ.out.below (hb1.mono HB.out.size))
 have HB1 := Lib.hid (HB.out.trans (hb1.mono HB.out.size))
 have hs1 : w.heap.size + 2 ≤ w1.heap.size := by have := hb1.size; simp at this; omega
 have HS1 := Lib.hid hs1
 clear hb1 HM HZ hs1
 rcases HNEW.out with ⟨hn, v1, rfl, hown, -⟩ | ⟨hn, rfl, -⟩
 ·obtain ⟨A1, C1, hsh⟩ := hown.reads.shape
  subst hsh
  have hba := (Below.refl w1.heap.size w1).alloc (Nat.le_refl _) (.cells #[.int .i64 a, .int .i64 b, .int .i64 d, .int .i64 m, .slice A1 ms.length C1, .int .i64 0, .slice none 0 0, .string ⟨#[]⟩, .bool false, .string ⟨#[]⟩, .bool false, .slice none 0 0, .slice none 0 0] 32)
  have hl := BK.new w1 #[.int .i64 a, .int .i64 b, .int .i64 d, .int .i64 m, .slice A1 ms.length C1, .int .i64 0, .slice none 0 0, .string ⟨#[]⟩, .bool false, .string ⟨#[]⟩, .bool false, .slice none 0 0, .slice none 0 0] 32
  have HLB := Lib.hid hl
  have HO := Lib.hid (hown.below hba)
  have HQ2 := Lib.hid (HQ1.out.from hba)
  have HZ2 := Lib.hid (HZ1.out.below (hba.mono HB1.out.size))
  have HB2 := Lib.hid (HB1.out.trans (hba.mono HB1.out.size))
  obtain ⟨e0, e1, e2, e3, e4, e5, e6, e7, e8, e9, e10, e11, e12⟩ := cells13 hl
  clear hown hba hl c0 c1 c2 c3
  go_wp2_with fail
  refine (implLineOk_any a b d m 0 _ ms none none none 0 0 0 0 0 0 ⟨#[]⟩ ⟨#[]⟩ false false _ _ HO.out.reads (Nat.le_refl _) wa (by show 0 ≤ maxLen; exact Nat.zero_le _) (by show 0 ≤ maxLen; exact Nat.zero_le _) (by have := HL.out; unfold maxLen; omega) (fun s hs => by have := HS.out s hs; unfold maxLen; omega)).mono ?_
  rintro e x1 ⟨rfl, hbx⟩
  rw [show lineB ⟨a, b, d, m⟩ ms 0 0 ⟨(⟨#[]⟩ : ByteArray).data.toList, false⟩ ⟨(⟨#[]⟩ : ByteArray).data.toList, false⟩ 0 0 = true from (lineB_new ⟨a, b, d, m⟩ ms).trans hn]
  have HLB := Lib.hid (HLB.out.from hbx)
  have HO := Lib.hid (HO.out.below hbx)
  have HQ2 := Lib.hid (HQ2.out.from hbx)
  have HZ2 := Lib.hid (HZ2.out.below (hbx.mono HB2.out.size))
  have HB2 := Lib.hid (HB2.out.trans (hbx.mono HB2.out.size))
  obtain ⟨e0, e1, e2, e3, e4, e5, e6, e7, e8, e9, e10, e11, e12⟩ := cells13 HLB.out
  clear hbx
  go_wp2_with fail
  refine (linkOf_any a b d m 0 0 rfl _ ms _ [] _ [] _ [] ⟨#[]⟩ ⟨#[]⟩ false false _ _ ⟨HO.out.reads, RS_nil _ _, RS_nil _ _, RS_nil _ _⟩ (Nat.le_refl _) (by decide) (by decide) ⟨HL.out, by simp, by simp, by simp⟩ ⟨HS.out, fun _ h => (by cases h), fun _ h => (by cases h), fun _ h => (by cases h)⟩).mono ?_
  rintro e x2 ⟨g, um, ub, ug, ut, rfl, hlk, hbx⟩
  have HQ2 := Lib.hid (HQ2.out.from hbx)
  have HZ2 := Lib.hid (HZ2.out.below (hbx.mono HB2.out.size))
  have HSX := Lib.hid (Nat.le_trans HS1.out (Nat.le_of_lt HLB.out.lt))
  have HBX := Lib.hid HB2.out.size
  have HB2 := Lib.hid (HB2.out.trans (hbx.mono HB2.out.size))
  have HL2 := Lib.hid (show LK x2 x1.heap.size g (newLs ⟨a, b, d, m⟩ ms) from ⟨_, _, _, _, hlk⟩)
  have HNO := Lib.hid (newLs_ok hn)
  have HV := Lib.hid (show playRes ⟨a, b, d, m⟩ ms zs = (zs.take 80).foldl Ls.doP (newLs ⟨a, b, d, m⟩ ms) by unfold playRes; rw [if_pos hn])
  clear hbx hlk e0 e1 e2 e3 e4 e5 e6 e7 e8 e9 e10 e11 e12
  go_wp2
  ·have hN : 80 ≤ zs.length := by omega
   have hcN : (80 : Nat) ≤ 80 := by omega
   rw [show (max 80 0 : Int) = 80 from rfl]
   go_loopw [26] (fun i wr => ∃ k : Nat, k ≤ 80 ∧ i = .int .i64 (k : Int) ∧ LK wr x1.heap.size g ((zs.take k).foldl Ls.doP (newLs ⟨a, b, d, m⟩ ms)) ∧ Below x1.heap.size x2 wr) (fun i _ => 80 - (intOf i).toNat)
   case atStart => exact ⟨0, Nat.zero_le _, rfl, HL2.out, Below.refl _ _⟩
   case round =>
    obtain ⟨k, hk, rfl, hlk, hb⟩ := hrel
    have HLK := Lib.hid hlk
    have HBr := Lib.hid hb
    clear hlk hb
    by_cases hlt : k < 80
    ·have hkl : k < zs.length := by omega
     obtain ⟨xa, rfl, hxB, c0⟩ := (HZ2.out.below (HBr.out.mono HBX.out)).at_ hkl
     have HST := Lib.hid (show (zs.take (k + 1)).foldl Ls.doP (newLs ⟨a, b, d, m⟩ ms) = ((zs.take k).foldl Ls.doP (newLs ⟨a, b, d, m⟩ ms)).doP zs[k] by rw [List.take_succ_eq_append_getElem hkl, List.foldl_append]; rfl)
     have hzw := HW.out zs[k] (List.getElem_mem hkl)
     generalize zs[k] = z at *
     have HZW := Lib.hid hzw
     clear hzw
     go_wp2_with fail
     refine (do_any _ (Ls.Ok.plays _ HNO.out) z HZW.out _ x1.heap.size g HLK.out).mono ?_
     rintro e w3 ⟨⟨q, rfl, _, _⟩, hk3, hb3⟩
     have HK3 := Lib.hid hk3
     have HB3 := Lib.hid (HBr.out.trans hb3)
     clear hk3 hb3
     go_wp2
     go_roundw
     case rel => exact ⟨k + 1, by omega, by go_num, by rw [HST.out]; exact HK3.out, HB3.out⟩
     case measure => simp [intOf]; omega
    ·have HTK := Lib.hid (show zs.take 80 = zs.take k by rw [show k = 80 by omega])
     have HV2 := Lib.hid (HV.out.trans (by rw [HTK.out]))
     have hokq := Ls.Ok.plays (zs.take k) HNO.out
     generalize (zs.take k).foldl Ls.doP (newLs ⟨a, b, d, m⟩ ms) = q at *
     obtain ⟨xm, xb, xg, xt, hl4⟩ := HLK.out
     obtain ⟨axm, cxm, rfl⟩ := hl4.om.reads.shape
     obtain ⟨axb, cxb, rfl⟩ := hl4.ob.reads.shape
     obtain ⟨axg, cxg, rfl⟩ := hl4.og.reads.shape
     obtain ⟨axt, cxt, rfl⟩ := hl4.ot.reads.shape
     have HL4 := Lib.hid hl4
     clear hl4
     go_wp2_with fail
     refine (shown_any q _ _ _ _ _ x1.heap.size g HL4.out).mono ?_
     rintro e w4 ⟨rfl, hb4⟩
     have HL5 := Lib.hid (HL4.out.below hb4)
     have HB5 := Lib.hid (HBr.out.trans (hb4.mono HL4.out.bw))
     have hq5 := HQ2.out.below HB5.out (by have := HSX.out; omega)
     have HB6 := Lib.hid (HB2.out.trans (HB5.out.mono HBX.out))
     obtain ⟨z0, z1, z2, z3, z4, z5, z6, z7, z8, z9, z10, z11, z12⟩ := cells13 hq5
     obtain ⟨f0, f1, f2, f3, f4, f5, f6, f7, f8, f9, f10, f11, f12⟩ := free13 hq5
     have HQ5 := Lib.hid hq5
     clear hb4 hq5
     go_wp2
     rw [HV2.out]
     have hq := set13_bk (v0 := .int .i64 q.c.codec) (v1 := .int .i64 q.c.sum) (v2 := .int .i64 q.c.most) (v3 := .int .i64 q.c.map) (v4 := .slice axm q.ms.length cxm) (v5 := .int .i64 (q.nx : Int)) (v6 := .slice axg q.gs.length cxg) (v7 := .string (bzL q.f.held)) (v8 := .bool q.f.over) (v9 := .string (bzL q.h.held)) (v10 := .bool q.h.over) (v11 := .slice axt q.ts.length cxt) (v12 := .slice axb q.bs.length cxb) HQ5.out rfl
     have hlow := HSX.out
     refine line_ret Tryz.results10 hq rfl rfl ⟨_, _, _, _, rfl, ⟨⟨?_, ?_, ?_, ?_⟩, HL5.out.ap⟩, ?_⟩
     ·exact (set13_os HL5.out.om (by omega)).mono HBX.out
     ·exact (set13_os HL5.out.og (by omega)).mono HBX.out
     ·exact (set13_os HL5.out.ot (by omega)).mono HBX.out
     ·exact (set13_os HL5.out.ob (by omega)).mono HBX.out
     ·exact set13_below HB6.out (by omega)
  ·have hN : zs.length ≤ 80 := by omega
   have hcN : (zs.length : Nat) ≤ 80 := by omega
   (try rw [show max ((zs.length : Nat) : Int) 0 = (zs.length : Int) by omega])
   go_loopw [26] (fun i wr => ∃ k : Nat, k ≤ zs.length ∧ i = .int .i64 (k : Int) ∧ LK wr x1.heap.size g ((zs.take k).foldl Ls.doP (newLs ⟨a, b, d, m⟩ ms)) ∧ Below x1.heap.size x2 wr) (fun i _ => zs.length - (intOf i).toNat)
   case atStart => exact ⟨0, Nat.zero_le _, rfl, HL2.out, Below.refl _ _⟩
   case round =>
    obtain ⟨k, hk, rfl, hlk, hb⟩ := hrel
    have HLK := Lib.hid hlk
    have HBr := Lib.hid hb
    clear hlk hb
    by_cases hlt : k < zs.length
    ·have hkl : k < zs.length := by omega
     obtain ⟨xa, rfl, hxB, c0⟩ := (HZ2.out.below (HBr.out.mono HBX.out)).at_ hkl
     have HST := Lib.hid (show (zs.take (k + 1)).foldl Ls.doP (newLs ⟨a, b, d, m⟩ ms) = ((zs.take k).foldl Ls.doP (newLs ⟨a, b, d, m⟩ ms)).doP zs[k] by rw [List.take_succ_eq_append_getElem hkl, List.foldl_append]; rfl)
     have hzw := HW.out zs[k] (List.getElem_mem hkl)
     generalize zs[k] = z at *
     have HZW := Lib.hid hzw
     clear hzw
     go_wp2_with fail
     refine (do_any _ (Ls.Ok.plays _ HNO.out) z HZW.out _ x1.heap.size g HLK.out).mono ?_
     rintro e w3 ⟨⟨q, rfl, _, _⟩, hk3, hb3⟩
     have HK3 := Lib.hid hk3
     have HB3 := Lib.hid (HBr.out.trans hb3)
     clear hk3 hb3
     go_wp2
     go_roundw
     case rel => exact ⟨k + 1, by omega, by go_num, by rw [HST.out]; exact HK3.out, HB3.out⟩
     case measure => simp [intOf]; omega
    ·have HTK := Lib.hid (show zs.take 80 = zs.take k by rw [show k = zs.length by omega, List.take_length, List.take_of_length_le (by omega)])
     have HV2 := Lib.hid (HV.out.trans (by rw [HTK.out]))
     have hokq := Ls.Ok.plays (zs.take k) HNO.out
     generalize (zs.take k).foldl Ls.doP (newLs ⟨a, b, d, m⟩ ms) = q at *
     obtain ⟨xm, xb, xg, xt, hl4⟩ := HLK.out
     obtain ⟨axm, cxm, rfl⟩ := hl4.om.reads.shape
     obtain ⟨axb, cxb, rfl⟩ := hl4.ob.reads.shape
     obtain ⟨axg, cxg, rfl⟩ := hl4.og.reads.shape
     obtain ⟨axt, cxt, rfl⟩ := hl4.ot.reads.shape
     have HL4 := Lib.hid hl4
     clear hl4
     go_wp2_with fail
     refine (shown_any q _ _ _ _ _ x1.heap.size g HL4.out).mono ?_
     rintro e w4 ⟨rfl, hb4⟩
     have HL5 := Lib.hid (HL4.out.below hb4)
     have HB5 := Lib.hid (HBr.out.trans (hb4.mono HL4.out.bw))
     have hq5 := HQ2.out.below HB5.out (by have := HSX.out; omega)
     have HB6 := Lib.hid (HB2.out.trans (HB5.out.mono HBX.out))
     obtain ⟨z0, z1, z2, z3, z4, z5, z6, z7, z8, z9, z10, z11, z12⟩ := cells13 hq5
     obtain ⟨f0, f1, f2, f3, f4, f5, f6, f7, f8, f9, f10, f11, f12⟩ := free13 hq5
     have HQ5 := Lib.hid hq5
     clear hb4 hq5
     go_wp2
     rw [HV2.out]
     have hq := set13_bk (v0 := .int .i64 q.c.codec) (v1 := .int .i64 q.c.sum) (v2 := .int .i64 q.c.most) (v3 := .int .i64 q.c.map) (v4 := .slice axm q.ms.length cxm) (v5 := .int .i64 (q.nx : Int)) (v6 := .slice axg q.gs.length cxg) (v7 := .string (bzL q.f.held)) (v8 := .bool q.f.over) (v9 := .string (bzL q.h.held)) (v10 := .bool q.h.over) (v11 := .slice axt q.ts.length cxt) (v12 := .slice axb q.bs.length cxb) HQ5.out rfl
     have hlow := HSX.out
     refine line_ret Tryz.results10 hq rfl rfl ⟨_, _, _, _, rfl, ⟨⟨?_, ?_, ?_, ?_⟩, HL5.out.ap⟩, ?_⟩
     ·exact (set13_os HL5.out.om (by omega)).mono HBX.out
     ·exact (set13_os HL5.out.og (by omega)).mono HBX.out
     ·exact (set13_os HL5.out.ot (by omega)).mono HBX.out
     ·exact (set13_os HL5.out.ob (by omega)).mono HBX.out
     ·exact set13_below HB6.out (by omega)
 ·have hzlv : (Value.agg #[.int .i64 0, .int .i64 0, .int .i64 0, .int .i64 0, .slice none 0 0, .int .i64 0, .slice none 0 0, .string ⟨#[]⟩, .bool false, .string ⟨#[]⟩, .bool false, .slice none 0 0, .slice none 0 0]) = lnV 0 0 0 0 (.slice none 0 0) 0 (.slice none 0 0) ⟨#[]⟩ false ⟨#[]⟩ false (.slice none 0 0) (.slice none 0 0) := rfl
  have HV := Lib.hid (show playRes ⟨a, b, d, m⟩ ms zs = zeroLs by unfold playRes; rw [if_neg (by rw [hn]; decide)])
  have hba := (Below.refl w1.heap.size w1).alloc (Nat.le_refl _) (.cells #[.int .i64 0, .int .i64 0, .int .i64 0, .int .i64 0, .slice none 0 0, .int .i64 0, .slice none 0 0, .string ⟨#[]⟩, .bool false, .string ⟨#[]⟩, .bool false, .slice none 0 0, .slice none 0 0] 32)
  have hl := BK.new w1 #[.int .i64 0, .int .i64 0, .int .i64 0, .int .i64 0, .slice none 0 0, .int .i64 0, .slice none 0 0, .string ⟨#[]⟩, .bool false, .string ⟨#[]⟩, .bool false, .slice none 0 0, .slice none 0 0] 32
  have HQ2 := Lib.hid (HQ1.out.from hba)
  have HB2 := Lib.hid (HB1.out.trans (hba.mono HB1.out.size))
  obtain ⟨e0, e1, e2, e3, e4, e5, e6, e7, e8, e9, e10, e11, e12⟩ := cells13 hl
  clear hba hl c0 c1 c2 c3 hzlv
  go_wp2_with fail
  refine (implLineOk_any 0 0 0 0 0 (.slice none 0 0) [] none none none 0 0 0 0 0 0 ⟨#[]⟩ ⟨#[]⟩ false false _ 0 (RS_nil _ _) (Nat.zero_le _) (by decide) (by show 0 ≤ maxLen; exact Nat.zero_le _) (by show 0 ≤ maxLen; exact Nat.zero_le _) (by simp) (fun s hs => (by cases hs))).mono ?_
  rintro e x1 ⟨rfl, hbx⟩
  rw [show lineB ⟨0, 0, 0, 0⟩ [] 0 0 ⟨(⟨#[]⟩ : ByteArray).data.toList, false⟩ ⟨(⟨#[]⟩ : ByteArray).data.toList, false⟩ 0 0 = false by decide]
  have hq := HQ2.out.from hbx
  have HB3 := Lib.hid (HB2.out.trans (hbx.mono HB2.out.size))
  obtain ⟨z0, z1, z2, z3, z4, z5, z6, z7, z8, z9, z10, z11, z12⟩ := cells13 hq
  obtain ⟨f0, f1, f2, f3, f4, f5, f6, f7, f8, f9, f10, f11, f12⟩ := free13 hq
  have hq9 := set13_bk (v0 := .int .i64 0) (v1 := .int .i64 0) (v2 := .int .i64 0) (v3 := .int .i64 0) (v4 := .slice none 0 0) (v5 := .int .i64 0) (v6 := .slice none 0 0) (v7 := .string ⟨#[]⟩) (v8 := .bool false) (v9 := .string ⟨#[]⟩) (v10 := .bool false) (v11 := .slice none 0 0) (v12 := .slice none 0 0) hq rfl
  have HQ9 := Lib.hid hq9
  have HBZ := Lib.hid (show Below w.heap.size w _ from set13_below (g := w.heap.size + 1) (v0 := .int .i64 0) (v1 := .int .i64 0) (v2 := .int .i64 0) (v3 := .int .i64 0) (v4 := .slice none 0 0) (v5 := .int .i64 0) (v6 := .slice none 0 0) (v7 := .string ⟨#[]⟩) (v8 := .bool false) (v9 := .string ⟨#[]⟩) (v10 := .bool false) (v11 := .slice none 0 0) (v12 := .slice none 0 0) HB3.out (by omega))
  clear hbx hq hq9
  go_wp2
  rw [HV.out] at *
  exact line_ret Tryz.results10 HQ9.out rfl rfl (zero_res HBZ.out)
end Go.Proofs.YtmggoiabcboaiaaGreat
namespace Go.Proofs.YtmggoiabcboaiaaGreat
open Go.ChangeShapes Go.WideShapes Go.ChangeAt Go.RowKit
theorem fWrite_clean {c : Cf} (h : confB c = true) (l : List UInt8) : endOf c ∉ writeL c l := by
 obtain ⟨h1, _⟩ := confB_yes h
 unfold writeL endOf
 split
 ·intro hm; exact (escR_mem hm).1 rfl
 ·split
  ·exact fun hm => cob_nz l _ hm rfl
  ·exact fun hm => (less_read l).1 _ hm rfl
theorem fRead_write {c : Cf} {l : List UInt8} (hl : l.length ≤ 600) : readL c (writeL c l) = (l, true) := by
 unfold readL writeL
 split
 ·rw [unR_escR]
 ·split
  ·exact getA_cob hl
  ·exact lgetA_less hl
theorem fWrite_pos {c : Cf} {l : List UInt8} (h : 0 < l.length) : 0 < (writeL c l).length := by
 unfold writeL
 split
 ·have := (escR_len c.map.toNat l).1; omega
 ·split
  ·have := (cob_size l).1; omega
  ·have := (less_size l).1; omega
theorem fPutL_pos {c : Cf} (h : confB c = true) (s : List UInt8) : 2 ≤ (putL c.sum s).length ∧ ((putL c.sum s).length : Int) = s.length + c.sum := by
 obtain ⟨_, hk, _⟩ := confB_yes h
 have hk2 := kind_or hk
 rw [putL_len]; omega
theorem fEval_send {c : Cf} {s : List UInt8} (h : sendOk c s = true) : evalL c (writeL c (putL c.sum s)) = some ⟨1, s⟩ := by
 simp only [sendOk, Bool.and_eq_true, decide_eq_true_eq] at h
 obtain ⟨hc, hl⟩ := h
 obtain ⟨_, hk, hm, _⟩ := confB_yes hc
 have hp := fPutL_pos hc s
 have hk2 := kind_or hk
 have hr : readL c (writeL c (putL c.sum s)) = (putL c.sum s, true) := fRead_write (by omega)
 have hw := fWrite_pos (c := c) (l := putL c.sum s) (by omega)
 unfold evalL
 rw [if_neg (by omega), hr, if_neg (by
  rintro ⟨h1, h5⟩
  unfold writeL at h5
  rw [if_pos h1] at h5
  exact escR_last _ _ h5), if_neg (by simp), if_neg (by rintro ⟨_, h0⟩; simp only at h0; omega)]
 congr 1
 unfold evT
 simp only
 rw [if_neg (by omega), if_neg (by omega), if_pos (getB_put hk s), cut_put]
theorem fHold_send {c : Cf} {s : List UInt8} (h : sendOk c s = true) : ((writeL c (putL c.sum s)).length : Int) ≤ holdN c := by
 simp only [sendOk, Bool.and_eq_true, decide_eq_true_eq] at h
 obtain ⟨hc, hl⟩ := h
 obtain ⟨_, hk, hm, _⟩ := confB_yes hc
 have hp := fPutL_pos hc s
 have hk2 := kind_or hk
 have := writeL_len c (putL c.sum s) (by omega)
 unfold holdN; omega
theorem fFeed_free {c : Cf} (p : List UInt8) (hp : endOf c ∉ p) : ∀ q : List UInt8, ffeed c (stOf c q) p = (stOf c (q ++ p), []) := by
 induction p with
 | nil => intro q; rw [List.append_nil]; rfl
 | cons b p ih =>
  intro q
  have hb : b ≠ endOf c := fun e => hp (by simp [e])
  rw [ffeed_cons, step_other q hb]
  simp only
  rw [ih (fun e => hp (by simp [e]))]
  simp
theorem fFeed_send {c : Cf} {s : List UInt8} (h : sendOk c s = true) : ffeed c ⟨[], false⟩ (sendL c s) = (⟨[], false⟩, [⟨1, s⟩]) := by
 have hc : confB c = true := by simp only [sendOk, Bool.and_eq_true] at h; exact h.1
 have hp := hold_pos hc
 have h0 : stOf c [] = ⟨[], false⟩ := by unfold stOf; rw [if_neg (by simp; omega)]
 unfold sendL
 rw [ffeed_append, ← h0, fFeed_free _ (fWrite_clean hc _)]
 simp only [List.nil_append]
 obtain ⟨e1, e2⟩ := step_end (c := c) (writeL c (putL c.sum s))
 rw [ffeed_cons, e1, e2]
 have hp2 : pieceE c (writeL c (putL c.sum s)) = [⟨1, s⟩] := by
  unfold pieceE
  rw [if_neg (by have := fHold_send h; omega), fEval_send h]
  rfl
 rw [hp2, h0]
 rfl
end Go.Proofs.YtmggoiabcboaiaaGreat
namespace Go.Proofs.YtmggoiabcboaiaaGreat
set_option linter.unusedVariables false
def frA (c : Cf) (ms : List ByteArray) (k : Nat) : ByteArray := bzL (sendA c (parB k :: (ms.getD k ⟨#[]⟩).data.toList))
def akA (c : Cf) (j : Nat) : ByteArray := bzL (sendA c [parB j])
theorem bzL_list (l : List UInt8) : (bzL l).data.toList = l := by unfold bzL; simp
theorem bzL_of (x : ByteArray) : bzL x.data.toList = x := by unfold bzL; simp
theorem parB_or (k : Nat) : parB k = 48 ∨ parB k = 49 := by unfold parB; split <;> simp
theorem parB_same {k j : Nat} (h : parB k = parB j) : k % 2 = j % 2 := by
 unfold parB at h
 split at h <;> split at h <;> first | omega | (exfalso; revert h; decide)
def Way4 (s : Ls) (ks js : List Nat) : Prop :=
 (s.gs.length = s.nx ∧ (∀ k ∈ ks, k = s.nx ∨ k + 1 = s.nx) ∧ ks.Pairwise (· ≤ ·) ∧ ∀ j ∈ js, j + 1 = s.nx) ∨
 (s.gs.length = s.nx + 1 ∧ (∀ k ∈ ks, k = s.nx) ∧ (∀ j ∈ js, j = s.nx ∨ j + 1 = s.nx) ∧ js.Pairwise (· ≤ ·))
structure InvAt (s : Ls) (ks js : List Nat) : Prop where
 ok : s.Ok
 rf : s.f = ⟨[], false⟩
 rh : s.h = ⟨[], false⟩
 gp : s.gs = s.ms.take s.gs.length
 ts : s.ts = ks.map (frA s.c s.ms)
 bs : s.bs = js.map (akA s.c)
 kl : ∀ k ∈ ks, k < s.ms.length
 jl : ∀ j ∈ js, j < s.ms.length
 wy : Way4 s ks js
def Inv (s : Ls) : Prop := ∃ ks js, InvAt s ks js
theorem frame_ok {s : Ls} (h : s.Ok) {k : Nat} (hk : k < s.ms.length) : sendOk s.c (parB k :: (s.ms.getD k ⟨#[]⟩).data.toList) = true := by
 have h1 := h.mz s.ms[k] (List.getElem_mem hk)
 rw [show s.ms.getD k ⟨#[]⟩ = s.ms[k] by simp [List.getD, hk]]
 unfold sendOk
 simp only [h.conf, Bool.true_and, decide_eq_true_eq, List.length_cons, size_list]
 omega
theorem ack_ok {s : Ls} (h : s.Ok) {k : Nat} (hk : k < s.ms.length) : sendOk s.c [parB k] = true := by
 have h1 := h.mz s.ms[k] (List.getElem_mem hk)
 unfold sendOk
 simp only [h.conf, Bool.true_and, decide_eq_true_eq, List.length_cons, List.length_nil]
 omega
theorem fed_frame {c : Cf} {l : List UInt8} (h : sendOk c l = true) : ffeed c ⟨[], false⟩ (bzL (sendA c l)).data.toList = (⟨[], false⟩, [⟨1, l⟩]) := by
 rw [bzL_list, wSendA_yes h, fFeed_send h]
theorem new_inv {c : Cf} {ms : List ByteArray} (h : (⟨c, ms, 0, [], ⟨[], false⟩, ⟨[], false⟩, [], []⟩ : Ls).Ok) : Inv ⟨c, ms, 0, [], ⟨[], false⟩, ⟨[], false⟩, [], []⟩ :=
 ⟨[], [], h, rfl, rfl, by simp, rfl, rfl, fun _ h => (by cases h), fun _ h => (by cases h), .inl ⟨rfl, fun _ h => (by cases h), List.Pairwise.nil, fun _ h => (by cases h)⟩⟩
theorem send_inv {s : Ls} {ks js : List Nat} (h : InvAt s ks js) (hn : s.nx < s.ms.length) (ht : s.ts.length < 5) : s.sendP = { s with ts := s.ts ++ [frA s.c s.ms s.nx] } ∧ InvAt s.sendP (ks ++ [s.nx]) js := by
 have e : s.sendP = { s with ts := s.ts ++ [frA s.c s.ms s.nx] } := by unfold Ls.sendP; rw [if_pos ⟨hn, ht⟩]; rfl
 refine ⟨e, ?_⟩
 have hok := h.ok.sendP
 rw [e] at hok ⊢
 refine ⟨hok, h.rf, h.rh, h.gp, by rw [List.map_append, ← h.ts]; rfl, h.bs, ?_, h.jl, ?_⟩
 ·intro k hk
  rcases List.mem_append.1 hk with h1 | h1
  ·exact h.kl k h1
  ·rw [List.mem_singleton.1 h1]; exact hn
 ·rcases h.wy with ⟨h1, h2, h3, h4⟩ | ⟨h1, h2, h3, h4⟩
  ·refine .inl ⟨h1, ?_, ?_, h4⟩
   ·intro k hk
    rcases List.mem_append.1 hk with h5 | h5
    ·exact h2 k h5
    ·exact .inl (List.mem_singleton.1 h5)
   ·rw [List.pairwise_append]
    refine ⟨h3, List.pairwise_singleton _ _, fun a ha b hb => ?_⟩
    rw [List.mem_singleton.1 hb]
    have := h2 a ha
    omega
  ·refine .inr ⟨h1, ?_, h3, h4⟩
   intro k hk
   rcases List.mem_append.1 hk with h5 | h5
   ·exact h2 k h5
   ·exact List.mem_singleton.1 h5
theorem sendP_inv {s : Ls} (h : Inv s) : Inv s.sendP := by
 obtain ⟨ks, js, h⟩ := h
 by_cases hc : s.nx < s.ms.length ∧ s.ts.length < 5
 ·exact ⟨_, _, (send_inv h hc.1 hc.2).2⟩
 ·rw [show s.sendP = s by unfold Ls.sendP; rw [if_neg hc]]; exact ⟨_, _, h⟩
theorem there_eq {s : Ls} {k : Nat} {r : List Nat} {js : List Nat} (h : InvAt s (k :: r) js) :
  s.there = (({ s with ts := r.map (frA s.c s.ms) } : Ls).kept (parB k) (s.ms.getD k ⟨#[]⟩).data.toList).told (parB k) := by
 have hk := h.kl k (by simp)
 have ht : s.ts = frA s.c s.ms k :: r.map (frA s.c s.ms) := h.ts
 have hfed := fed_frame (frame_ok h.ok hk)
 unfold Ls.there
 rw [ht]
 simp only
 rw [h.rf]
 unfold frA at hfed ⊢
 rw [hfed]
 show (framesL [(⟨1, _⟩ : Ev)]).foldl Ls.takeP _ = _
 rw [show framesL [(⟨1, parB k :: (s.ms.getD k ⟨#[]⟩).data.toList⟩ : Ev)] = [bzL (parB k :: (s.ms.getD k ⟨#[]⟩).data.toList)] from rfl]
 simp only [List.foldl_cons, List.foldl_nil]
 unfold Ls.takeP
 rw [bzL_list]
 simp only [Ls.takeL]
 rw [if_pos (parB_or k)]
theorem told_bs (s : Ls) (b : UInt8) : ∃ l, (s.told b).bs = s.bs ++ l ∧ (l = [] ∨ l = [bzL (sendA s.c [b])]) ∧ (s.bs = [] → l = [bzL (sendA s.c [b])]) ∧ s.told b = { s with bs := s.bs ++ l } := by
 unfold Ls.told
 split
 ·exact ⟨_, rfl, .inr rfl, fun _ => rfl, rfl⟩
 ·rename_i hc
  refine ⟨[], by simp, .inl rfl, fun h0 => absurd (by rw [h0]; decide) hc, by simp⟩
theorem there_at {s : Ls} {k : Nat} {r : List Nat} {js : List Nat} (h : InvAt s (k :: r) js) : ∃ js', InvAt s.there r js' ∧ s.there.nx = s.nx ∧ s.there.c = s.c ∧ s.there.ms = s.ms ∧ (js = [] → js' = [k]) := by
 have hk := h.kl k (by simp)
 have hok := h.ok.there
 have he := there_eq h
 obtain ⟨l, _, hl, hl0, ht⟩ := told_bs (({ s with ts := r.map (frA s.c s.ms) } : Ls).kept (parB k) (s.ms.getD k ⟨#[]⟩).data.toList) (parB k)
 rw [ht] at he
 have hkeep : ({ s with ts := r.map (frA s.c s.ms) } : Ls).kept (parB k) (s.ms.getD k ⟨#[]⟩).data.toList = if parB k = parB s.gs.length ∧ s.gs.length < s.ms.length then { s with ts := r.map (frA s.c s.ms), gs := s.gs ++ [bzL (s.ms.getD k ⟨#[]⟩).data.toList] } else { s with ts := r.map (frA s.c s.ms) } := rfl
 have hkr : ∀ x ∈ r, x < s.ms.length := fun x hx => h.kl x (by simp [hx])
 by_cases hc : parB k = parB s.gs.length ∧ s.gs.length < s.ms.length
 ·rw [if_pos hc] at hkeep
  rw [hkeep] at he hl hl0
  simp only at he hl hl0
  have hpar := parB_same hc.1
  rcases h.wy with ⟨h1, h2, h3, h4⟩ | ⟨h1, h2, h3, h4⟩
  ·have hkn : k = s.nx := by have := h2 k (by simp); omega
   have hls : ∃ l2 : List Nat, l = l2.map (akA s.c) ∧ (∀ j ∈ l2, j = s.nx) ∧ l2.Pairwise (· ≤ ·) ∧ (s.bs = [] → l2 = [k]) := by
    rcases hl with rfl | rfl
    ·exact ⟨[], rfl, fun _ h => (by cases h), List.Pairwise.nil, fun h0 => by have := hl0 h0; cases this⟩
    ·exact ⟨[k], rfl, fun j hj => by rw [List.mem_singleton.1 hj]; exact hkn, List.pairwise_singleton _ _, fun _ => rfl⟩
   obtain ⟨l2, hl2, hl3, hl4, hl5⟩ := hls
   rw [he] at hok ⊢
   refine ⟨js ++ l2, ⟨hok, h.rf, h.rh, ?_, rfl, ?_, hkr, ?_, .inr ⟨?_, ?_, ?_, ?_⟩⟩, rfl, rfl, rfl, ?_⟩
   ·show s.gs ++ [bzL (s.ms.getD k ⟨#[]⟩).data.toList] = s.ms.take (s.gs ++ [bzL (s.ms.getD k ⟨#[]⟩).data.toList]).length
    rw [bzL_of, List.length_append, List.length_singleton, List.take_succ_eq_append_getElem hc.2, ← h.gp]
    have hg := hc.2
    have hkg : k = s.gs.length := by omega
    rw [show s.ms.getD k ⟨#[]⟩ = s.ms[s.gs.length] by simp [List.getD, hkg, hg]]
   ·show s.bs ++ l = (js ++ l2).map (akA s.c)
    rw [List.map_append, ← h.bs, hl2]
   ·intro j hj
    rcases List.mem_append.1 hj with h5 | h5
    ·exact h.jl j h5
    ·rw [hl3 j h5, ← hkn]; exact hk
   ·show (s.gs ++ [_]).length = s.nx + 1
    rw [List.length_append, List.length_singleton, h1]
   ·intro x hx
    have h5 := h2 x (by simp [hx])
    have h6 := (List.pairwise_cons.1 h3).1 x hx
    show x = s.nx
    omega
   ·intro j hj
    show j = s.nx ∨ j + 1 = s.nx
    rcases List.mem_append.1 hj with h5 | h5
    ·exact .inr (h4 j h5)
    ·exact .inl (hl3 j h5)
   ·rw [List.pairwise_append]
    refine ⟨?_, hl4, fun a ha b hb => ?_⟩
    ·rw [List.pairwise_iff_getElem]
     intro i j hi hj _
     have h5 := h4 _ (List.getElem_mem hi)
     have h6 := h4 _ (List.getElem_mem hj)
     omega
    ·have h5 := h4 a ha
     have h6 := hl3 b hb
     omega
   ·intro hj
    rw [hj, List.nil_append]
    exact hl5 (by rw [h.bs, hj]; rfl)
  ·exfalso
   have := h2 k (by simp)
   omega
 ·rw [if_neg hc] at hkeep
  rw [hkeep] at he hl hl0
  simp only at he hl hl0
  have hls : ∃ l2 : List Nat, l = l2.map (akA s.c) ∧ (∀ j ∈ l2, j = k) ∧ l2.Pairwise (· ≤ ·) ∧ (s.bs = [] → l2 = [k]) := by
   rcases hl with rfl | rfl
   ·exact ⟨[], rfl, fun _ h => (by cases h), List.Pairwise.nil, fun h0 => by have := hl0 h0; cases this⟩
   ·exact ⟨[k], rfl, fun j hj => List.mem_singleton.1 hj, List.pairwise_singleton _ _, fun _ => rfl⟩
  obtain ⟨l2, hl2, hl3, hl4, hl5⟩ := hls
  have hkne : k ≠ s.gs.length := fun e => hc ⟨by rw [e], by omega⟩
  rw [he] at hok ⊢
  refine ⟨js ++ l2, ⟨hok, h.rf, h.rh, h.gp, rfl, ?_, hkr, ?_, ?_⟩, rfl, rfl, rfl, ?_⟩
  ·show s.bs ++ l = (js ++ l2).map (akA s.c)
   rw [List.map_append, ← h.bs, hl2]
  ·intro j hj
   rcases List.mem_append.1 hj with h5 | h5
   ·exact h.jl j h5
   ·rw [hl3 j h5]; exact hk
  ·rcases h.wy with ⟨h1, h2, h3, h4⟩ | ⟨h1, h2, h3, h4⟩
   ·refine .inl ⟨h1, fun x hx => h2 x (by simp [hx]), (List.pairwise_cons.1 h3).2, fun j hj => ?_⟩
    rcases List.mem_append.1 hj with h5 | h5
    ·exact h4 j h5
    ·rw [hl3 j h5]
     show k + 1 = s.nx
     have := h2 k (by simp)
     omega
   ·have hkn := h2 k (by simp)
    refine .inr ⟨h1, fun x hx => h2 x (by simp [hx]), fun j hj => ?_, ?_⟩
    ·rcases List.mem_append.1 hj with h5 | h5
     ·exact h3 j h5
     ·rw [hl3 j h5]; exact .inl hkn
    ·rw [List.pairwise_append]
     refine ⟨h4, hl4, fun a ha b hb => ?_⟩
     have h5 := h3 a ha
     have h6 := hl3 b hb
     omega
  ·intro hj
   rw [hj, List.nil_append]
   exact hl5 (by rw [h.bs, hj]; rfl)
theorem there_inv {s : Ls} (h : Inv s) : Inv s.there := by
 obtain ⟨ks, js, h⟩ := h
 cases ks with
 | nil => rw [show s.there = s by unfold Ls.there; rw [h.ts]; rfl]; exact ⟨_, _, h⟩
 | cons k r => obtain ⟨js', h', _⟩ := there_at h; exact ⟨_, _, h'⟩
theorem here_at {s : Ls} {j : Nat} {r ks : List Nat} (h : InvAt s ks (j :: r)) : InvAt s.here ks r ∧ s.here.nx = (if j = s.nx then s.nx + 1 else s.nx) ∧ s.here.c = s.c ∧ s.here.ms = s.ms := by
 have hj := h.jl j (by simp)
 have hok := h.ok.here
 have hb : s.bs = akA s.c j :: r.map (akA s.c) := h.bs
 have hfed := fed_frame (ack_ok h.ok hj)
 have he : s.here = ({ s with bs := r.map (akA s.c) } : Ls).confP (bzL [parB j]) := by
  unfold Ls.here
  rw [hb]
  simp only
  rw [h.rh]
  unfold akA at hfed ⊢
  rw [hfed]
  show (framesL [(⟨1, _⟩ : Ev)]).foldl Ls.confP _ = _
  rw [show framesL [(⟨1, [parB j]⟩ : Ev)] = [bzL [parB j]] from rfl]
  simp only [List.foldl_cons, List.foldl_nil]
 have hconf : ({ s with bs := r.map (akA s.c) } : Ls).confP (bzL [parB j]) = if bzL [parB j] = ⟨#[parB s.nx]⟩ ∧ s.nx < s.ms.length then { s with bs := r.map (akA s.c), nx := s.nx + 1 } else { s with bs := r.map (akA s.c) } := rfl
 have hjr : ∀ x ∈ r, x < s.ms.length := fun x hx => h.jl x (by simp [hx])
 have hgl := h.ok.gl
 by_cases hjn : j = s.nx
 ·have hc : bzL [parB j] = ⟨#[parB s.nx]⟩ ∧ s.nx < s.ms.length := ⟨by rw [hjn]; rfl, by rw [← hjn]; exact hj⟩
  rw [hconf, if_pos hc] at he
  rw [if_pos hjn]
  rw [he] at hok ⊢
  refine ⟨⟨hok, h.rf, h.rh, h.gp, h.ts, rfl, h.kl, hjr, .inl ?_⟩, rfl, rfl, rfl⟩
  rcases h.wy with ⟨h1, h2, h3, h4⟩ | ⟨h1, h2, h3, h4⟩
  ·exfalso
   have := h4 j (by simp)
   omega
  ·refine ⟨h1, fun k hk => .inr ?_, ?_, fun x hx => ?_⟩
   ·show k + 1 = s.nx + 1
    rw [h2 k hk]
   ·rw [List.pairwise_iff_getElem]
    intro a b ha hb _
    rw [h2 _ (List.getElem_mem ha), h2 _ (List.getElem_mem hb)]
    exact Nat.le_refl _
   ·show x + 1 = s.nx + 1
    have h5 := h3 x (by simp [hx])
    have h6 := (List.pairwise_cons.1 h4).1 x hx
    omega
 ·have hc : ¬ (bzL [parB j] = ⟨#[parB s.nx]⟩ ∧ s.nx < s.ms.length) := by
   rintro ⟨h5, _⟩
   have h6 : parB j = parB s.nx := by
    have h7 : (bzL [parB j]).data.toList = (⟨#[parB s.nx]⟩ : ByteArray).data.toList := by rw [h5]
    rw [bzL_list] at h7
    simpa using h7
   have h8 := parB_same h6
   rcases h.wy with ⟨h1, h2, h3, h4⟩ | ⟨h1, h2, h3, h4⟩
   ·have := h4 j (by simp); omega
   ·have := h3 j (by simp); omega
  rw [hconf, if_neg hc] at he
  rw [if_neg hjn]
  rw [he] at hok ⊢
  refine ⟨⟨hok, h.rf, h.rh, h.gp, h.ts, rfl, h.kl, hjr, ?_⟩, rfl, rfl, rfl⟩
  rcases h.wy with ⟨h1, h2, h3, h4⟩ | ⟨h1, h2, h3, h4⟩
  ·exact .inl ⟨h1, h2, h3, fun x hx => h4 x (by simp [hx])⟩
  ·exact .inr ⟨h1, h2, fun x hx => h3 x (by simp [hx]), (List.pairwise_cons.1 h4).2⟩
theorem here_inv {s : Ls} (h : Inv s) : Inv s.here := by
 obtain ⟨ks, js, h⟩ := h
 cases js with
 | nil => rw [show s.here = s by unfold Ls.here; rw [h.bs]; rfl]; exact ⟨_, _, h⟩
 | cons j r => exact ⟨_, _, (here_at h).1⟩
theorem part_inv {s : Ls} {ks js ks' js' : List Nat} {ts' bs' : List ByteArray} (h : InvAt s ks js) (hok : ({ s with ts := ts', bs := bs' } : Ls).Ok) (ht : ts' = ks'.map (frA s.c s.ms)) (hb : bs' = js'.map (akA s.c)) (hk : ∀ k ∈ ks', k ∈ ks) (hj : ∀ j ∈ js', j ∈ js) (hkp : ks.Pairwise (· ≤ ·) → ks'.Pairwise (· ≤ ·)) (hjp : js.Pairwise (· ≤ ·) → js'.Pairwise (· ≤ ·)) : InvAt { s with ts := ts', bs := bs' } ks' js' := by
 refine ⟨hok, h.rf, h.rh, h.gp, ht, hb, fun k h1 => h.kl k (hk k h1), fun j h1 => h.jl j (hj j h1), ?_⟩
 rcases h.wy with ⟨h1, h2, h3, h4⟩ | ⟨h1, h2, h3, h4⟩
 ·exact .inl ⟨h1, fun k h5 => h2 k (hk k h5), hkp h3, fun j h5 => h4 j (hj j h5)⟩
 ·exact .inr ⟨h1, fun k h5 => h2 k (hk k h5), fun j h5 => h3 j (hj j h5), hjp h4⟩
theorem twice_map {f : Nat → ByteArray} (ks : List Nat) : ∃ ks' : List Nat, twiceL (ks.map f) = ks'.map f ∧ (∀ k ∈ ks', k ∈ ks) ∧ (ks.Pairwise (· ≤ ·) → ks'.Pairwise (· ≤ ·)) := by
 cases ks with
 | nil => exact ⟨[], rfl, fun _ h => h, fun h => h⟩
 | cons k r =>
  unfold twiceL
  simp only [List.map_cons]
  split
  ·refine ⟨k :: k :: r, rfl, fun x hx => by simpa using hx, fun h => ?_⟩
   rw [List.pairwise_cons]
   refine ⟨fun x hx => ?_, h⟩
   rcases List.mem_cons.1 hx with h1 | h1
   ·rw [h1]; exact Nat.le_refl _
   ·exact (List.pairwise_cons.1 h).1 x h1
  ·exact ⟨k :: r, rfl, fun _ h => h, fun h => h⟩
theorem doP_inv {s : Ls} (h : Inv s) (k : Int) : Inv (s.doP k) := by
 have hok : (s.doP k).Ok := by obtain ⟨_, _, h⟩ := h; exact h.ok.doP k
 unfold Ls.doP at hok ⊢
 split
 ·exact sendP_inv h
 split
 ·exact there_inv h
 split
 ·exact here_inv h
 rename_i h1 h2 h3
 rw [if_neg h1, if_neg h2, if_neg h3] at hok
 obtain ⟨ks, js, h⟩ := h
 split
 ·rename_i h4
  rw [if_pos h4] at hok
  exact ⟨ks.tail, js, part_inv (bs' := s.bs) h hok (by rw [h.ts, List.map_tail]) h.bs (fun x hx => List.mem_of_mem_tail hx) (fun _ h => h) (fun h => h.tail) (fun h => h)⟩
 rename_i h4
 rw [if_neg h4] at hok
 split
 ·rename_i h5
  rw [if_pos h5] at hok
  exact ⟨ks, js.tail, part_inv (ts' := s.ts) h hok h.ts (by rw [h.bs, List.map_tail]) (fun _ h => h) (fun x hx => List.mem_of_mem_tail hx) (fun h => h) (fun h => h.tail)⟩
 rename_i h5
 rw [if_neg h5] at hok
 split
 ·rename_i h6
  rw [if_pos h6] at hok
  obtain ⟨ks', e1, e2, e3⟩ := twice_map (f := frA s.c s.ms) ks
  exact ⟨ks', js, part_inv (bs' := s.bs) h hok (by rw [h.ts]; exact e1) h.bs e2 (fun _ h => h) e3 (fun h => h)⟩
 rename_i h6
 rw [if_neg h6] at hok
 split
 ·rename_i h7
  rw [if_pos h7] at hok
  obtain ⟨js', e1, e2, e3⟩ := twice_map (f := akA s.c) js
  exact ⟨ks, js', part_inv (ts' := s.ts) h hok h.ts (by rw [h.bs]; exact e1) (fun _ h => h) e2 (fun h => h) e3⟩
 ·exact ⟨_, _, h⟩
theorem plays_inv (l : List Int) : ∀ {s : Ls}, Inv s → Inv (l.foldl Ls.doP s) := by
 induction l with
 | nil => intro s h; exact h
 | cons z r ih => intro s h; exact ih (doP_inv h z)
theorem allT_at : ∀ (ks : List Nat) (s : Ls) (js : List Nat), InvAt s ks js → ∃ js', InvAt s.allT [] js' ∧ s.allT.nx = s.nx ∧ s.allT.ms = s.ms ∧ (∀ k, ks = [k] → js = [] → js' = [k]) := by
 intro ks
 induction ks with
 | nil => intro s js h; rw [allT_nil h.ts]; exact ⟨js, h, rfl, rfl, fun k hk => by cases hk⟩
 | cons k r ih =>
  intro s js h
  rw [← allT_cons (s := s) (by rw [h.ts]; simp)]
  obtain ⟨js1, h1, e1, e2, e3, e4⟩ := there_at h
  obtain ⟨js2, h2, f1, f2, f3⟩ := ih _ _ h1
  refine ⟨js2, h2, f1.trans e1, f2.trans e3, fun k' hk hj => ?_⟩
  injection hk with hk1 hk2
  subst hk2
  rw [allT_nil h1.ts] at h2
  have h5 : js2.map (akA s.there.c) = js1.map (akA s.there.c) := h2.bs.symm.trans h1.bs
  have h6 := e4 hj
  rw [h6] at h5
  cases js2 with
  | nil => simp at h5
  | cons a b =>
   cases b with
   | cons _ _ => simp at h5
   | nil =>
    have h7 := h2.wy
    have h8 := h1.wy
    rw [h6] at h8
    have hp : parB a = parB k := by
     simp only [List.map_cons, List.map_nil, List.cons.injEq, and_true] at h5
     have ha := ack_ok h2.ok (h2.jl a (by simp))
     have hb := ack_ok h1.ok (h1.jl k (by rw [h6]; simp))
     have g1 := fed_frame ha
     have g2 := fed_frame hb
     unfold akA at h5
     rw [h5, g2] at g1
     simp at g1
     exact g1.symm
    have hpp := parB_same hp
    have : a = k := by
     rcases h7 with ⟨p1, p2, p3, p4⟩ | ⟨p1, p2, p3, p4⟩ <;> rcases h8 with ⟨q1, q2, q3, q4⟩ | ⟨q1, q2, q3, q4⟩
     ·have := p4 a (by simp); have := q4 k (by simp); omega
     ·omega
     ·omega
     ·have := p3 a (by simp); have := q3 k (by simp); omega
    rw [this, hk1]
theorem allB_at : ∀ (js : List Nat) (s : Ls) (ks : List Nat), InvAt s ks js → InvAt s.allB ks [] ∧ s.nx ≤ s.allB.nx ∧ s.allB.ms = s.ms ∧ (∀ j, js = [j] → j = s.nx → s.allB.nx = s.nx + 1) := by
 intro js
 induction js with
 | nil => intro s ks h; rw [allB_nil h.bs]; exact ⟨h, Nat.le_refl _, rfl, fun j hj => by cases hj⟩
 | cons j r ih =>
  intro s ks h
  rw [← allB_cons (s := s) (by rw [h.bs]; simp)]
  obtain ⟨h1, e1, e2, e3⟩ := here_at h
  obtain ⟨h2, f1, f2, f3⟩ := ih _ _ h1
  refine ⟨h2, ?_, f2.trans e3, fun j' hj hn => ?_⟩
  ·refine Nat.le_trans ?_ f1
   rw [e1]
   split <;> omega
  ·injection hj with hj1 hj2
   subst hj2
   rw [allB_nil h1.bs, e1, if_pos (by rw [hj1]; exact hn)]
def CleanL (s : Ls) : Prop := InvAt s (if s.nx < s.ms.length then [s.nx] else []) []
theorem calm_clean {s : Ls} (h : Inv s) : CleanL s.calmP ∧ s.nx ≤ s.calmP.nx ∧ s.calmP.ms = s.ms := by
 obtain ⟨ks, js, h⟩ := h
 obtain ⟨js1, h1, e1, e2, _⟩ := allT_at ks s js h
 obtain ⟨h2, f1, f2, _⟩ := allB_at js1 s.allT [] h1
 unfold Ls.calmP
 by_cases hn : s.allT.allB.nx < s.allT.allB.ms.length
 ·obtain ⟨g1, g2⟩ := send_inv h2 hn (by rw [h2.ts]; simp)
  refine ⟨?_, ?_, ?_⟩
  ·unfold CleanL
   have : s.allT.allB.sendP.nx = s.allT.allB.nx ∧ s.allT.allB.sendP.ms = s.allT.allB.ms := by rw [g1]; exact ⟨rfl, rfl⟩
   rw [this.1, this.2, if_pos hn]
   exact g2
  ·rw [g1]; show s.nx ≤ s.allT.allB.nx; omega
  ·rw [g1]; exact f2.trans e2
 ·have hs : s.allT.allB.sendP = s.allT.allB := by unfold Ls.sendP; rw [if_neg (fun h => hn h.1)]
  rw [hs]
  refine ⟨?_, by omega, f2.trans e2⟩
  unfold CleanL
  rw [if_neg hn]
  exact h2
theorem calm_next {s : Ls} (h : CleanL s) (hn : s.nx < s.ms.length) : s.nx + 1 ≤ s.calmP.nx := by
 unfold CleanL at h
 rw [if_pos hn] at h
 obtain ⟨js1, h1, e1, e2, e3⟩ := allT_at [s.nx] s [] h
 have hj := e3 _ rfl rfl
 subst hj
 obtain ⟨h2, f1, f2, f3⟩ := allB_at [s.nx] s.allT [] h1
 have h4 := f3 _ rfl e1.symm
 unfold Ls.calmP Ls.sendP
 split
 ·show s.nx + 1 ≤ s.allT.allB.nx; omega
 ·omega
theorem calm_reach {s : Ls} (h : Inv s) : ∀ n, CleanL (Ls.calmN (n + 1) s) ∧ (Ls.calmN (n + 1) s).ms = s.ms ∧ (n ≤ (Ls.calmN (n + 1) s).nx ∨ s.ms.length ≤ (Ls.calmN (n + 1) s).nx)
 | 0 => by
  obtain ⟨h1, h2, h3⟩ := calm_clean h
  exact ⟨h1, h3, .inl (Nat.zero_le _)⟩
 | n + 1 => by
  obtain ⟨h1, h2, h3⟩ := calm_reach h n
  obtain ⟨g1, g2, g3⟩ := calm_clean (s := Ls.calmN (n + 1) s) ⟨_, _, h1⟩
  refine ⟨g1, g3.trans h2, ?_⟩
  show n + 1 ≤ (Ls.calmN (n + 1) s).calmP.nx ∨ s.ms.length ≤ (Ls.calmN (n + 1) s).calmP.nx
  by_cases hn : (Ls.calmN (n + 1) s).nx < (Ls.calmN (n + 1) s).ms.length
  ·have := calm_next h1 hn
   rcases h3 with h3 | h3
   ·left; omega
   ·right; omega
  ·rw [h2] at hn
   right; omega
theorem calm_all {s : Ls} (h : Inv s) : (Ls.calmN 12 s).gs = s.ms ∧ (Ls.calmN 12 s).nx = s.ms.length ∧ (Ls.calmN 12 s).ms = s.ms := by
 obtain ⟨h1, h2, h3⟩ := calm_reach h 11
 have hml : s.ms.length ≤ 6 := by obtain ⟨_, _, h⟩ := h; exact h.ok.ml
 have h4 := h1.ok.nxl
 rw [show (11 + 1 : Nat) = 12 from rfl] at h1 h2 h3 h4
 rw [h2] at h4
 have hnx : (Ls.calmN 12 s).nx = s.ms.length := by omega
 refine ⟨?_, hnx, h2⟩
 have h5 := h1.gp
 have h6 := h1.ok.gl
 rw [h2] at h5 h6
 have hgl : (Ls.calmN 12 s).gs.length = s.ms.length := by
  rcases h1.wy with ⟨p1, _⟩ | ⟨p1, _⟩
  ·omega
  ·omega
 rw [h5, hgl, List.take_length]
theorem inv_says {s : Ls} (h : Inv s) : s.gs = s.ms.take s.gs.length ∧ (s.nx = s.gs.length ∨ s.nx + 1 = s.gs.length) := by
 obtain ⟨ks, js, h⟩ := h
 refine ⟨h.gp, ?_⟩
 rcases h.wy with ⟨p1, _⟩ | ⟨p1, _⟩
 ·left; omega
 ·right; omega
end Go.Proofs.YtmggoiabcboaiaaGreat
