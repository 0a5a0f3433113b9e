/- Parts of a proof, 31: LkU LkT LkY. -/
import Derived.Test.YtmggoiabcboaiaaGreatZc1
import Derived.Test.YtmggoiabcboaiaaGreatZc2
import Derived.Test.YtmggoiabcboaiaaGreatZc3
import Derived.Test.YtmggoiabcboaiaaGreatZc4
import Derived.Test.YtmggoiabcboaiaaGreatZc5
import Derived.Test.YtmggoiabcboaiaaGreatZc6
import Derived.Test.YtmggoiabcboaiaaGreatZc7
import Derived.Test.YtmggoiabcboaiaaGreatZc8
import Derived.Test.YtmggoiabcboaiaaGreatZc9
import Derived.Test.YtmggoiabcboaiaaGreatZc10
import Derived.Test.YtmggoiabcboaiaaGreatZc11
import Derived.Test.YtmggoiabcboaiaaGreatZc12
import Derived.Test.YtmggoiabcboaiaaGreatZc13
import Derived.Test.YtmggoiabcboaiaaGreatZc15
import Derived.Test.YtmggoiabcboaiaaGreatZc16
import Derived.Test.YtmggoiabcboaiaaGreatZc17
import Derived.Test.YtmggoiabcboaiaaGreatZc18
import Derived.Test.YtmggoiabcboaiaaGreatZc19
import Derived.Test.YtmggoiabcboaiaaGreatZc20
import Derived.Test.YtmggoiabcboaiaaGreatZc21
import Derived.Test.YtmggoiabcboaiaaGreatZc22
import Derived.Test.YtmggoiabcboaiaaGreatZc23
import Derived.Test.YtmggoiabcboaiaaGreatZc24
import Derived.Test.YtmggoiabcboaiaaGreatZc25
import Derived.Test.YtmggoiabcboaiaaGreatZc26
import Derived.Test.YtmggoiabcboaiaaGreatZc27
import Derived.Test.YtmggoiabcboaiaaGreatZc29
import Derived.Test.YtmggoiabcboaiaaGreatZc30
namespace Go.Proofs.YtmggoiabcboaiaaGreat
open Go.ChangeShapes Go.WideShapes Go.ChangeAt Go.RowKit
set_option linter.unusedVariables false
def newLs (c : Cf) (ms : List ByteArray) : Ls := ⟨c, ms, 0, [], ⟨[], false⟩, ⟨[], false⟩, [], []⟩
def playRes (c : Cf) (ms : List ByteArray) (zs : List Int) : Ls := if newB c ms = true then (zs.take 80).foldl Ls.doP (newLs c ms) else zeroLs
theorem newLs_ok {c : Cf} {ms : List ByteArray} (h : newB c ms = true) : (newLs c ms).Ok := by
 have h0 := (lineB_new c ms).trans h
 unfold lineB at h0
 simp only [Bool.and_eq_true, decide_eq_true_eq] at h0
 obtain ⟨h1, h2, h3, -⟩ := h0
 have h3' := h3
 simp only [msgsB, Bool.and_eq_true, decide_eq_true_eq, List.all_eq_true] at h3'
 exact ⟨(okF_yes h1).1, h1, h2, h3'.2, fun x hx => h3'.1 x hx, Nat.zero_le _, Nat.zero_le _, fun _ h => (by cases h), Nat.zero_le _, fun _ h => (by cases h), Nat.zero_le _, fun _ h => (by cases h)⟩
theorem Ls.Ok.plays (l : List Int) : ∀ {s : Ls}, s.Ok → (l.foldl Ls.doP s).Ok := by
 induction l with
 | nil => intro s h; exact h
 | cons z r ih => intro s h; exact ih (h.doP z)
set_option maxRecDepth 100000 in
set_option maxHeartbeats 2000000 in
theorem implLinePlay_any (a b d m : Int) (vm : Value) (ms : List ByteArray) (vz : Value) (zs : List Int) (w : World) (B : Nat) (h : RS w B vm ms) (hz : RZ w B vz zs) (hB : B ≤ w.heap.size)
  (wa : (Lit.int .i64 a).wf = true) (hl : ms.length ≤ 1048576) (hs : ∀ s ∈ ms, s.size ≤ 1048576) (hzl : zs.length ≤ maxLen) (hzw : ∀ z ∈ zs, (Lit.int .i64 z).wf = true) :
  Calls Tryz.prog 10 #[cfV a b d m, vm, vz] w (ResL w (playRes ⟨a, b, d, m⟩ ms zs)) := by
 obtain ⟨am, cm, rfl⟩ := h.shape
 obtain ⟨az, cz, rfl⟩ := hz.shape
 have hroom := hz.room
 have hzln := zero_line
 have hk := (BK.new w #[.int .i64 a, .int .i64 b, .int .i64 d, .int .i64 m] 24).alloc (.cells #[.int .i64 0, .int .i64 0, .int .i64 0, .int .i64 0, .slice none 0 0, .int .i64 0, .slice none 0 0, .string ⟨#[]⟩, .bool false, .string ⟨#[]⟩, .bool false, .slice none 0 0, .slice none 0 0] 32)
 have hq := BK.new (w.alloc (.cells #[.int .i64 a, .int .i64 b, .int .i64 d, .int .i64 m] 24)) #[.int .i64 0, .int .i64 0, .int .i64 0, .int .i64 0, .slice none 0 0, .int .i64 0, .slice none 0 0, .string ⟨#[]⟩, .bool false, .string ⟨#[]⟩, .bool false, .slice none 0 0, .slice none 0 0] 32
 rw [World.size_alloc] at hq
 have hb := ((Below.refl w.heap.size w).alloc (Nat.le_refl _) (.cells #[.int .i64 a, .int .i64 b, .int .i64 d, .int .i64 m] 24)).alloc (by simp) (.cells #[.int .i64 0, .int .i64 0, .int .i64 0, .int .i64 0, .slice none 0 0, .int .i64 0, .slice none 0 0, .string ⟨#[]⟩, .bool false, .string ⟨#[]⟩, .bool false, .slice none 0 0, .slice none 0 0] 32)
 have HM := Lib.hid ((h.mono hB).below hb)
 have HZ := Lib.hid ((hz.mono hB).below hb)
 have HB := Lib.hid hb
 have HQ := Lib.hid hq
 obtain ⟨c0, c1, c2, c3⟩ : _ ∧ _ ∧ _ ∧ _ := ⟨hk.cell (i := 0) rfl, hk.cell (i := 1) rfl, hk.cell (i := 2) rfl, hk.cell (i := 3) rfl⟩
 have HL := Lib.hid hl
 have HS := Lib.hid hs
 have HW := Lib.hid hzw
 clear h hz hk hq hb hs hl hzw
 go_enter Tryz.func10, Tryz.ntmps10
 go_wp2_with fail
 refine (implLineNew_any a b d m _ ms _ w.heap.size HM.out HB.out.size wa HL.out HS.out).mono ?_
 rintro e w1 hnew
 have HNEW := Lib.hid hnew
 have hb1 : Below (((w.alloc (.cells #[.int .i64 a, .int .i64 b, .int .i64 d, .int .i64 m] 24)).alloc (.cells #[.int .i64 0, .int .i64 0, .int .i64 0, .int .i64 0, .slice none 0 0, .int .i64 0, .slice none 0 0, .string ⟨#[]⟩, .bool false, .string ⟨#[]⟩, .bool false, .slice none 0 0, .slice none 0 0] 32)).heap.size) ((w.alloc (.cells #[.int .i64 a, .int .i64 b, .int .i64 d, .int .i64 m] 24)).alloc (.cells #[.int .i64 0, .int .i64 0, .int .i64 0, .int .i64 0, .slice none 0 0, .int .i64 0, .slice none 0 0, .string ⟨#[]⟩, .bool false, .string ⟨#[]⟩, .bool false, .slice none 0 0, .slice none 0 0] 32)) w1 := by
  rcases hnew with ⟨_, _, _, _, h⟩ | ⟨_, _, h⟩ <;> exact h
 have HQ1 := Lib.hid (HQ.out.from hb1)
 have HM1 := Lib.hid (HM.out.below (hb1.mono HB.out.size))
 have HZ1 := Lib.hid (HZ.out.below (hb1.mono HB.out.size))
 have HB1 := Lib.hid (HB.out.trans (hb1.mono HB.out.size))
 have hs1 : w.heap.size + 2 ≤ w1.heap.size := by have := hb1.size; simp at this; omega
 have HS1 := Lib.hid hs1
 clear hb1 HM HZ hs1
 rcases HNEW.out with ⟨hn, v1, rfl, hown, -⟩ | ⟨hn, rfl, -⟩
 ·obtain ⟨A1, C1, hsh⟩ := hown.reads.shape
  subst hsh
  have hba := (Below.refl w1.heap.size w1).alloc (Nat.le_refl _) (.cells #[.int .i64 a, .int .i64 b, .int .i64 d, .int .i64 m, .slice A1 ms.length C1, .int .i64 0, .slice none 0 0, .string ⟨#[]⟩, .bool false, .string ⟨#[]⟩, .bool false, .slice none 0 0, .slice none 0 0] 32)
  have hl := BK.new w1 #[.int .i64 a, .int .i64 b, .int .i64 d, .int .i64 m, .slice A1 ms.length C1, .int .i64 0, .slice none 0 0, .string ⟨#[]⟩, .bool false, .string ⟨#[]⟩, .bool false, .slice none 0 0, .slice none 0 0] 32
  have HLB := Lib.hid hl
  have HO := Lib.hid (hown.below hba)
  have HQ2 := Lib.hid (HQ1.out.from hba)
  have HZ2 := Lib.hid (HZ1.out.below (hba.mono HB1.out.size))
  have HB2 := Lib.hid (HB1.out.trans (hba.mono HB1.out.size))
  obtain ⟨e0, e1, e2, e3, e4, e5, e6, e7, e8, e9, e10, e11, e12⟩ := cells13 hl
  clear hown hba hl c0 c1 c2 c3
  go_wp2_with fail
  refine (implLineOk_any a b d m 0 _ ms none none none 0 0 0 0 0 0 ⟨#[]⟩ ⟨#[]⟩ false false _ _ HO.out.reads (Nat.le_refl _) wa (by show 0 ≤ maxLen; exact Nat.zero_le _) (by show 0 ≤ maxLen; exact Nat.zero_le _) (by have := HL.out; unfold maxLen; omega) (fun s hs => by have := HS.out s hs; unfold maxLen; omega)).mono ?_
  rintro e x1 ⟨rfl, hbx⟩
  rw [show lineB ⟨a, b, d, m⟩ ms 0 0 ⟨(⟨#[]⟩ : ByteArray).data.toList, false⟩ ⟨(⟨#[]⟩ : ByteArray).data.toList, false⟩ 0 0 = true from (lineB_new ⟨a, b, d, m⟩ ms).trans hn]
  have HLB := Lib.hid (HLB.out.from hbx)
  have HO := Lib.hid (HO.out.below hbx)
  have HQ2 := Lib.hid (HQ2.out.from hbx)
  have HZ2 := Lib.hid (HZ2.out.below (hbx.mono HB2.out.size))
  have HB2 := Lib.hid (HB2.out.trans (hbx.mono HB2.out.size))
  obtain ⟨e0, e1, e2, e3, e4, e5, e6, e7, e8, e9, e10, e11, e12⟩ := cells13 HLB.out
  clear hbx
  go_wp2_with fail
  refine (linkOf_any a b d m 0 0 rfl _ ms _ [] _ [] _ [] ⟨#[]⟩ ⟨#[]⟩ false false _ _ ⟨HO.out.reads, RS_nil _ _, RS_nil _ _, RS_nil _ _⟩ (Nat.le_refl _) (by decide) (by decide) ⟨HL.out, by simp, by simp, by simp⟩ ⟨HS.out, fun _ h => (by cases h), fun _ h => (by cases h), fun _ h => (by cases h)⟩).mono ?_
  rintro e x2 ⟨g, um, ub, ug, ut, rfl, hlk, hbx⟩
  have HQ2 := Lib.hid (HQ2.out.from hbx)
  have HZ2 := Lib.hid (HZ2.out.below (hbx.mono HB2.out.size))
  have HSX := Lib.hid (Nat.le_trans HS1.out (Nat.le_of_lt HLB.out.lt))
  have HBX := Lib.hid HB2.out.size
  have HB2 := Lib.hid (HB2.out.trans (hbx.mono HB2.out.size))
  have HL2 := Lib.hid (show LK x2 x1.heap.size g (newLs ⟨a, b, d, m⟩ ms) from ⟨_, _, _, _, hlk⟩)
  have HNO := Lib.hid (newLs_ok hn)
  have HV := Lib.hid (show playRes ⟨a, b, d, m⟩ ms zs = (zs.take 80).foldl Ls.doP (newLs ⟨a, b, d, m⟩ ms) by unfold playRes; rw [if_pos hn])
  clear hbx hlk e0 e1 e2 e3 e4 e5 e6 e7 e8 e9 e10 e11 e12
  go_wp2
  ·have hN : 80 ≤ zs.length := by omega
   have hcN : (80 : Nat) ≤ 80 := by omega
   rw [show (max 80 0 : Int) = 80 from rfl]
   go_loopw [26] (fun i wr => ∃ k : Nat, k ≤ 80 ∧ i = .int .i64 (k : Int) ∧ LK wr x1.heap.size g ((zs.take k).foldl Ls.doP (newLs ⟨a, b, d, m⟩ ms)) ∧ Below x1.heap.size x2 wr) (fun i _ => 80 - (intOf i).toNat)
   case atStart => exact ⟨0, Nat.zero_le _, rfl, HL2.out, Below.refl _ _⟩
   case round =>
    obtain ⟨k, hk, rfl, hlk, hb⟩ := hrel
    have HLK := Lib.hid hlk
    have HBr := Lib.hid hb
    clear hlk hb
    by_cases hlt : k < 80
    ·have hkl : k < zs.length := by omega
     obtain ⟨xa, rfl, hxB, c0⟩ := (HZ2.out.below (HBr.out.mono HBX.out)).at_ hkl
     have HST := Lib.hid (show (zs.take (k + 1)).foldl Ls.doP (newLs ⟨a, b, d, m⟩ ms) = ((zs.take k).foldl Ls.doP (newLs ⟨a, b, d, m⟩ ms)).doP zs[k] by rw [List.take_succ_eq_append_getElem hkl, List.foldl_append]; rfl)
     have hzw := HW.out zs[k] (List.getElem_mem hkl)
     generalize zs[k] = z at *
     have HZW := Lib.hid hzw
     clear hzw
     go_wp2_with fail
     refine (do_any _ (Ls.Ok.plays _ HNO.out) z HZW.out _ x1.heap.size g HLK.out).mono ?_
     rintro e w3 ⟨⟨q, rfl, _, _⟩, hk3, hb3⟩
     have HK3 := Lib.hid hk3
     have HB3 := Lib.hid (HBr.out.trans hb3)
     clear hk3 hb3
     go_wp2
     go_roundw
     case rel => exact ⟨k + 1, by omega, by go_num, by rw [HST.out]; exact HK3.out, HB3.out⟩
     case measure => simp [intOf]; omega
    ·have HTK := Lib.hid (show zs.take 80 = zs.take k by rw [show k = 80 by omega])
     have HV2 := Lib.hid (HV.out.trans (by rw [HTK.out]))
     have hokq := Ls.Ok.plays (zs.take k) HNO.out
     generalize (zs.take k).foldl Ls.doP (newLs ⟨a, b, d, m⟩ ms) = q at *
     obtain ⟨xm, xb, xg, xt, hl4⟩ := HLK.out
     obtain ⟨axm, cxm, rfl⟩ := hl4.om.reads.shape
     obtain ⟨axb, cxb, rfl⟩ := hl4.ob.reads.shape
     obtain ⟨axg, cxg, rfl⟩ := hl4.og.reads.shape
     obtain ⟨axt, cxt, rfl⟩ := hl4.ot.reads.shape
     have HL4 := Lib.hid hl4
     clear hl4
     go_wp2_with fail
     refine (shown_any q _ _ _ _ _ x1.heap.size g HL4.out).mono ?_
     rintro e w4 ⟨rfl, hb4⟩
     have HL5 := Lib.hid (HL4.out.below hb4)
     have HB5 := Lib.hid (HBr.out.trans (hb4.mono HL4.out.bw))
     have hq5 := HQ2.out.below HB5.out (by have := HSX.out; omega)
     have HB6 := Lib.hid (HB2.out.trans (HB5.out.mono HBX.out))
     obtain ⟨z0, z1, z2, z3, z4, z5, z6, z7, z8, z9, z10, z11, z12⟩ := cells13 hq5
     obtain ⟨f0, f1, f2, f3, f4, f5, f6, f7, f8, f9, f10, f11, f12⟩ := free13 hq5
     have HQ5 := Lib.hid hq5
     clear hb4 hq5
     go_wp2
     rw [HV2.out]
     have hq := set13_bk (v0 := .int .i64 q.c.codec) (v1 := .int .i64 q.c.sum) (v2 := .int .i64 q.c.most) (v3 := .int .i64 q.c.map) (v4 := .slice axm q.ms.length cxm) (v5 := .int .i64 (q.nx : Int)) (v6 := .slice axg q.gs.length cxg) (v7 := .string (bzL q.f.held)) (v8 := .bool q.f.over) (v9 := .string (bzL q.h.held)) (v10 := .bool q.h.over) (v11 := .slice axt q.ts.length cxt) (v12 := .slice axb q.bs.length cxb) HQ5.out rfl
     have hlow := HSX.out
     refine line_ret Tryz.results10 hq rfl rfl ⟨_, _, _, _, rfl, ⟨⟨?_, ?_, ?_, ?_⟩, HL5.out.ap⟩, ?_⟩
     ·exact (set13_os HL5.out.om (by omega)).mono HBX.out
     ·exact (set13_os HL5.out.og (by omega)).mono HBX.out
     ·exact (set13_os HL5.out.ot (by omega)).mono HBX.out
     ·exact (set13_os HL5.out.ob (by omega)).mono HBX.out
     ·exact set13_below HB6.out (by omega)
  ·have hN : zs.length ≤ 80 := by omega
   have hcN : (zs.length : Nat) ≤ 80 := by omega
   (try rw [show max ((zs.length : Nat) : Int) 0 = (zs.length : Int) by omega])
   go_loopw [26] (fun i wr => ∃ k : Nat, k ≤ zs.length ∧ i = .int .i64 (k : Int) ∧ LK wr x1.heap.size g ((zs.take k).foldl Ls.doP (newLs ⟨a, b, d, m⟩ ms)) ∧ Below x1.heap.size x2 wr) (fun i _ => zs.length - (intOf i).toNat)
   case atStart => exact ⟨0, Nat.zero_le _, rfl, HL2.out, Below.refl _ _⟩
   case round =>
    obtain ⟨k, hk, rfl, hlk, hb⟩ := hrel
    have HLK := Lib.hid hlk
    have HBr := Lib.hid hb
    clear hlk hb
    by_cases hlt : k < zs.length
    ·have hkl : k < zs.length := by omega
     obtain ⟨xa, rfl, hxB, c0⟩ := (HZ2.out.below (HBr.out.mono HBX.out)).at_ hkl
     have HST := Lib.hid (show (zs.take (k + 1)).foldl Ls.doP (newLs ⟨a, b, d, m⟩ ms) = ((zs.take k).foldl Ls.doP (newLs ⟨a, b, d, m⟩ ms)).doP zs[k] by rw [List.take_succ_eq_append_getElem hkl, List.foldl_append]; rfl)
     have hzw := HW.out zs[k] (List.getElem_mem hkl)
     generalize zs[k] = z at *
     have HZW := Lib.hid hzw
     clear hzw
     go_wp2_with fail
     refine (do_any _ (Ls.Ok.plays _ HNO.out) z HZW.out _ x1.heap.size g HLK.out).mono ?_
     rintro e w3 ⟨⟨q, rfl, _, _⟩, hk3, hb3⟩
     have HK3 := Lib.hid hk3
     have HB3 := Lib.hid (HBr.out.trans hb3)
     clear hk3 hb3
     go_wp2
     go_roundw
     case rel => exact ⟨k + 1, by omega, by go_num, by rw [HST.out]; exact HK3.out, HB3.out⟩
     case measure => simp [intOf]; omega
    ·have HTK := Lib.hid (show zs.take 80 = zs.take k by rw [show k = zs.length by omega, List.take_length, List.take_of_length_le (by omega)])
     have HV2 := Lib.hid (HV.out.trans (by rw [HTK.out]))
     have hokq := Ls.Ok.plays (zs.take k) HNO.out
     generalize (zs.take k).foldl Ls.doP (newLs ⟨a, b, d, m⟩ ms) = q at *
     obtain ⟨xm, xb, xg, xt, hl4⟩ := HLK.out
     obtain ⟨axm, cxm, rfl⟩ := hl4.om.reads.shape
     obtain ⟨axb, cxb, rfl⟩ := hl4.ob.reads.shape
     obtain ⟨axg, cxg, rfl⟩ := hl4.og.reads.shape
     obtain ⟨axt, cxt, rfl⟩ := hl4.ot.reads.shape
     have HL4 := Lib.hid hl4
     clear hl4
     go_wp2_with fail
     refine (shown_any q _ _ _ _ _ x1.heap.size g HL4.out).mono ?_
     rintro e w4 ⟨rfl, hb4⟩
     have HL5 := Lib.hid (HL4.out.below hb4)
     have HB5 := Lib.hid (HBr.out.trans (hb4.mono HL4.out.bw))
     have hq5 := HQ2.out.below HB5.out (by have := HSX.out; omega)
     have HB6 := Lib.hid (HB2.out.trans (HB5.out.mono HBX.out))
     obtain ⟨z0, z1, z2, z3, z4, z5, z6, z7, z8, z9, z10, z11, z12⟩ := cells13 hq5
     obtain ⟨f0, f1, f2, f3, f4, f5, f6, f7, f8, f9, f10, f11, f12⟩ := free13 hq5
     have HQ5 := Lib.hid hq5
     clear hb4 hq5
     go_wp2
     rw [HV2.out]
     have hq := set13_bk (v0 := .int .i64 q.c.codec) (v1 := .int .i64 q.c.sum) (v2 := .int .i64 q.c.most) (v3 := .int .i64 q.c.map) (v4 := .slice axm q.ms.length cxm) (v5 := .int .i64 (q.nx : Int)) (v6 := .slice axg q.gs.length cxg) (v7 := .string (bzL q.f.held)) (v8 := .bool q.f.over) (v9 := .string (bzL q.h.held)) (v10 := .bool q.h.over) (v11 := .slice axt q.ts.length cxt) (v12 := .slice axb q.bs.length cxb) HQ5.out rfl
     have hlow := HSX.out
     refine line_ret Tryz.results10 hq rfl rfl ⟨_, _, _, _, rfl, ⟨⟨?_, ?_, ?_, ?_⟩, HL5.out.ap⟩, ?_⟩
     ·exact (set13_os HL5.out.om (by omega)).mono HBX.out
     ·exact (set13_os HL5.out.og (by omega)).mono HBX.out
     ·exact (set13_os HL5.out.ot (by omega)).mono HBX.out
     ·exact (set13_os HL5.out.ob (by omega)).mono HBX.out
     ·exact set13_below HB6.out (by omega)
 ·have hzlv : (Value.agg #[.int .i64 0, .int .i64 0, .int .i64 0, .int .i64 0, .slice none 0 0, .int .i64 0, .slice none 0 0, .string ⟨#[]⟩, .bool false, .string ⟨#[]⟩, .bool false, .slice none 0 0, .slice none 0 0]) = lnV 0 0 0 0 (.slice none 0 0) 0 (.slice none 0 0) ⟨#[]⟩ false ⟨#[]⟩ false (.slice none 0 0) (.slice none 0 0) := rfl
  have HV := Lib.hid (show playRes ⟨a, b, d, m⟩ ms zs = zeroLs by unfold playRes; rw [if_neg (by rw [hn]; decide)])
  have hba := (Below.refl w1.heap.size w1).alloc (Nat.le_refl _) (.cells #[.int .i64 0, .int .i64 0, .int .i64 0, .int .i64 0, .slice none 0 0, .int .i64 0, .slice none 0 0, .string ⟨#[]⟩, .bool false, .string ⟨#[]⟩, .bool false, .slice none 0 0, .slice none 0 0] 32)
  have hl := BK.new w1 #[.int .i64 0, .int .i64 0, .int .i64 0, .int .i64 0, .slice none 0 0, .int .i64 0, .slice none 0 0, .string ⟨#[]⟩, .bool false, .string ⟨#[]⟩, .bool false, .slice none 0 0, .slice none 0 0] 32
  have HQ2 := Lib.hid (HQ1.out.from hba)
  have HB2 := Lib.hid (HB1.out.trans (hba.mono HB1.out.size))
  obtain ⟨e0, e1, e2, e3, e4, e5, e6, e7, e8, e9, e10, e11, e12⟩ := cells13 hl
  clear hba hl c0 c1 c2 c3 hzlv
  go_wp2_with fail
  refine (implLineOk_any 0 0 0 0 0 (.slice none 0 0) [] none none none 0 0 0 0 0 0 ⟨#[]⟩ ⟨#[]⟩ false false _ 0 (RS_nil _ _) (Nat.zero_le _) (by decide) (by show 0 ≤ maxLen; exact Nat.zero_le _) (by show 0 ≤ maxLen; exact Nat.zero_le _) (by simp) (fun s hs => (by cases hs))).mono ?_
  rintro e x1 ⟨rfl, hbx⟩
  rw [show lineB ⟨0, 0, 0, 0⟩ [] 0 0 ⟨(⟨#[]⟩ : ByteArray).data.toList, false⟩ ⟨(⟨#[]⟩ : ByteArray).data.toList, false⟩ 0 0 = false by decide]
  have hq := HQ2.out.from hbx
  have HB3 := Lib.hid (HB2.out.trans (hbx.mono HB2.out.size))
  obtain ⟨z0, z1, z2, z3, z4, z5, z6, z7, z8, z9, z10, z11, z12⟩ := cells13 hq
  obtain ⟨f0, f1, f2, f3, f4, f5, f6, f7, f8, f9, f10, f11, f12⟩ := free13 hq
  have hq9 := set13_bk (v0 := .int .i64 0) (v1 := .int .i64 0) (v2 := .int .i64 0) (v3 := .int .i64 0) (v4 := .slice none 0 0) (v5 := .int .i64 0) (v6 := .slice none 0 0) (v7 := .string ⟨#[]⟩) (v8 := .bool false) (v9 := .string ⟨#[]⟩) (v10 := .bool false) (v11 := .slice none 0 0) (v12 := .slice none 0 0) hq rfl
  have HQ9 := Lib.hid hq9
  have HBZ := Lib.hid (show Below w.heap.size w _ from set13_below (g := w.heap.size + 1) (v0 := .int .i64 0) (v1 := .int .i64 0) (v2 := .int .i64 0) (v3 := .int .i64 0) (v4 := .slice none 0 0) (v5 := .int .i64 0) (v6 := .slice none 0 0) (v7 := .string ⟨#[]⟩) (v8 := .bool false) (v9 := .string ⟨#[]⟩) (v10 := .bool false) (v11 := .slice none 0 0) (v12 := .slice none 0 0) HB3.out (by omega))
  clear hbx hq hq9
  go_wp2
  rw [HV.out] at *
  exact line_ret Tryz.results10 HQ9.out rfl rfl (zero_res HBZ.out)
end Go.Proofs.YtmggoiabcboaiaaGreat
namespace Go.Proofs.YtmggoiabcboaiaaGreat
open Go.ChangeShapes Go.WideShapes Go.ChangeAt Go.RowKit
set_option linter.unusedVariables false
def loseP (tw : Bool) (ss : List ByteArray) : List ByteArray := if tw = true then twiceL ss else ss.tail
def LosePost (w : World) (v : Value) (ss : List ByteArray) (tw : Bool) (e : Ending) (w' : World) : Prop := ∃ u b, e = .returned (.tuple #[u, .bool b]) ∧ OS w' 0 u (loseP tw ss) ∧ Below w.heap.size w w'
set_option maxRecDepth 100000 in
set_option maxHeartbeats 1000000 in
theorem l8Lose_any (v : Value) (ss : List ByteArray) (tw : Bool) (w : World) (h : OS w 0 v ss) (hl : ss.length ≤ 5) :
  Calls Tryz.prog 75 #[v, .bool tw] w (LosePost w v ss tw) := by
 obtain ⟨i0, hi0, hz0, hz1, hz2⟩ := info_parts info_str
 have HI := Lib.hid hi0
 have HZ0 := Lib.hid hz0
 have HZ1 := Lib.hid hz1
 have HZ2 := Lib.hid hz2
 clear hi0 hz0 hz1 hz2
 cases hss : ss with
 | nil =>
  obtain ⟨a, c, rfl⟩ := h.reads.shape
  have H := Lib.hid h
  clear h
  subst hss
  go_enter Tryz.func75, Tryz.ntmps75
  go_wp2
  go_ret2
  exact ⟨_, _, rfl, by cases tw <;> exact H.out, Below.refl _ _⟩
 | cons t r =>
  obtain ⟨g, c, rfl, hg0, hg1⟩ := h.pos (by rw [hss]; simp)
  obtain ⟨A27, C27, hsl, hrr⟩ := tail_slice h hss
  have c0 := h.cellAt (k := 0) (by rw [hss]; simp)
  have ht0 : ss[0]'(by rw [hss]; simp) = t := by simp [hss]
  rw [ht0] at c0
  obtain ⟨n, hn⟩ : ∃ n, n = ss.length := ⟨_, rfl⟩
  rw [← hn] at hsl ⊢
  have hn0 : 0 < n := by rw [hn, hss]; simp
  have hn5 : n ≤ 5 := by rw [hn]; exact hl
  have HN := Lib.hid hn
  have H := Lib.hid h
  have HS := Lib.hid hss
  have HR := Lib.hid hrr
  clear h hss hrr hl hn ht0
  cases tw with
  | false =>
   have HRR := Lib.hid (HR.out.below ((Below.refl _ _).alloc (Nat.le_refl _) (.cells #[] 9)))
   have HOe := Lib.hid (show OS (w.alloc (.cells #[] 9)) w.heap.size (.slice (some ⟨w.heap.size, 0, none⟩) 0 0) [] from OS_made w rfl (Nat.le_refl _))
   have hrl : r.length ≤ 5 := by have := HN.out; rw [HS.out] at this; simp at this; omega
   go_enter Tryz.func75, Tryz.ntmps75
   go_wp2_with (at_builtin; refine wpList_append_os _ rfl _ _ 25 rfl w.heap.size i0 Tryz.underlying25 HI.out HZ0.out HZ1.out HZ2.out _ [] rfl HOe.out _ _ r rfl HRR.out (by simp; omega) (by simp) ?_; intro v2 w5 hown hg5 hat5; rw [List.nil_append] at hown; obtain ⟨A2, C2, hsh⟩ := hown.reads.shape; subst hsh; have HO5 := Lib.hid (hown.mono (base' := 0) (Nat.zero_le _)); have HB5 := Lib.hid ((Below.refl w.heap.size w).alloc (Nat.le_refl _) (.cells #[] 9) |>.grown hg5 (by simp) (fun k hk => (HOe.out.low k hk).1)); clear hown hg5 hat5)
   go_ret2
   exact ⟨_, _, rfl, HO5.out, HB5.out⟩
  | true =>
   by_cases h5 : n < 5
   ·have HOe := Lib.hid (show OS (w.alloc (.cells #[.string t] 9)) w.heap.size (.slice (some ⟨w.heap.size, 0, none⟩) 1 1) [t] from OS_new1 w t w.heap.size (Nat.le_refl _))
    have HRR := Lib.hid (H.out.reads.below ((Below.refl _ _).alloc (Nat.le_refl _) (.cells #[.string t] 9)))
    rw [← HN.out] at HRR
    have h5i : decide ((5 : Int) ≤ (n : Int)) = false := by simp; omega
    have hsl5 : 1 + ss.length ≤ 1000000000000 := by have := HN.out; omega
    have HL5 := Lib.hid hsl5
    clear hsl5
    go_enter Tryz.func75, Tryz.ntmps75
    go_wp2_with (at_builtin; refine wpList_append_os _ rfl _ _ 25 rfl w.heap.size i0 Tryz.underlying25 HI.out HZ0.out HZ1.out HZ2.out _ [t] rfl HOe.out _ _ ss rfl HRR.out HL5.out (by simp) ?_; intro v2 w5 hown hg5 hat5; obtain ⟨A2, C2, hsh⟩ := hown.reads.shape; subst hsh; have HO5 := Lib.hid (hown.mono (base' := 0) (Nat.zero_le _)); have HB5 := Lib.hid ((Below.refl w.heap.size w).alloc (Nat.le_refl _) (.cells #[.string t] 9) |>.grown hg5 (by simp) (fun k hk => (HOe.out.low k hk).1)); clear hown hg5 hat5)
    go_ret2
    exact ⟨_, _, rfl, by rw [show loseP true (t :: r) = [t] ++ ss by unfold loseP twiceL; rw [HS.out]; simp only [if_true]; rw [if_pos (by have := HN.out; rw [HS.out] at this; omega)]; rfl]; exact HO5.out, HB5.out⟩
   ·go_enter Tryz.func75, Tryz.ntmps75
    go_wp2
    go_ret2
    exact ⟨_, _, rfl, by rw [show loseP true (t :: r) = ss by unfold loseP twiceL; rw [HS.out]; simp only [if_true]; rw [if_neg (by have := HN.out; rw [HS.out] at this; omega)]]; have h := H.out; rw [← HN.out] at h; exact h, Below.refl _ _⟩
end Go.Proofs.YtmggoiabcboaiaaGreat
namespace Go.Proofs.YtmggoiabcboaiaaGreat
open Go.ChangeShapes Go.WideShapes Go.ChangeAt Go.RowKit
set_option linter.unusedVariables false
set_option maxRecDepth 100000 in
set_option maxHeartbeats 2000000 in
theorem l8Do_any (s : Ls) (hs : s.Ok) (k : Int) (vm vb vg vt : Value) (w : World) (h0 : OL w 0 vm s.ms vg s.gs vt s.ts vb s.bs) :
  Calls Tryz.prog 43 #[lsV s vm vb vg vt, .int .i64 k] w (SPost w (s.doP k)) := by
 obtain ⟨i0, hi0, hz0, hz1, hz2⟩ := info_parts info_str
 have HI := Lib.hid hi0
 have HZ0 := Lib.hid hz0
 have HZ1 := Lib.hid hz1
 have HZ2 := Lib.hid hz2
 have h := h0.reads
 have hB : w.heap.size ≤ w.heap.size := Nat.le_refl _
 obtain ⟨am, cm, rfl⟩ := h.1.shape
 obtain ⟨ag, cg, rfl⟩ := h.2.1.shape
 obtain ⟨at_, ct, rfl⟩ := h.2.2.1.shape
 obtain ⟨ab, cb, rfl⟩ := h.2.2.2.shape
 have hzl := zero_line
 have hml := hs.ml
 have hnx := hs.nxl
 have htl := hs.tl
 have hgl := hs.gl
 have hbl := hs.bl
 have hcf := hs.conf
 have hmost := (confB_yes hs.conf).2.2.1
 have hk := (BK.new w #[.int .i64 s.c.codec, .int .i64 s.c.sum, .int .i64 s.c.most, .int .i64 s.c.map, .slice am s.ms.length cm, .int .i64 (s.nx : Int), .slice ag s.gs.length cg, .string (bzL s.f.held), .bool s.f.over, .string (bzL s.h.held), .bool s.h.over, .slice at_ s.ts.length ct, .slice ab s.bs.length cb] 32).alloc (.cells #[.int .i64 0, .int .i64 0, .int .i64 0, .int .i64 0, .slice none 0 0, .int .i64 0, .slice none 0 0, .string ⟨#[]⟩, .bool false, .string ⟨#[]⟩, .bool false, .slice none 0 0, .slice none 0 0] 32)
 have hq := BK.new (w.alloc (.cells #[.int .i64 s.c.codec, .int .i64 s.c.sum, .int .i64 s.c.most, .int .i64 s.c.map, .slice am s.ms.length cm, .int .i64 (s.nx : Int), .slice ag s.gs.length cg, .string (bzL s.f.held), .bool s.f.over, .string (bzL s.h.held), .bool s.h.over, .slice at_ s.ts.length ct, .slice ab s.bs.length cb] 32)) #[.int .i64 0, .int .i64 0, .int .i64 0, .int .i64 0, .slice none 0 0, .int .i64 0, .slice none 0 0, .string ⟨#[]⟩, .bool false, .string ⟨#[]⟩, .bool false, .slice none 0 0, .slice none 0 0] 32
 rw [World.size_alloc] at hq
 have hb := ((Below.refl w.heap.size w).alloc (Nat.le_refl _) (.cells #[.int .i64 s.c.codec, .int .i64 s.c.sum, .int .i64 s.c.most, .int .i64 s.c.map, .slice am s.ms.length cm, .int .i64 (s.nx : Int), .slice ag s.gs.length cg, .string (bzL s.f.held), .bool s.f.over, .string (bzL s.h.held), .bool s.h.over, .slice at_ s.ts.length ct, .slice ab s.bs.length cb] 32)).alloc (by simp) (.cells #[.int .i64 0, .int .i64 0, .int .i64 0, .int .i64 0, .slice none 0 0, .int .i64 0, .slice none 0 0, .string ⟨#[]⟩, .bool false, .string ⟨#[]⟩, .bool false, .slice none 0 0, .slice none 0 0] 32)
 have HR := Lib.hid ((h.mono hB).below hb)
 have HB := Lib.hid hb
 have HQ := Lib.hid hq
 have HK := Lib.hid hk
 have HH := Lib.hid h
 obtain ⟨w0, hw0⟩ : ∃ w0, w0 = (w.alloc (.cells #[.int .i64 s.c.codec, .int .i64 s.c.sum, .int .i64 s.c.most, .int .i64 s.c.map, .slice am s.ms.length cm, .int .i64 (s.nx : Int), .slice ag s.gs.length cg, .string (bzL s.f.held), .bool s.f.over, .string (bzL s.h.held), .bool s.h.over, .slice at_ s.ts.length ct, .slice ab s.bs.length cb] 32)).alloc (.cells #[.int .i64 0, .int .i64 0, .int .i64 0, .int .i64 0, .slice none 0 0, .int .i64 0, .slice none 0 0, .string ⟨#[]⟩, .bool false, .string ⟨#[]⟩, .bool false, .slice none 0 0, .slice none 0 0] 32) := ⟨_, rfl⟩
 rw [← hw0] at HR HB HQ HK
 have HW := Lib.hid hw0
 have HOm := Lib.hid (h0.1.below HB.out)
 have HOg := Lib.hid (h0.2.1.below HB.out)
 have HOt := Lib.hid (h0.2.2.1.below HB.out)
 have HOb := Lib.hid (h0.2.2.2.below HB.out)
 have HLm := Lib.hid (fun k hk => (h0.1.low k hk).2)
 have HLg := Lib.hid (fun k hk => (h0.2.1.low k hk).2)
 have HLt := Lib.hid (fun k hk => (h0.2.2.1.low k hk).2)
 have HLb := Lib.hid (fun k hk => (h0.2.2.2.low k hk).2)
 have HH0 := Lib.hid h0
 have hk0 := HK.out
 have hq0 := HQ.out
 rw [hw0] at hk0 hq0
 obtain ⟨c0, c1, c2, c3, c4, c5, c6, c7, c8, c9, c10, c11, c12⟩ := cells13 hk0
 obtain ⟨z0, z1, z2, z3, z4, z5, z6, z7, z8, z9, z10, z11, z12⟩ := cells13 hq0
 obtain ⟨f0, f1, f2, f3, f4, f5, f6, f7, f8, f9, f10, f11, f12⟩ := free13 hq0
 have hN : w.heap.size + 2 = w0.heap.size := by rw [hw0]; simp
 have HSOK := Lib.hid hs
 clear h h0 hk hq hb hk0 hq0 hi0 hz0 hz1 hz2 hw0 hs
 by_cases hk1 : k = 1
 ·subst hk1
  have HE := Lib.hid (show s.doP 1 = s.sendP by simp [Ls.doP])
  generalize hQ : s.sendP = Q at HE
  have HC := Lib.hid (show Calls Tryz.prog 55 #[lsV s (.slice am s.ms.length cm) (.slice ab s.bs.length cb) (.slice ag s.gs.length cg) (.slice at_ s.ts.length ct)] w0 (SPost w0 Q) from by rw [← hQ]; exact l8Send_any s HSOK.out _ _ _ _ w0 ⟨HOm.out, HOg.out, HOt.out, HOb.out⟩)
  clear hQ
  go_enter Tryz.func43, Tryz.ntmps43
  go_wp2_with fail
  rw [← HW.out]
  refine HC.out.mono ?_
  rintro e w1 ⟨xm, xb, xg, xt, q, rfl, hol, hb1⟩
  obtain ⟨am3, cm3, rfl⟩ := hol.1.reads.shape
  obtain ⟨ag3, cg3, rfl⟩ := hol.2.1.reads.shape
  obtain ⟨at3, ct3, rfl⟩ := hol.2.2.1.reads.shape
  obtain ⟨ab3, cb3, rfl⟩ := hol.2.2.2.reads.shape
  clear c0 c1 c2 c3 c4 c5 c6 c7 c8 c9 c10 c11 c12 z0 z1 z2 z3 z4 z5 z6 z7 z8 z9 z10 z11 z12 f0 f1 f2 f3 f4 f5 f6 f7 f8 f9 f10 f11 f12
  have hbq := HQ.out.from hb1
  obtain ⟨z0, z1, z2, z3, z4, z5, z6, z7, z8, z9, z10, z11, z12⟩ := cells13 hbq
  obtain ⟨f0, f1, f2, f3, f4, f5, f6, f7, f8, f9, f10, f11, f12⟩ := free13 hbq
  have HBQ := Lib.hid hbq
  have HOL := Lib.hid hol
  have HB1 := Lib.hid (HB.out.trans (hb1.mono HB.out.size))
  clear hbq hol hb1
  go_wp2
  rw [HE.out]
  have hq := set13_bk (v0 := .int .i64 Q.c.codec) (v1 := .int .i64 Q.c.sum) (v2 := .int .i64 Q.c.most) (v3 := .int .i64 Q.c.map) (v4 := .slice am3 Q.ms.length cm3) (v5 := .int .i64 (Q.nx : Int)) (v6 := .slice ag3 Q.gs.length cg3) (v7 := .string (bzL Q.f.held)) (v8 := .bool Q.f.over) (v9 := .string (bzL Q.h.held)) (v10 := .bool Q.h.over) (v11 := .slice at3 Q.ts.length ct3) (v12 := .slice ab3 Q.bs.length cb3) HBQ.out rfl
  exact line_ret2 Tryz.results43 hq rfl rfl rfl ⟨_, _, _, _, _, rfl, ⟨set13_own HOL.out.1 (own_ne HBQ.out line_str HOL.out.1), set13_own HOL.out.2.1 (own_ne HBQ.out line_str HOL.out.2.1), set13_own HOL.out.2.2.1 (own_ne HBQ.out line_str HOL.out.2.2.1), set13_own HOL.out.2.2.2 (own_ne HBQ.out line_str HOL.out.2.2.2)⟩, set13_below HB1.out (by omega)⟩
 by_cases hk2 : k = 2
 ·subst hk2
  have HE := Lib.hid (show s.doP 2 = s.there by simp [Ls.doP])
  generalize hQ : s.there = Q at HE
  have HC := Lib.hid (show Calls Tryz.prog 53 #[lsV s (.slice am s.ms.length cm) (.slice ab s.bs.length cb) (.slice ag s.gs.length cg) (.slice at_ s.ts.length ct)] w0 (SPost w0 Q) from by rw [← hQ]; exact l8There_any s HSOK.out _ _ _ _ w0 ⟨HOm.out, HOg.out, HOt.out, HOb.out⟩)
  clear hQ
  go_enter Tryz.func43, Tryz.ntmps43
  go_wp2_with fail
  rw [← HW.out]
  refine HC.out.mono ?_
  rintro e w1 ⟨xm, xb, xg, xt, q, rfl, hol, hb1⟩
  obtain ⟨am3, cm3, rfl⟩ := hol.1.reads.shape
  obtain ⟨ag3, cg3, rfl⟩ := hol.2.1.reads.shape
  obtain ⟨at3, ct3, rfl⟩ := hol.2.2.1.reads.shape
  obtain ⟨ab3, cb3, rfl⟩ := hol.2.2.2.reads.shape
  clear c0 c1 c2 c3 c4 c5 c6 c7 c8 c9 c10 c11 c12 z0 z1 z2 z3 z4 z5 z6 z7 z8 z9 z10 z11 z12 f0 f1 f2 f3 f4 f5 f6 f7 f8 f9 f10 f11 f12
  have hbq := HQ.out.from hb1
  obtain ⟨z0, z1, z2, z3, z4, z5, z6, z7, z8, z9, z10, z11, z12⟩ := cells13 hbq
  obtain ⟨f0, f1, f2, f3, f4, f5, f6, f7, f8, f9, f10, f11, f12⟩ := free13 hbq
  have HBQ := Lib.hid hbq
  have HOL := Lib.hid hol
  have HB1 := Lib.hid (HB.out.trans (hb1.mono HB.out.size))
  clear hbq hol hb1
  go_wp2
  rw [HE.out]
  have hq := set13_bk (v0 := .int .i64 Q.c.codec) (v1 := .int .i64 Q.c.sum) (v2 := .int .i64 Q.c.most) (v3 := .int .i64 Q.c.map) (v4 := .slice am3 Q.ms.length cm3) (v5 := .int .i64 (Q.nx : Int)) (v6 := .slice ag3 Q.gs.length cg3) (v7 := .string (bzL Q.f.held)) (v8 := .bool Q.f.over) (v9 := .string (bzL Q.h.held)) (v10 := .bool Q.h.over) (v11 := .slice at3 Q.ts.length ct3) (v12 := .slice ab3 Q.bs.length cb3) HBQ.out rfl
  exact line_ret2 Tryz.results43 hq rfl rfl rfl ⟨_, _, _, _, _, rfl, ⟨set13_own HOL.out.1 (own_ne HBQ.out line_str HOL.out.1), set13_own HOL.out.2.1 (own_ne HBQ.out line_str HOL.out.2.1), set13_own HOL.out.2.2.1 (own_ne HBQ.out line_str HOL.out.2.2.1), set13_own HOL.out.2.2.2 (own_ne HBQ.out line_str HOL.out.2.2.2)⟩, set13_below HB1.out (by omega)⟩
 by_cases hk3 : k = 3
 ·subst hk3
  have HE := Lib.hid (show s.doP 3 = s.here by simp [Ls.doP])
  generalize hQ : s.here = Q at HE
  have HC := Lib.hid (show Calls Tryz.prog 54 #[lsV s (.slice am s.ms.length cm) (.slice ab s.bs.length cb) (.slice ag s.gs.length cg) (.slice at_ s.ts.length ct)] w0 (SPost w0 Q) from by rw [← hQ]; exact l8Here_any s HSOK.out _ _ _ _ w0 ⟨HOm.out, HOg.out, HOt.out, HOb.out⟩)
  clear hQ
  go_enter Tryz.func43, Tryz.ntmps43
  go_wp2_with fail
  rw [← HW.out]
  refine HC.out.mono ?_
  rintro e w1 ⟨xm, xb, xg, xt, q, rfl, hol, hb1⟩
  obtain ⟨am3, cm3, rfl⟩ := hol.1.reads.shape
  obtain ⟨ag3, cg3, rfl⟩ := hol.2.1.reads.shape
  obtain ⟨at3, ct3, rfl⟩ := hol.2.2.1.reads.shape
  obtain ⟨ab3, cb3, rfl⟩ := hol.2.2.2.reads.shape
  clear c0 c1 c2 c3 c4 c5 c6 c7 c8 c9 c10 c11 c12 z0 z1 z2 z3 z4 z5 z6 z7 z8 z9 z10 z11 z12 f0 f1 f2 f3 f4 f5 f6 f7 f8 f9 f10 f11 f12
  have hbq := HQ.out.from hb1
  obtain ⟨z0, z1, z2, z3, z4, z5, z6, z7, z8, z9, z10, z11, z12⟩ := cells13 hbq
  obtain ⟨f0, f1, f2, f3, f4, f5, f6, f7, f8, f9, f10, f11, f12⟩ := free13 hbq
  have HBQ := Lib.hid hbq
  have HOL := Lib.hid hol
  have HB1 := Lib.hid (HB.out.trans (hb1.mono HB.out.size))
  clear hbq hol hb1
  go_wp2
  rw [HE.out]
  have hq := set13_bk (v0 := .int .i64 Q.c.codec) (v1 := .int .i64 Q.c.sum) (v2 := .int .i64 Q.c.most) (v3 := .int .i64 Q.c.map) (v4 := .slice am3 Q.ms.length cm3) (v5 := .int .i64 (Q.nx : Int)) (v6 := .slice ag3 Q.gs.length cg3) (v7 := .string (bzL Q.f.held)) (v8 := .bool Q.f.over) (v9 := .string (bzL Q.h.held)) (v10 := .bool Q.h.over) (v11 := .slice at3 Q.ts.length ct3) (v12 := .slice ab3 Q.bs.length cb3) HBQ.out rfl
  exact line_ret2 Tryz.results43 hq rfl rfl rfl ⟨_, _, _, _, _, rfl, ⟨set13_own HOL.out.1 (own_ne HBQ.out line_str HOL.out.1), set13_own HOL.out.2.1 (own_ne HBQ.out line_str HOL.out.2.1), set13_own HOL.out.2.2.1 (own_ne HBQ.out line_str HOL.out.2.2.1), set13_own HOL.out.2.2.2 (own_ne HBQ.out line_str HOL.out.2.2.2)⟩, set13_below HB1.out (by omega)⟩
 by_cases hk4 : k = 4
 ·subst hk4
  have HE := Lib.hid (show s.doP 4 = { s with ts := loseP false s.ts } by simp [Ls.doP, loseP])
  have HC := Lib.hid (l8Lose_any (.slice at_ s.ts.length ct) s.ts false w0 HOt.out HSOK.out.tl)
  go_enter Tryz.func43, Tryz.ntmps43
  go_wp2_with fail
  rw [← HW.out]
  refine HC.out.mono ?_
  rintro e w1 ⟨u, q, rfl, hown, hb1⟩
  generalize loseP false s.ts = L at *
  obtain ⟨A3, C3, rfl⟩ := hown.reads.shape
  clear c0 c1 c2 c3 c4 c5 c6 c7 c8 c9 c10 c11 c12 z0 z1 z2 z3 z4 z5 z6 z7 z8 z9 z10 z11 z12 f0 f1 f2 f3 f4 f5 f6 f7 f8 f9 f10 f11 f12
  have hbq := HQ.out.from hb1
  have hbk := HK.out.from hb1
  obtain ⟨z0, z1, z2, z3, z4, z5, z6, z7, z8, z9, z10, z11, z12⟩ := cells13 hbq
  obtain ⟨f0, f1, f2, f3, f4, f5, f6, f7, f8, f9, f10, f11, f12⟩ := free13 hbq
  obtain ⟨c0, c1, c2, c3, c4, c5, c6, c7, c8, c9, c10, c11, c12⟩ := cells13 hbk
  have fk := hbk.free 11
  have HPm := Lib.hid (os_set (HOm.out.below hb1) (own_ne hbk line_str (HOm.out.below hb1)) (i := 11) (.slice A3 L.length C3))
  have HPg := Lib.hid (os_set (HOg.out.below hb1) (own_ne hbk line_str (HOg.out.below hb1)) (i := 11) (.slice A3 L.length C3))
  have HPt := Lib.hid (os_set (hown) (own_ne hbk line_str (hown)) (i := 11) (.slice A3 L.length C3))
  have HPb := Lib.hid (os_set (HOb.out.below hb1) (own_ne hbk line_str (HOb.out.below hb1)) (i := 11) (.slice A3 L.length C3))
  have HBQ := Lib.hid (hbq.far (j := w.heap.size) (o := 11) (by omega) (.slice A3 L.length C3))
  have HB1 := Lib.hid ((HB.out.trans (hb1.mono HB.out.size)).setCell (p := ⟨w.heap.size, 11, none⟩) (Nat.le_refl _) (.slice A3 L.length C3))
  clear hbq hbk hown hb1
  go_wp2
  rw [HE.out]
  have hq := set13_bk (v0 := .int .i64 s.c.codec) (v1 := .int .i64 s.c.sum) (v2 := .int .i64 s.c.most) (v3 := .int .i64 s.c.map) (v4 := .slice am s.ms.length cm) (v5 := .int .i64 (s.nx : Int)) (v6 := .slice ag s.gs.length cg) (v7 := .string (bzL s.f.held)) (v8 := .bool s.f.over) (v9 := .string (bzL s.h.held)) (v10 := .bool s.h.over) (v11 := .slice A3 L.length C3) (v12 := .slice ab s.bs.length cb) HBQ.out rfl
  exact line_ret2 Tryz.results43 hq rfl rfl rfl ⟨_, _, _, _, _, rfl, ⟨set13_own HPm.out (own_ne HBQ.out line_str HPm.out), set13_own HPg.out (own_ne HBQ.out line_str HPg.out), set13_own HPt.out (own_ne HBQ.out line_str HPt.out), set13_own HPb.out (own_ne HBQ.out line_str HPb.out)⟩, set13_below HB1.out (by omega)⟩
 by_cases hk5 : k = 5
 ·subst hk5
  have HE := Lib.hid (show s.doP 5 = { s with bs := loseP false s.bs } by simp [Ls.doP, loseP])
  have HC := Lib.hid (l8Lose_any (.slice ab s.bs.length cb) s.bs false w0 HOb.out HSOK.out.bl)
  go_enter Tryz.func43, Tryz.ntmps43
  go_wp2_with fail
  rw [← HW.out]
  refine HC.out.mono ?_
  rintro e w1 ⟨u, q, rfl, hown, hb1⟩
  generalize loseP false s.bs = L at *
  obtain ⟨A3, C3, rfl⟩ := hown.reads.shape
  clear c0 c1 c2 c3 c4 c5 c6 c7 c8 c9 c10 c11 c12 z0 z1 z2 z3 z4 z5 z6 z7 z8 z9 z10 z11 z12 f0 f1 f2 f3 f4 f5 f6 f7 f8 f9 f10 f11 f12
  have hbq := HQ.out.from hb1
  have hbk := HK.out.from hb1
  obtain ⟨z0, z1, z2, z3, z4, z5, z6, z7, z8, z9, z10, z11, z12⟩ := cells13 hbq
  obtain ⟨f0, f1, f2, f3, f4, f5, f6, f7, f8, f9, f10, f11, f12⟩ := free13 hbq
  obtain ⟨c0, c1, c2, c3, c4, c5, c6, c7, c8, c9, c10, c11, c12⟩ := cells13 hbk
  have fk := hbk.free 12
  have HPm := Lib.hid (os_set (HOm.out.below hb1) (own_ne hbk line_str (HOm.out.below hb1)) (i := 12) (.slice A3 L.length C3))
  have HPg := Lib.hid (os_set (HOg.out.below hb1) (own_ne hbk line_str (HOg.out.below hb1)) (i := 12) (.slice A3 L.length C3))
  have HPt := Lib.hid (os_set (HOt.out.below hb1) (own_ne hbk line_str (HOt.out.below hb1)) (i := 12) (.slice A3 L.length C3))
  have HPb := Lib.hid (os_set (hown) (own_ne hbk line_str (hown)) (i := 12) (.slice A3 L.length C3))
  have HBQ := Lib.hid (hbq.far (j := w.heap.size) (o := 12) (by omega) (.slice A3 L.length C3))
  have HB1 := Lib.hid ((HB.out.trans (hb1.mono HB.out.size)).setCell (p := ⟨w.heap.size, 12, none⟩) (Nat.le_refl _) (.slice A3 L.length C3))
  clear hbq hbk hown hb1
  go_wp2
  rw [HE.out]
  have hq := set13_bk (v0 := .int .i64 s.c.codec) (v1 := .int .i64 s.c.sum) (v2 := .int .i64 s.c.most) (v3 := .int .i64 s.c.map) (v4 := .slice am s.ms.length cm) (v5 := .int .i64 (s.nx : Int)) (v6 := .slice ag s.gs.length cg) (v7 := .string (bzL s.f.held)) (v8 := .bool s.f.over) (v9 := .string (bzL s.h.held)) (v10 := .bool s.h.over) (v11 := .slice at_ s.ts.length ct) (v12 := .slice A3 L.length C3) HBQ.out rfl
  exact line_ret2 Tryz.results43 hq rfl rfl rfl ⟨_, _, _, _, _, rfl, ⟨set13_own HPm.out (own_ne HBQ.out line_str HPm.out), set13_own HPg.out (own_ne HBQ.out line_str HPg.out), set13_own HPt.out (own_ne HBQ.out line_str HPt.out), set13_own HPb.out (own_ne HBQ.out line_str HPb.out)⟩, set13_below HB1.out (by omega)⟩
 by_cases hk6 : k = 6
 ·subst hk6
  have HE := Lib.hid (show s.doP 6 = { s with ts := loseP true s.ts } by simp [Ls.doP, loseP])
  have HC := Lib.hid (l8Lose_any (.slice at_ s.ts.length ct) s.ts true w0 HOt.out HSOK.out.tl)
  go_enter Tryz.func43, Tryz.ntmps43
  go_wp2_with fail
  rw [← HW.out]
  refine HC.out.mono ?_
  rintro e w1 ⟨u, q, rfl, hown, hb1⟩
  generalize loseP true s.ts = L at *
  obtain ⟨A3, C3, rfl⟩ := hown.reads.shape
  clear c0 c1 c2 c3 c4 c5 c6 c7 c8 c9 c10 c11 c12 z0 z1 z2 z3 z4 z5 z6 z7 z8 z9 z10 z11 z12 f0 f1 f2 f3 f4 f5 f6 f7 f8 f9 f10 f11 f12
  have hbq := HQ.out.from hb1
  have hbk := HK.out.from hb1
  obtain ⟨z0, z1, z2, z3, z4, z5, z6, z7, z8, z9, z10, z11, z12⟩ := cells13 hbq
  obtain ⟨f0, f1, f2, f3, f4, f5, f6, f7, f8, f9, f10, f11, f12⟩ := free13 hbq
  obtain ⟨c0, c1, c2, c3, c4, c5, c6, c7, c8, c9, c10, c11, c12⟩ := cells13 hbk
  have fk := hbk.free 11
  have HPm := Lib.hid (os_set (HOm.out.below hb1) (own_ne hbk line_str (HOm.out.below hb1)) (i := 11) (.slice A3 L.length C3))
  have HPg := Lib.hid (os_set (HOg.out.below hb1) (own_ne hbk line_str (HOg.out.below hb1)) (i := 11) (.slice A3 L.length C3))
  have HPt := Lib.hid (os_set (hown) (own_ne hbk line_str (hown)) (i := 11) (.slice A3 L.length C3))
  have HPb := Lib.hid (os_set (HOb.out.below hb1) (own_ne hbk line_str (HOb.out.below hb1)) (i := 11) (.slice A3 L.length C3))
  have HBQ := Lib.hid (hbq.far (j := w.heap.size) (o := 11) (by omega) (.slice A3 L.length C3))
  have HB1 := Lib.hid ((HB.out.trans (hb1.mono HB.out.size)).setCell (p := ⟨w.heap.size, 11, none⟩) (Nat.le_refl _) (.slice A3 L.length C3))
  clear hbq hbk hown hb1
  go_wp2
  rw [HE.out]
  have hq := set13_bk (v0 := .int .i64 s.c.codec) (v1 := .int .i64 s.c.sum) (v2 := .int .i64 s.c.most) (v3 := .int .i64 s.c.map) (v4 := .slice am s.ms.length cm) (v5 := .int .i64 (s.nx : Int)) (v6 := .slice ag s.gs.length cg) (v7 := .string (bzL s.f.held)) (v8 := .bool s.f.over) (v9 := .string (bzL s.h.held)) (v10 := .bool s.h.over) (v11 := .slice A3 L.length C3) (v12 := .slice ab s.bs.length cb) HBQ.out rfl
  exact line_ret2 Tryz.results43 hq rfl rfl rfl ⟨_, _, _, _, _, rfl, ⟨set13_own HPm.out (own_ne HBQ.out line_str HPm.out), set13_own HPg.out (own_ne HBQ.out line_str HPg.out), set13_own HPt.out (own_ne HBQ.out line_str HPt.out), set13_own HPb.out (own_ne HBQ.out line_str HPb.out)⟩, set13_below HB1.out (by omega)⟩
 by_cases hk7 : k = 7
 ·subst hk7
  have HE := Lib.hid (show s.doP 7 = { s with bs := loseP true s.bs } by simp [Ls.doP, loseP])
  have HC := Lib.hid (l8Lose_any (.slice ab s.bs.length cb) s.bs true w0 HOb.out HSOK.out.bl)
  go_enter Tryz.func43, Tryz.ntmps43
  go_wp2_with fail
  rw [← HW.out]
  refine HC.out.mono ?_
  rintro e w1 ⟨u, q, rfl, hown, hb1⟩
  generalize loseP true s.bs = L at *
  obtain ⟨A3, C3, rfl⟩ := hown.reads.shape
  clear c0 c1 c2 c3 c4 c5 c6 c7 c8 c9 c10 c11 c12 z0 z1 z2 z3 z4 z5 z6 z7 z8 z9 z10 z11 z12 f0 f1 f2 f3 f4 f5 f6 f7 f8 f9 f10 f11 f12
  have hbq := HQ.out.from hb1
  have hbk := HK.out.from hb1
  obtain ⟨z0, z1, z2, z3, z4, z5, z6, z7, z8, z9, z10, z11, z12⟩ := cells13 hbq
  obtain ⟨f0, f1, f2, f3, f4, f5, f6, f7, f8, f9, f10, f11, f12⟩ := free13 hbq
  obtain ⟨c0, c1, c2, c3, c4, c5, c6, c7, c8, c9, c10, c11, c12⟩ := cells13 hbk
  have fk := hbk.free 12
  have HPm := Lib.hid (os_set (HOm.out.below hb1) (own_ne hbk line_str (HOm.out.below hb1)) (i := 12) (.slice A3 L.length C3))
  have HPg := Lib.hid (os_set (HOg.out.below hb1) (own_ne hbk line_str (HOg.out.below hb1)) (i := 12) (.slice A3 L.length C3))
  have HPt := Lib.hid (os_set (HOt.out.below hb1) (own_ne hbk line_str (HOt.out.below hb1)) (i := 12) (.slice A3 L.length C3))
  have HPb := Lib.hid (os_set (hown) (own_ne hbk line_str (hown)) (i := 12) (.slice A3 L.length C3))
  have HBQ := Lib.hid (hbq.far (j := w.heap.size) (o := 12) (by omega) (.slice A3 L.length C3))
  have HB1 := Lib.hid ((HB.out.trans (hb1.mono HB.out.size)).setCell (p := ⟨w.heap.size, 12, none⟩) (Nat.le_refl _) (.slice A3 L.length C3))
  clear hbq hbk hown hb1
  go_wp2
  rw [HE.out]
  have hq := set13_bk (v0 := .int .i64 s.c.codec) (v1 := .int .i64 s.c.sum) (v2 := .int .i64 s.c.most) (v3 := .int .i64 s.c.map) (v4 := .slice am s.ms.length cm) (v5 := .int .i64 (s.nx : Int)) (v6 := .slice ag s.gs.length cg) (v7 := .string (bzL s.f.held)) (v8 := .bool s.f.over) (v9 := .string (bzL s.h.held)) (v10 := .bool s.h.over) (v11 := .slice at_ s.ts.length ct) (v12 := .slice A3 L.length C3) HBQ.out rfl
  exact line_ret2 Tryz.results43 hq rfl rfl rfl ⟨_, _, _, _, _, rfl, ⟨set13_own HPm.out (own_ne HBQ.out line_str HPm.out), set13_own HPg.out (own_ne HBQ.out line_str HPg.out), set13_own HPt.out (own_ne HBQ.out line_str HPt.out), set13_own HPb.out (own_ne HBQ.out line_str HPb.out)⟩, set13_below HB1.out (by omega)⟩
 have HE := Lib.hid (show s.doP k = s by simp [Ls.doP, hk1, hk2, hk3, hk4, hk5, hk6, hk7])
 have hq1 : (k == 1) = false := by simpa using hk1
 have hq2 : (k == 2) = false := by simpa using hk2
 have hq3 : (k == 3) = false := by simpa using hk3
 have hq4 : (k == 4) = false := by simpa using hk4
 have hq5 : (k == 5) = false := by simpa using hk5
 have hq6 : (k == 6) = false := by simpa using hk6
 have hq7 : (k == 7) = false := by simpa using hk7
 go_enter Tryz.func43, Tryz.ntmps43
 go_wp2
 rw [HE.out]
 have hqF := BK.new (w.alloc (.cells #[.int .i64 s.c.codec, .int .i64 s.c.sum, .int .i64 s.c.most, .int .i64 s.c.map, .slice am s.ms.length cm, .int .i64 (s.nx : Int), .slice ag s.gs.length cg, .string (bzL s.f.held), .bool s.f.over, .string (bzL s.h.held), .bool s.h.over, .slice at_ s.ts.length ct, .slice ab s.bs.length cb] 32)) #[.int .i64 s.c.codec, .int .i64 s.c.sum, .int .i64 s.c.most, .int .i64 s.c.map, .slice am s.ms.length cm, .int .i64 (s.nx : Int), .slice ag s.gs.length cg, .string (bzL s.f.held), .bool s.f.over, .string (bzL s.h.held), .bool s.h.over, .slice at_ s.ts.length ct, .slice ab s.bs.length cb] 32
 rw [World.size_alloc] at hqF
 have hbF := ((Below.refl w.heap.size w).alloc (Nat.le_refl _) (.cells #[.int .i64 s.c.codec, .int .i64 s.c.sum, .int .i64 s.c.most, .int .i64 s.c.map, .slice am s.ms.length cm, .int .i64 (s.nx : Int), .slice ag s.gs.length cg, .string (bzL s.f.held), .bool s.f.over, .string (bzL s.h.held), .bool s.h.over, .slice at_ s.ts.length ct, .slice ab s.bs.length cb] 32)).alloc (by simp) (.cells #[.int .i64 s.c.codec, .int .i64 s.c.sum, .int .i64 s.c.most, .int .i64 s.c.map, .slice am s.ms.length cm, .int .i64 (s.nx : Int), .slice ag s.gs.length cg, .string (bzL s.f.held), .bool s.f.over, .string (bzL s.h.held), .bool s.h.over, .slice at_ s.ts.length ct, .slice ab s.bs.length cb] 32)
 exact line_ret2 Tryz.results43 hqF rfl rfl rfl ⟨_, _, _, _, _, rfl, HH0.out.below hbF, hbF⟩
end Go.Proofs.YtmggoiabcboaiaaGreat
