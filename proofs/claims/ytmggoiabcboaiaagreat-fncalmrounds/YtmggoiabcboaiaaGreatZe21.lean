/- Parts of a proof, 21: LkV LkL. -/
import Derived.Test.YtmggoiabcboaiaaGreatZe1
import Derived.Test.YtmggoiabcboaiaaGreatZe2
import Derived.Test.YtmggoiabcboaiaaGreatZe3
import Derived.Test.YtmggoiabcboaiaaGreatZe4
import Derived.Test.YtmggoiabcboaiaaGreatZe5
import Derived.Test.YtmggoiabcboaiaaGreatZe6
import Derived.Test.YtmggoiabcboaiaaGreatZe7
import Derived.Test.YtmggoiabcboaiaaGreatZe8
import Derived.Test.YtmggoiabcboaiaaGreatZe9
import Derived.Test.YtmggoiabcboaiaaGreatZe10
import Derived.Test.YtmggoiabcboaiaaGreatZe11
import Derived.Test.YtmggoiabcboaiaaGreatZe12
import Derived.Test.YtmggoiabcboaiaaGreatZe13
import Derived.Test.YtmggoiabcboaiaaGreatZe14
import Derived.Test.YtmggoiabcboaiaaGreatZe15
import Derived.Test.YtmggoiabcboaiaaGreatZe16
import Derived.Test.YtmggoiabcboaiaaGreatZe17
import Derived.Test.YtmggoiabcboaiaaGreatZe18
import Derived.Test.YtmggoiabcboaiaaGreatZe19
import Derived.Test.YtmggoiabcboaiaaGreatZe20
namespace Go.Proofs.YtmggoiabcboaiaaGreat
open Go.ChangeShapes Go.WideShapes Go.ChangeAt Go.RowKit
set_option linter.unusedVariables false
def set13 (W : World) (g : Nat) (v0 v1 v2 v3 v4 v5 v6 v7 v8 v9 v10 v11 v12 : Value) : World := (((((((((((((W.setCell ⟨g, 0, none⟩ v0).setCell ⟨g, 1, none⟩ v1).setCell ⟨g, 2, none⟩ v2).setCell ⟨g, 3, none⟩ v3).setCell ⟨g, 4, none⟩ v4).setCell ⟨g, 5, none⟩ v5).setCell ⟨g, 6, none⟩ v6).setCell ⟨g, 7, none⟩ v7).setCell ⟨g, 8, none⟩ v8).setCell ⟨g, 9, none⟩ v9).setCell ⟨g, 10, none⟩ v10).setCell ⟨g, 11, none⟩ v11).setCell ⟨g, 12, none⟩ v12)
theorem set13_bk {W : World} {g : Nat} {cs : Array Value} {t : TypeId} {v0 v1 v2 v3 v4 v5 v6 v7 v8 v9 v10 v11 v12 : Value} (h : BK W g cs t) (hc : cs.size = 13) : BK (set13 W g v0 v1 v2 v3 v4 v5 v6 v7 v8 v9 v10 v11 v12) g #[v0, v1, v2, v3, v4, v5, v6, v7, v8, v9, v10, v11, v12] t := by
 obtain ⟨c0, c1, c2, c3, c4, c5, c6, c7, c8, c9, c10, c11, c12, rfl⟩ := array13 hc
 have h0 : BK _ g #[v0, c1, c2, c3, c4, c5, c6, c7, c8, c9, c10, c11, c12] t := h.set 0 v0
 have h1 : BK _ g #[v0, v1, c2, c3, c4, c5, c6, c7, c8, c9, c10, c11, c12] t := h0.set 1 v1
 have h2 : BK _ g #[v0, v1, v2, c3, c4, c5, c6, c7, c8, c9, c10, c11, c12] t := h1.set 2 v2
 have h3 : BK _ g #[v0, v1, v2, v3, c4, c5, c6, c7, c8, c9, c10, c11, c12] t := h2.set 3 v3
 have h4 : BK _ g #[v0, v1, v2, v3, v4, c5, c6, c7, c8, c9, c10, c11, c12] t := h3.set 4 v4
 have h5 : BK _ g #[v0, v1, v2, v3, v4, v5, c6, c7, c8, c9, c10, c11, c12] t := h4.set 5 v5
 have h6 : BK _ g #[v0, v1, v2, v3, v4, v5, v6, c7, c8, c9, c10, c11, c12] t := h5.set 6 v6
 have h7 : BK _ g #[v0, v1, v2, v3, v4, v5, v6, v7, c8, c9, c10, c11, c12] t := h6.set 7 v7
 have h8 : BK _ g #[v0, v1, v2, v3, v4, v5, v6, v7, v8, c9, c10, c11, c12] t := h7.set 8 v8
 have h9 : BK _ g #[v0, v1, v2, v3, v4, v5, v6, v7, v8, v9, c10, c11, c12] t := h8.set 9 v9
 have h10 : BK _ g #[v0, v1, v2, v3, v4, v5, v6, v7, v8, v9, v10, c11, c12] t := h9.set 10 v10
 have h11 : BK _ g #[v0, v1, v2, v3, v4, v5, v6, v7, v8, v9, v10, v11, c12] t := h10.set 11 v11
 have h12 : BK _ g #[v0, v1, v2, v3, v4, v5, v6, v7, v8, v9, v10, v11, v12] t := h11.set 12 v12
 exact h12
theorem set13_below {B : Nat} {w W : World} {g : Nat} {v0 v1 v2 v3 v4 v5 v6 v7 v8 v9 v10 v11 v12 : Value} (h : Below B w W) (hg : B ≤ g) : Below B w (set13 W g v0 v1 v2 v3 v4 v5 v6 v7 v8 v9 v10 v11 v12) :=
 (((((((((((((h.setCell (p := ⟨g, 0, none⟩) hg v0).setCell (p := ⟨g, 1, none⟩) hg v1).setCell (p := ⟨g, 2, none⟩) hg v2).setCell (p := ⟨g, 3, none⟩) hg v3).setCell (p := ⟨g, 4, none⟩) hg v4).setCell (p := ⟨g, 5, none⟩) hg v5).setCell (p := ⟨g, 6, none⟩) hg v6).setCell (p := ⟨g, 7, none⟩) hg v7).setCell (p := ⟨g, 8, none⟩) hg v8).setCell (p := ⟨g, 9, none⟩) hg v9).setCell (p := ⟨g, 10, none⟩) hg v10).setCell (p := ⟨g, 11, none⟩) hg v11).setCell (p := ⟨g, 12, none⟩) hg v12)
theorem set13_os {W : World} {base g : Nat} {v : Value} {ss : List ByteArray} {v0 v1 v2 v3 v4 v5 v6 v7 v8 v9 v10 v11 v12 : Value} (h : OS W base v ss) (hg : g < base) : OS (set13 W g v0 v1 v2 v3 v4 v5 v6 v7 v8 v9 v10 v11 v12) base v ss :=
 (OS.put (OS.put (OS.put (OS.put (OS.put (OS.put (OS.put (OS.put (OS.put (OS.put (OS.put (OS.put (OS.put h (p := ⟨g, 0, none⟩) hg v0) (p := ⟨g, 1, none⟩) hg v1) (p := ⟨g, 2, none⟩) hg v2) (p := ⟨g, 3, none⟩) hg v3) (p := ⟨g, 4, none⟩) hg v4) (p := ⟨g, 5, none⟩) hg v5) (p := ⟨g, 6, none⟩) hg v6) (p := ⟨g, 7, none⟩) hg v7) (p := ⟨g, 8, none⟩) hg v8) (p := ⟨g, 9, none⟩) hg v9) (p := ⟨g, 10, none⟩) hg v10) (p := ⟨g, 11, none⟩) hg v11) (p := ⟨g, 12, none⟩) hg v12)
theorem set13_far {W : World} {g j : Nat} {cs : Array Value} {t : TypeId} {v0 v1 v2 v3 v4 v5 v6 v7 v8 v9 v10 v11 v12 : Value} (h : BK W j cs t) (hg : g ≠ j) : BK (set13 W g v0 v1 v2 v3 v4 v5 v6 v7 v8 v9 v10 v11 v12) j cs t :=
 (BK.far (BK.far (BK.far (BK.far (BK.far (BK.far (BK.far (BK.far (BK.far (BK.far (BK.far (BK.far (BK.far h (j := g) (o := 0) hg v0) (j := g) (o := 1) hg v1) (j := g) (o := 2) hg v2) (j := g) (o := 3) hg v3) (j := g) (o := 4) hg v4) (j := g) (o := 5) hg v5) (j := g) (o := 6) hg v6) (j := g) (o := 7) hg v7) (j := g) (o := 8) hg v8) (j := g) (o := 9) hg v9) (j := g) (o := 10) hg v10) (j := g) (o := 11) hg v11) (j := g) (o := 12) hg v12)
end Go.Proofs.YtmggoiabcboaiaaGreat
namespace Go.Proofs.YtmggoiabcboaiaaGreat
open Go.ChangeShapes Go.WideShapes Go.ChangeAt Go.RowKit
set_option linter.unusedVariables false
def zeroLs : Ls := ⟨⟨0, 0, 0, 0⟩, [], 0, [], ⟨[], false⟩, ⟨[], false⟩, [], []⟩
def mkLs (a b d m : Int) (ms : List ByteArray) (nx : Int) (gs : List ByteArray) (T : ByteArray) (tO : Bool) (H : ByteArray) (hO : Bool) (ts bs : List ByteArray) : Ls := ⟨⟨a, b, d, m⟩, ms, nx.toNat, gs, ⟨T.data.toList, tO⟩, ⟨H.data.toList, hO⟩, ts, bs⟩
def okLn (a b d m : Int) (ms : List ByteArray) (nx : Int) (gs : List ByteArray) (T : ByteArray) (tO : Bool) (H : ByteArray) (hO : Bool) (ts bs : List ByteArray) : Bool := lineB ⟨a, b, d, m⟩ ms nx gs.length ⟨T.data.toList, tO⟩ ⟨H.data.toList, hO⟩ ts.length bs.length
abbrev lsV (s : Ls) (vm vb vg vt : Value) : Value := lnV s.c.codec s.c.sum s.c.most s.c.map vm (s.nx : Int) vg (bzL s.f.held) s.f.over (bzL s.h.held) s.h.over vt vb
def ResL (w : World) (s : Ls) (e : Ending) (w' : World) : Prop := ∃ vm vb vg vt, e = .returned (lsV s vm vb vg vt) ∧ (OL w' w.heap.size vm s.ms vg s.gs vt s.ts vb s.bs ∧ Ap4 vm vg vt vb) ∧ Below w.heap.size w w'
theorem okLn_yes {a b d m nx : Int} {ms gs ts bs : List ByteArray} {T H : ByteArray} {tO hO : Bool} (h : okLn a b d m ms nx gs T tO H hO ts bs = true)
  (hz : (∀ s ∈ gs, s.size ≤ 1048576) ∧ (∀ s ∈ ts, s.size ≤ 1048576) ∧ (∀ s ∈ bs, s.size ≤ 1048576)) : (mkLs a b d m ms nx gs T tO H hO ts bs).Ok ∧ nx = ((mkLs a b d m ms nx gs T tO H hO ts bs).nx : Int) := by
 unfold okLn lineB at h
 simp only [Bool.and_eq_true, decide_eq_true_eq] at h
 obtain ⟨h1, h2, h3, h4, h5, h6, h7⟩ := h
 have h3' := h3
 simp only [msgsB, Bool.and_eq_true, decide_eq_true_eq, List.all_eq_true] at h3'
 refine ⟨⟨(okF_yes h1).1, h1, h2, h3'.2, fun x hx => h3'.1 x hx, ?_, h5, hz.1, h6, hz.2.1, h7, hz.2.2⟩, ?_⟩
 ·show nx.toNat ≤ ms.length
  omega
 ·show nx = ((nx.toNat : Nat) : Int)
  omega
def calmRes (s : Ls) (ok : Bool) (r : Int) : Ls := if ok = true ∧ 0 ≤ r ∧ r ≤ 12 then Ls.calmN r.toNat s else zeroLs
theorem zero_res {w w' : World} (hb : Below w.heap.size w w') : ResL w zeroLs (.returned (lnV 0 0 0 0 (.slice none 0 0) 0 (.slice none 0 0) ⟨#[]⟩ false ⟨#[]⟩ false (.slice none 0 0) (.slice none 0 0))) w' :=
 ⟨_, _, _, _, rfl, ⟨⟨OS_nil _ _, OS_nil _ _, OS_nil _ _, OS_nil _ _⟩, ⟨apart_nil _, apart_nil _, apart_nil _⟩, ⟨apart_nil _, apart_nil _, apart_nil _⟩, ⟨apart_nil _, apart_nil _, apart_nil _⟩, ⟨apart_nil _, apart_nil _, apart_nil _⟩⟩, hb⟩
def fewLn (ms gs : List ByteArray) (T H : ByteArray) (ts bs : List ByteArray) : Prop :=
 (T.size ≤ 1048576 ∧ H.size ≤ 1048576) ∧ (ms.length ≤ 1048576 ∧ gs.length ≤ 1048576 ∧ ts.length ≤ 1048576 ∧ bs.length ≤ 1048576) ∧ (∀ s ∈ ms, s.size ≤ 1048576) ∧ (∀ s ∈ gs, s.size ≤ 1048576) ∧ (∀ s ∈ ts, s.size ≤ 1048576) ∧ (∀ s ∈ bs, s.size ≤ 1048576)
set_option maxRecDepth 100000 in
set_option maxHeartbeats 2000000 in
theorem implLineCalm_any (a b d m nx : Int) (vm : Value) (ms : List ByteArray) (vg : Value) (gs : List ByteArray) (vt : Value) (ts : List ByteArray) (vb : Value) (bs : List ByteArray) (T H : ByteArray) (tO hO : Bool) (r : Int) (w : World) (B : Nat) (h : RL w B vm ms vg gs vt ts vb bs) (hB : B ≤ w.heap.size)
  (wa : (Lit.int .i64 a).wf = true) (hs : fewLn ms gs T H ts bs) :
  Calls Tryz.prog 17 #[lnV a b d m vm nx vg T tO H hO vt vb, .int .i64 r] w (ResL w (calmRes (mkLs a b d m ms nx gs T tO H hO ts bs) (okLn a b d m ms nx gs T tO H hO ts bs) r)) := by
 obtain ⟨am, cm, rfl⟩ := h.1.shape
 obtain ⟨ag, cg, rfl⟩ := h.2.1.shape
 obtain ⟨at_, ct, rfl⟩ := h.2.2.1.shape
 obtain ⟨ab, cb, rfl⟩ := h.2.2.2.shape
 have hzl := zero_line
 have hk := (BK.new w #[.int .i64 a, .int .i64 b, .int .i64 d, .int .i64 m, .slice am ms.length cm, .int .i64 nx, .slice ag gs.length cg, .string T, .bool tO, .string H, .bool hO, .slice at_ ts.length ct, .slice ab bs.length cb] 32).alloc (.cells #[.int .i64 0, .int .i64 0, .int .i64 0, .int .i64 0, .slice none 0 0, .int .i64 0, .slice none 0 0, .string ⟨#[]⟩, .bool false, .string ⟨#[]⟩, .bool false, .slice none 0 0, .slice none 0 0] 32)
 have hq := BK.new (w.alloc (.cells #[.int .i64 a, .int .i64 b, .int .i64 d, .int .i64 m, .slice am ms.length cm, .int .i64 nx, .slice ag gs.length cg, .string T, .bool tO, .string H, .bool hO, .slice at_ ts.length ct, .slice ab bs.length cb] 32)) #[.int .i64 0, .int .i64 0, .int .i64 0, .int .i64 0, .slice none 0 0, .int .i64 0, .slice none 0 0, .string ⟨#[]⟩, .bool false, .string ⟨#[]⟩, .bool false, .slice none 0 0, .slice none 0 0] 32
 rw [World.size_alloc] at hq
 have hb := ((Below.refl w.heap.size w).alloc (Nat.le_refl _) (.cells #[.int .i64 a, .int .i64 b, .int .i64 d, .int .i64 m, .slice am ms.length cm, .int .i64 nx, .slice ag gs.length cg, .string T, .bool tO, .string H, .bool hO, .slice at_ ts.length ct, .slice ab bs.length cb] 32)).alloc (by simp) (.cells #[.int .i64 0, .int .i64 0, .int .i64 0, .int .i64 0, .slice none 0 0, .int .i64 0, .slice none 0 0, .string ⟨#[]⟩, .bool false, .string ⟨#[]⟩, .bool false, .slice none 0 0, .slice none 0 0] 32)
 have HR := Lib.hid ((h.mono hB).below hb)
 have HB := Lib.hid hb
 have HQ := Lib.hid hq
 have HK := Lib.hid hk
 have HSM := Lib.hid hs
 obtain ⟨c0, c1, c2, c3, c4, c5, c6, c7, c8, c9, c10, c11, c12⟩ := cells13 hk
 have HLO := Lib.hid (fun (u : World) (hr : RS u w.heap.size (.slice am ms.length cm) ms) (hu : w.heap.size ≤ u.heap.size) => implLineOk_any a b d m nx _ ms ag at_ ab gs.length cg ts.length ct bs.length cb T H tO hO u w.heap.size hr hu wa (by have := HSM.out.1.1; unfold maxLen; omega) (by have := HSM.out.1.2; unfold maxLen; omega) (by have := HSM.out.2.1.1; unfold maxLen; omega) (fun s hs => by have := HSM.out.2.2.1 s hs; unfold maxLen; omega))
 rw [show lineB ⟨a, b, d, m⟩ ms nx gs.length ⟨T.data.toList, tO⟩ ⟨H.data.toList, hO⟩ ts.length bs.length = okLn a b d m ms nx gs T tO H hO ts bs from rfl] at HLO
 have hlens := hs.2.1
 clear h hk hq hb hs
 go_enter Tryz.func17, Tryz.ntmps17
 go_wp2_with fail
 refine (HLO.out _ HR.out.1 HB.out.size).mono ?_
 rintro e w1 ⟨rfl, hb1⟩
 have hk1 := HK.out.from hb1
 have hq1 := HQ.out.from hb1
 have HR1 := Lib.hid (HR.out.below (hb1.mono HB.out.size))
 have HB1 := Lib.hid (HB.out.trans (hb1.mono HB.out.size))
 obtain ⟨c0, c1, c2, c3, c4, c5, c6, c7, c8, c9, c10, c11, c12⟩ := cells13 hk1
 obtain ⟨z0, z1, z2, z3, z4, z5, z6, z7, z8, z9, z10, z11, z12⟩ := cells13 hq1
 obtain ⟨f0, f1, f2, f3, f4, f5, f6, f7, f8, f9, f10, f11, f12⟩ := free13 hq1
 have HQ1 := Lib.hid hq1
 have HK1 := Lib.hid hk1
 clear hb1 hk1 hq1
 by_cases hc : okLn a b d m ms nx gs T tO H hO ts bs = true ∧ 0 ≤ r ∧ r ≤ 12
 ·obtain ⟨hok, hr0, hr12⟩ := hc
  have HV := Lib.hid (show calmRes (mkLs a b d m ms nx gs T tO H hO ts bs) (okLn a b d m ms nx gs T tO H hO ts bs) r = Ls.calmN r.toNat (mkLs a b d m ms nx gs T tO H hO ts bs) by unfold calmRes; rw [if_pos ⟨hok, hr0, hr12⟩])
  obtain ⟨hoks, hnx⟩ := okLn_yes hok ⟨HSM.out.2.2.2.1, HSM.out.2.2.2.2.1, HSM.out.2.2.2.2.2⟩
  have HOK := Lib.hid hoks
  have HLK := Lib.hid (fun (u : World) (hr : RL u w.heap.size (.slice am ms.length cm) ms (.slice ag gs.length cg) gs (.slice at_ ts.length ct) ts (.slice ab bs.length cb) bs) (hu : w.heap.size ≤ u.heap.size) => linkOf_any a b d m nx _ hnx _ ms _ gs _ ts _ bs T H tO hO u w.heap.size hr hu HSM.out.1.1 HSM.out.1.2 ⟨HSM.out.2.1.1, HSM.out.2.1.2.1, HSM.out.2.1.2.2.1, HSM.out.2.1.2.2.2⟩ ⟨HSM.out.2.2.1, HSM.out.2.2.2.1, HSM.out.2.2.2.2.1, HSM.out.2.2.2.2.2⟩)
  rw [hok]
  obtain ⟨n, rfl⟩ := Int.eq_ofNat_of_zero_le hr0
  clear hoks hnx hok
  have hr12' : n ≤ 12 := by omega
  go_wp2_with fail
  refine (HLK.out _ HR1.out HB1.out.size).mono ?_
  rintro e w2 ⟨g, um, ub, ug, ut, rfl, hlk, hb2⟩
  have HB2 := Lib.hid (HB1.out.trans (hb2.mono HB1.out.size))
  have HQ2 := Lib.hid (HQ1.out.from hb2)
  have HL2 := Lib.hid (show LK w2 w1.heap.size g (mkLs a b d m ms nx gs T tO H hO ts bs) from ⟨_, _, _, _, hlk⟩)
  clear hlk hb2
  go_wp2
  go_loopw [21] (fun i wr => ∃ k : Nat, k ≤ n ∧ i = .int .i64 (k : Int) ∧ LK wr w1.heap.size g (Ls.calmN k (mkLs a b d m ms nx gs T tO H hO ts bs)) ∧ Below w1.heap.size w2 wr) (fun i _ => n - (intOf i).toNat)
  case atStart => exact ⟨0, Nat.zero_le _, rfl, HL2.out, Below.refl _ _⟩
  case round =>
   obtain ⟨k, hk, rfl, hlk, hb⟩ := hrel
   have HL := Lib.hid hlk
   have HBr := Lib.hid hb
   clear hlk hb
   by_cases hlt : k < n
   ·go_wp2_with fail
    refine (calm_any _ (Ls.Ok.calmN k HOK.out) _ w1.heap.size g HL.out).mono ?_
    rintro e w3 ⟨rfl, hk3, hb3⟩
    have HK3 := Lib.hid hk3
    have HB3 := Lib.hid (HBr.out.trans hb3)
    clear hk3 hb3
    go_wp2
    go_roundw
    case rel => exact ⟨k + 1, by omega, by go_num, HK3.out, HB3.out⟩
    case measure => simp [intOf]; omega
   ·have hkn : k = n := by omega
    have HV2 := Lib.hid (HV.out.trans (show Ls.calmN ((n : Int)).toNat (mkLs a b d m ms nx gs T tO H hO ts bs) = Ls.calmN k (mkLs a b d m ms nx gs T tO H hO ts bs) by rw [hkn]; rfl))
    clear hkn
    generalize Ls.calmN k (mkLs a b d m ms nx gs T tO H hO ts bs) = q at *
    obtain ⟨xm, xb, xg, xt, hl4⟩ := HL.out
    obtain ⟨axm, cxm, rfl⟩ := hl4.om.reads.shape
    obtain ⟨axb, cxb, rfl⟩ := hl4.ob.reads.shape
    obtain ⟨axg, cxg, rfl⟩ := hl4.og.reads.shape
    obtain ⟨axt, cxt, rfl⟩ := hl4.ot.reads.shape
    have HL4 := Lib.hid hl4
    clear hl4
    go_wp2_with fail
    refine (shown_any q _ _ _ _ _ w1.heap.size g HL4.out).mono ?_
    rintro e w4 ⟨rfl, hb4⟩
    have HL5 := Lib.hid (HL4.out.below hb4)
    have HB5 := Lib.hid (HBr.out.trans (hb4.mono HL4.out.bw))
    have hq5 := HQ2.out.below HB5.out (by have := HQ1.out.lt; omega)
    have HB6 := Lib.hid (HB2.out.trans (HB5.out.mono HB1.out.size))
    obtain ⟨z0, z1, z2, z3, z4, z5, z6, z7, z8, z9, z10, z11, z12⟩ := cells13 hq5
    obtain ⟨f0, f1, f2, f3, f4, f5, f6, f7, f8, f9, f10, f11, f12⟩ := free13 hq5
    have HQ5 := Lib.hid hq5
    have hbs := HQ1.out.lt
    clear hb4 hq5
    go_wp2
    rw [HV2.out]
    have hq := set13_bk (v0 := .int .i64 q.c.codec) (v1 := .int .i64 q.c.sum) (v2 := .int .i64 q.c.most) (v3 := .int .i64 q.c.map) (v4 := .slice axm q.ms.length cxm) (v5 := .int .i64 (q.nx : Int)) (v6 := .slice axg q.gs.length cxg) (v7 := .string (bzL q.f.held)) (v8 := .bool q.f.over) (v9 := .string (bzL q.h.held)) (v10 := .bool q.h.over) (v11 := .slice axt q.ts.length cxt) (v12 := .slice axb q.bs.length cxb) HQ5.out rfl
    refine line_ret Tryz.results17 hq rfl rfl ⟨_, _, _, _, rfl, ⟨⟨?_, ?_, ?_, ?_⟩, HL5.out.ap⟩, ?_⟩
    ·exact (set13_os HL5.out.om (by omega)).mono (by have := HB1.out.size; omega)
    ·exact (set13_os HL5.out.og (by omega)).mono (by have := HB1.out.size; omega)
    ·exact (set13_os HL5.out.ot (by omega)).mono (by have := HB1.out.size; omega)
    ·exact (set13_os HL5.out.ob (by omega)).mono (by have := HB1.out.size; omega)
    ·exact set13_below HB6.out (by omega)
 ·have HV := Lib.hid (show calmRes (mkLs a b d m ms nx gs T tO H hO ts bs) (okLn a b d m ms nx gs T tO H hO ts bs) r = zeroLs by unfold calmRes; rw [if_neg hc])
  have hq := set13_bk (v0 := .int .i64 0) (v1 := .int .i64 0) (v2 := .int .i64 0) (v3 := .int .i64 0) (v4 := .slice none 0 0) (v5 := .int .i64 0) (v6 := .slice none 0 0) (v7 := .string ⟨#[]⟩) (v8 := .bool false) (v9 := .string ⟨#[]⟩) (v10 := .bool false) (v11 := .slice none 0 0) (v12 := .slice none 0 0) HQ1.out rfl
  have HQ := Lib.hid hq
  have HBZ := Lib.hid (show Below w.heap.size w _ from set13_below (g := w.heap.size + 1) (v0 := .int .i64 0) (v1 := .int .i64 0) (v2 := .int .i64 0) (v3 := .int .i64 0) (v4 := .slice none 0 0) (v5 := .int .i64 0) (v6 := .slice none 0 0) (v7 := .string ⟨#[]⟩) (v8 := .bool false) (v9 := .string ⟨#[]⟩) (v10 := .bool false) (v11 := .slice none 0 0) (v12 := .slice none 0 0) HB1.out (by omega))
  clear hq
  rcases (show okLn a b d m ms nx gs T tO H hO ts bs = false ∨ (okLn a b d m ms nx gs T tO H hO ts bs = true ∧ r < 0) ∨ (okLn a b d m ms nx gs T tO H hO ts bs = true ∧ 0 ≤ r ∧ 12 < r) by
   cases ho : okLn a b d m ms nx gs T tO H hO ts bs with
   | false => exact .inl rfl
   | true =>
    right
    rw [ho] at hc
    simp only [true_and] at hc
    rcases (show r < 0 ∨ (0 ≤ r ∧ 12 < r) by omega) with h | h
    ·exact .inl ⟨rfl, h⟩
    ·exact .inr ⟨rfl, h⟩) with h1 | ⟨h1, h2⟩ | ⟨h1, h2, h3⟩
  all_goals
   rw [h1]
   clear hc h1
   go_wp2
   rw [HV.out] at *
   exact line_ret Tryz.results17 HQ.out rfl rfl (zero_res HBZ.out)
end Go.Proofs.YtmggoiabcboaiaaGreat
