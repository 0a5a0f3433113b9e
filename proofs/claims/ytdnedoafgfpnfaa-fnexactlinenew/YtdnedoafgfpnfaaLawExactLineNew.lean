/- FnExactLineNew: LineNew of the program answers as the model's, writes into no argument, and its answer owns its memory. No condition. -/
import Derived.Test.YtdnedoafgfpnfaaLnG
namespace Go.Proofs.Ytdnedoafgfpnfaa.fnExactLineNew
open Go.ChangeShapes Go.WideShapes Go.ChangeAt Go.RowKit
set_option linter.unusedVariables false
def ResN (w : World) (a b d m : Int) (ms : List ByteArray) (e : Ending) (w' : World) : Prop :=
  ∃ v, e = .returned (lnV a b d m v 0 (.slice none 0 0) ⟨#[]⟩ false ⟨#[]⟩ false (.slice none 0 0) (.slice none 0 0)) ∧ OS w' w.heap.size v ms ∧ Below w.heap.size w w'
def nz (q : Bool) (x : Int) : Int := if q = true then x else 0
def nl (q : Bool) (ms : List ByteArray) : List ByteArray := if q = true then ms else []
theorem nl_len {q : Bool} {ms : List ByteArray} {n : Nat} (h : ms.length ≤ n) : (nl q ms).length ≤ n := by
  unfold nl
  split
  · exact h
  · simp
theorem cell4 {W : World} {g : Nat} {t : TypeId} {a b d m : Int} (h : BK W g #[.int .i64 a, .int .i64 b, .int .i64 d, .int .i64 m] t) : W.cell? ⟨g, 0, none⟩ = some (.int .i64 a) ∧ W.cell? ⟨g, 1, none⟩ = some (.int .i64 b) ∧ W.cell? ⟨g, 2, none⟩ = some (.int .i64 d) ∧ W.cell? ⟨g, 3, none⟩ = some (.int .i64 m) := ⟨h.cell rfl, h.cell rfl, h.cell rfl, h.cell rfl⟩
theorem res_of {w : World} {a b d m : Int} {ms : List ByteArray} {e : Ending} {w' : World} (h : NewPost w a b d m ms e w') : ResN w (nz (newB ⟨a, b, d, m⟩ ms) a) (nz (newB ⟨a, b, d, m⟩ ms) b) (nz (newB ⟨a, b, d, m⟩ ms) d) (nz (newB ⟨a, b, d, m⟩ ms) m) (nl (newB ⟨a, b, d, m⟩ ms) ms) e w' := by
  rcases h with ⟨hn, v, rfl, ho, hb⟩ | ⟨hn, rfl, hb⟩
  · rw [hn]; exact ⟨v, rfl, ho, hb⟩
  · rw [hn]; exact ⟨_, rfl, OS_nil _ _, hb⟩
theorem olN {w : World} {base : Nat} {v : Value} {ms : List ByteArray} (h : OS w base v ms) : OL w base v ms (.slice none 0 0) [] (.slice none 0 0) [] (.slice none 0 0) [] := ⟨h, OS_nil _ _, OS_nil _ _, OS_nil _ _⟩
theorem rlN {w : World} {B : Nat} {v : Value} {ms : List ByteArray} (h : RS w B v ms) : RL w B v ms (.slice none 0 0) [] (.slice none 0 0) [] (.slice none 0 0) [] := ⟨h, RS_nil _ _, RS_nil _ _, RS_nil _ _⟩
/-- a row of one's own behind another that is marked -/
theorem OS.past {w w' : World} {base base' : Nat} {v u : Value} {ss us : List ByteArray} (h : OS w base v ss) (hu : OS w base' u us) (hlt : ∀ k, u.ownBlock = some k → k < base) (hg : w.grownBy w' u.ownBlock) : OS w' base v ss := by
  refine h.kept hg ?_
  cases hv : v.ownBlock with
  | none => exact .inl rfl
  | some k => exact .inr (fun e => by have h1 := (h.low k hv).1; have h2 := hlt k e.symm; omega)
set_option maxRecDepth 100000 in
set_option maxHeartbeats 8000000 in
theorem walk (a0_0 : Int) (a0_1 : Int) (a0_2 : Int) (a0_3 : Int) (a1 : Option Addr) (len1 cap1 : Nat) (z1 : List ByteArray) (w : World) (w0_0 : (Lit.int .i64 a0_0).wf = true) (w0_1 : (Lit.int .i64 a0_1).wf = true) (w0_2 : (Lit.int .i64 a0_2).wf = true) (w0_3 : (Lit.int .i64 a0_3).wf = true) (w1 : IsStrs w a1 len1 cap1 z1) :
    Calls Try.prog 6 #[.agg #[.int .i64 a0_0, .int .i64 a0_1, .int .i64 a0_2, .int .i64 a0_3], .slice a1 len1 cap1] w fun e w' => e = .returned (.bool true) ∧ Below w.heap.size w w' := by
  obtain ⟨hr, hlen, hz⟩ := RS.of_arg w1
  have hw1 : len1 ≤ maxLen := by
    rcases w1 with ⟨_, rfl, _⟩ | ⟨x, _, h1, h2, _⟩
    · exact Nat.zero_le _
    · omega
  generalize z1.take len1 = ss at hr hlen hz
  subst hlen
  have hzl := zero_line
  have hb0 : Below w.heap.size w (w.alloc (.cells #[.int .i64 a0_0, .int .i64 a0_1, .int .i64 a0_2, .int .i64 a0_3] 45)) := (Below.refl _ w).alloc (Nat.le_refl _) _
  have hk := BK.new w #[.int .i64 a0_0, .int .i64 a0_1, .int .i64 a0_2, .int .i64 a0_3] 45
  obtain ⟨c0, c1, c2, c3⟩ := cell4 hk
  have HA := Lib.hid (hr.below hb0)
  have HB := Lib.hid hb0
  have HK := Lib.hid hk
  have HZ := Lib.hid hz
  clear w1 hr hk hb0 hz
  go_enter Try.func6, Try.ntmps6
  go_wp2_with fail
  refine (szS_any _ ss 1048576 _ w.heap.size HA.out (by omega) hw1 HZ.out).mono ?_
  rintro e x1 ⟨z, rfl, hbx, hsz⟩
  have hk := HK.out.from hbx
  obtain ⟨c0, c1, c2, c3⟩ := cell4 hk
  have HK := Lib.hid hk
  clear hk
  have HA := Lib.hid (HA.out.below (hbx.mono HB.out.size))
  have HB := Lib.hid (HB.out.trans (hbx.mono HB.out.size))
  clear hbx
  rcases hsz with rfl | ⟨hz0, hz1, hss⟩
  · go_wp2
    go_ret
    exact ⟨rfl, HB.out⟩
  have HSS := Lib.hid hss
  have hsl := hss.1
  clear hss
  obtain ⟨q, hq⟩ : ∃ q, q = newB ⟨a0_0, a0_1, a0_2, a0_3⟩ ss := ⟨_, rfl⟩
  obtain ⟨ra, hra⟩ : ∃ x, x = nz q a0_0 := ⟨_, rfl⟩
  obtain ⟨rb, hrb⟩ : ∃ x, x = nz q a0_1 := ⟨_, rfl⟩
  obtain ⟨rd, hrd⟩ : ∃ x, x = nz q a0_2 := ⟨_, rfl⟩
  obtain ⟨rm, hrm⟩ : ∃ x, x = nz q a0_3 := ⟨_, rfl⟩
  obtain ⟨ms, hms⟩ : ∃ x, x = nl q ss := ⟨_, rfl⟩
  have hmsl : ms.length ≤ 1048576 := by rw [hms]; exact nl_len hsl
  have HSP := Lib.hid (show ∀ (W : World) (BB : Nat) (v : Value), RS W BB v ss → BB ≤ W.heap.size → Calls Try.prog 10 #[cfV a0_0 a0_1 a0_2 a0_3, v] W (ResN W ra rb rd rm ms) from fun W BB v h1 h2 => (specLineNew_any a0_0 a0_1 a0_2 a0_3 v ss W BB h1 h2 HSS.out.1 HSS.out.2).mono (fun e w' h => by rw [hra, hrb, hrd, hrm, hms, hq]; exact res_of h))
  have HIM := Lib.hid (show ∀ (W : World) (BB : Nat) (v : Value), RS W BB v ss → BB ≤ W.heap.size → Calls Try.prog 8 #[cfV a0_0 a0_1 a0_2 a0_3, v] W (ResN W ra rb rd rm ms) from fun W BB v h1 h2 => (implLineNew_any a0_0 a0_1 a0_2 a0_3 v ss W BB h1 h2 w0_0 HSS.out.1 HSS.out.2).mono (fun e w' h => by rw [hra, hrb, hrd, hrm, hms, hq]; exact res_of h))
  clear hq hra hrb hrd hrm hms
  go_wp2_with fail
  refine (toConf_any a0_0 a0_1 a0_2 a0_3 _).mono ?_
  rintro e x2 ⟨rfl, hbx⟩
  have hk := HK.out.from hbx
  obtain ⟨c0, c1, c2, c3⟩ := cell4 hk
  have HK := Lib.hid hk
  clear hk
  have HA := Lib.hid (HA.out.below (hbx.mono HB.out.size))
  have HB := Lib.hid (HB.out.trans (hbx.mono HB.out.size))
  clear hbx
  go_wp2_with fail
  refine (copy_any _ ss _ w.heap.size HA.out HB.out.size hsl).mono ?_
  rintro e x3 ⟨⟨v3, rfl, ho3⟩, hbx⟩
  have ho3 : OS _ _ v3 ss := ho3
  have hk := HK.out.from hbx
  obtain ⟨c0, c1, c2, c3⟩ := cell4 hk
  have HK := Lib.hid hk
  clear hk
  have HA := Lib.hid (HA.out.below (hbx.mono HB.out.size))
  have HB := Lib.hid (HB.out.trans (hbx.mono HB.out.size))
  have HO3 := Lib.hid ho3
  clear ho3
  clear hbx
  go_wp2_with fail
  refine (HSP.out _ _ _ HO3.out.reads (Nat.le_refl _)).mono ?_
  rintro e x4 ⟨v4, rfl, ho4, hbx⟩
  obtain ⟨A4, C4, hsh⟩ := ho4.reads.shape
  subst hsh
  have hk := (HK.out.from hbx).alloc (.cells #[.int .i64 ra, .int .i64 rb, .int .i64 rd, .int .i64 rm, .slice A4 ms.length C4, .int .i64 0, .slice none 0 0, .string ⟨#[]⟩, .bool false, .string ⟨#[]⟩, .bool false, .slice none 0 0, .slice none 0 0] 31)
  obtain ⟨c0, c1, c2, c3⟩ := cell4 hk
  have HK := Lib.hid hk
  clear hk
  have HA := Lib.hid ((HA.out.below (hbx.mono HB.out.size)).below ((Below.refl _ _).alloc (Nat.le_trans HB.out.size hbx.size) (.cells #[.int .i64 ra, .int .i64 rb, .int .i64 rd, .int .i64 rm, .slice A4 ms.length C4, .int .i64 0, .slice none 0 0, .string ⟨#[]⟩, .bool false, .string ⟨#[]⟩, .bool false, .slice none 0 0, .slice none 0 0] 31)))
  have hj := BK.new x4 #[.int .i64 ra, .int .i64 rb, .int .i64 rd, .int .i64 rm, .slice A4 ms.length C4, .int .i64 0, .slice none 0 0, .string ⟨#[]⟩, .bool false, .string ⟨#[]⟩, .bool false, .slice none 0 0, .slice none 0 0] 31
  obtain ⟨e0, e1, e2, e3, e4, e5, e6, e7, e8, e9, e10, e11, e12⟩ := cells13 hj
  have HJ := Lib.hid hj
  have HW := Lib.hid (ho4.alloc (.cells #[.int .i64 ra, .int .i64 rb, .int .i64 rd, .int .i64 rm, .slice A4 ms.length C4, .int .i64 0, .slice none 0 0, .string ⟨#[]⟩, .bool false, .string ⟨#[]⟩, .bool false, .slice none 0 0, .slice none 0 0] 31))
  clear hj ho4
  have HB := Lib.hid ((HB.out.trans (hbx.mono HB.out.size)).alloc (Nat.le_trans HB.out.size hbx.size) (.cells #[.int .i64 ra, .int .i64 rb, .int .i64 rd, .int .i64 rm, .slice A4 ms.length C4, .int .i64 0, .slice none 0 0, .string ⟨#[]⟩, .bool false, .string ⟨#[]⟩, .bool false, .slice none 0 0, .slice none 0 0] 31))
  clear hbx
  clear HO3
  have HWL := Lib.hid (fun k hk => (HW.out.low k hk).2)
  have HBX := Lib.hid HB.out.size
  go_wp2_with fail
  refine (copy_any _ ss _ w.heap.size HA.out HB.out.size hsl).mono ?_
  rintro e x5 ⟨⟨v5, rfl, ho5⟩, hbx⟩
  have HB5 := Lib.hid hbx.size
  have ho5 : OS _ _ v5 ss := ho5
  have hj := HJ.out.from hbx
  obtain ⟨e0, e1, e2, e3, e4, e5, e6, e7, e8, e9, e10, e11, e12⟩ := cells13 hj
  have HJ := Lib.hid hj
  clear hj
  have HW := Lib.hid (HW.out.below hbx)
  have hk := HK.out.from hbx
  obtain ⟨c0, c1, c2, c3⟩ := cell4 hk
  have HK := Lib.hid hk
  clear hk
  have HA := Lib.hid (HA.out.below (hbx.mono HB.out.size))
  have HB := Lib.hid (HB.out.trans (hbx.mono HB.out.size))
  have HX := Lib.hid ho5
  clear ho5
  clear hbx
  go_wp2_with fail
  refine (toConf_any a0_0 a0_1 a0_2 a0_3 _).mono ?_
  rintro e x6 ⟨rfl, hbx⟩
  have HBB := Lib.hid (Nat.le_trans HB5.out hbx.size)
  have hj := HJ.out.from hbx
  obtain ⟨e0, e1, e2, e3, e4, e5, e6, e7, e8, e9, e10, e11, e12⟩ := cells13 hj
  have HJ := Lib.hid hj
  clear hj
  have HW := Lib.hid (HW.out.below hbx)
  have HX := Lib.hid (HX.out.below hbx)
  have hk := HK.out.from hbx
  obtain ⟨c0, c1, c2, c3⟩ := cell4 hk
  have HK := Lib.hid hk
  clear hk
  have HA := Lib.hid (HA.out.below (hbx.mono HB.out.size))
  have HB := Lib.hid (HB.out.trans (hbx.mono HB.out.size))
  clear hbx
  go_wp2_with fail
  refine (HIM.out _ _ _ HX.out.reads (Nat.le_refl _)).mono ?_
  rintro e x7 ⟨v7, rfl, ho7, hbx⟩
  have HX67 := Lib.hid hbx.size
  obtain ⟨A7, C7, hsh⟩ := ho7.reads.shape
  subst hsh
  have hj := (HJ.out.from hbx).alloc (.cells #[.int .i64 ra, .int .i64 rb, .int .i64 rd, .int .i64 rm, .slice A7 ms.length C7, .int .i64 0, .slice none 0 0, .string ⟨#[]⟩, .bool false, .string ⟨#[]⟩, .bool false, .slice none 0 0, .slice none 0 0] 31)
  obtain ⟨e0, e1, e2, e3, e4, e5, e6, e7, e8, e9, e10, e11, e12⟩ := cells13 hj
  have HJ := Lib.hid hj
  clear hj
  have HW := Lib.hid ((HW.out.below hbx).alloc (.cells #[.int .i64 ra, .int .i64 rb, .int .i64 rd, .int .i64 rm, .slice A7 ms.length C7, .int .i64 0, .slice none 0 0, .string ⟨#[]⟩, .bool false, .string ⟨#[]⟩, .bool false, .slice none 0 0, .slice none 0 0] 31))
  have hxl := fun k hk => (HX.out.low k hk).2
  have HXL := Lib.hid hxl
  clear hxl
  have HX := Lib.hid ((HX.out.below hbx).alloc (.cells #[.int .i64 ra, .int .i64 rb, .int .i64 rd, .int .i64 rm, .slice A7 ms.length C7, .int .i64 0, .slice none 0 0, .string ⟨#[]⟩, .bool false, .string ⟨#[]⟩, .bool false, .slice none 0 0, .slice none 0 0] 31))
  have hk := (HK.out.from hbx).alloc (.cells #[.int .i64 ra, .int .i64 rb, .int .i64 rd, .int .i64 rm, .slice A7 ms.length C7, .int .i64 0, .slice none 0 0, .string ⟨#[]⟩, .bool false, .string ⟨#[]⟩, .bool false, .slice none 0 0, .slice none 0 0] 31)
  obtain ⟨c0, c1, c2, c3⟩ := cell4 hk
  have HK := Lib.hid hk
  clear hk
  have HA := Lib.hid ((HA.out.below (hbx.mono HB.out.size)).below ((Below.refl _ _).alloc (Nat.le_trans HB.out.size hbx.size) (.cells #[.int .i64 ra, .int .i64 rb, .int .i64 rd, .int .i64 rm, .slice A7 ms.length C7, .int .i64 0, .slice none 0 0, .string ⟨#[]⟩, .bool false, .string ⟨#[]⟩, .bool false, .slice none 0 0, .slice none 0 0] 31)))
  have hi := BK.new x7 #[.int .i64 ra, .int .i64 rb, .int .i64 rd, .int .i64 rm, .slice A7 ms.length C7, .int .i64 0, .slice none 0 0, .string ⟨#[]⟩, .bool false, .string ⟨#[]⟩, .bool false, .slice none 0 0, .slice none 0 0] 31
  obtain ⟨i0, i1, i2, i3, i4, i5, i6, i7, i8, i9, i10, i11, i12⟩ := cells13 hi
  have HI := Lib.hid hi
  have HG := Lib.hid (ho7.alloc (.cells #[.int .i64 ra, .int .i64 rb, .int .i64 rd, .int .i64 rm, .slice A7 ms.length C7, .int .i64 0, .slice none 0 0, .string ⟨#[]⟩, .bool false, .string ⟨#[]⟩, .bool false, .slice none 0 0, .slice none 0 0] 31))
  clear hi ho7
  have HB := Lib.hid ((HB.out.trans (hbx.mono HB.out.size)).alloc (Nat.le_trans HB.out.size hbx.size) (.cells #[.int .i64 ra, .int .i64 rb, .int .i64 rd, .int .i64 rm, .slice A7 ms.length C7, .int .i64 0, .slice none 0 0, .string ⟨#[]⟩, .bool false, .string ⟨#[]⟩, .bool false, .slice none 0 0, .slice none 0 0] 31))
  clear hbx
  go_wp2_with fail
  refine (eqLine_same ra rb rd rm _ ms 0 _ [] ⟨#[]⟩ false ⟨#[]⟩ false _ [] _ [] _ _ _ _ _ _ _ (rlN HG.out.reads) (rlN HW.out.reads) (Nat.le_refl _) (Nat.le_refl _) hmsl (by simp) (by simp) (by simp)).mono ?_
  rintro e x8 ⟨rfl, hbx⟩
  have hj := HJ.out.from hbx
  obtain ⟨e0, e1, e2, e3, e4, e5, e6, e7, e8, e9, e10, e11, e12⟩ := cells13 hj
  have HJ := Lib.hid hj
  clear hj
  have HW := Lib.hid (HW.out.below hbx)
  have hi := HI.out.from hbx
  obtain ⟨i0, i1, i2, i3, i4, i5, i6, i7, i8, i9, i10, i11, i12⟩ := cells13 hi
  have HI := Lib.hid hi
  clear hi
  have HG := Lib.hid (HG.out.below hbx)
  have HX := Lib.hid (HX.out.below hbx)
  have hk := HK.out.from hbx
  obtain ⟨c0, c1, c2, c3⟩ := cell4 hk
  have HK := Lib.hid hk
  clear hk
  have HA := Lib.hid (HA.out.below (hbx.mono HB.out.size))
  have HB := Lib.hid (HB.out.trans (hbx.mono HB.out.size))
  clear hbx
  go_wp2_with fail
  refine (copy_any _ ss _ w.heap.size HA.out HB.out.size hsl).mono ?_
  rintro e x9 ⟨⟨v9, rfl, ho9⟩, hbx⟩
  have ho9 : OS _ _ v9 ss := ho9
  have hj := HJ.out.from hbx
  obtain ⟨e0, e1, e2, e3, e4, e5, e6, e7, e8, e9, e10, e11, e12⟩ := cells13 hj
  have HJ := Lib.hid hj
  clear hj
  have HW := Lib.hid (HW.out.below hbx)
  have hi := HI.out.from hbx
  obtain ⟨i0, i1, i2, i3, i4, i5, i6, i7, i8, i9, i10, i11, i12⟩ := cells13 hi
  have HI := Lib.hid hi
  clear hi
  have HG := Lib.hid (HG.out.below hbx)
  have HX := Lib.hid (HX.out.below hbx)
  have hk := HK.out.from hbx
  obtain ⟨c0, c1, c2, c3⟩ := cell4 hk
  have HK := Lib.hid hk
  clear hk
  have HA := Lib.hid (HA.out.below (hbx.mono HB.out.size))
  have HB := Lib.hid (HB.out.trans (hbx.mono HB.out.size))
  have HO9 := Lib.hid ho9
  clear ho9
  clear hbx
  go_wp2_with fail
  refine (eqStrs_same v5 v9 ss _ _ _ HX.out.reads HO9.out.reads (Nat.le_refl _) (Nat.le_refl _) hsl).mono ?_
  rintro e x10 ⟨rfl, hbx⟩
  have hj := HJ.out.from hbx
  obtain ⟨e0, e1, e2, e3, e4, e5, e6, e7, e8, e9, e10, e11, e12⟩ := cells13 hj
  have HJ := Lib.hid hj
  clear hj
  have HW := Lib.hid (HW.out.below hbx)
  have hi := HI.out.from hbx
  obtain ⟨i0, i1, i2, i3, i4, i5, i6, i7, i8, i9, i10, i11, i12⟩ := cells13 hi
  have HI := Lib.hid hi
  clear hi
  have HG := Lib.hid (HG.out.below hbx)
  have HX := Lib.hid (HX.out.below hbx)
  clear HO9
  have hk := HK.out.from hbx
  obtain ⟨c0, c1, c2, c3⟩ := cell4 hk
  have HK := Lib.hid hk
  clear hk
  have HA := Lib.hid (HA.out.below (hbx.mono HB.out.size))
  have HB := Lib.hid (HB.out.trans (hbx.mono HB.out.size))
  clear hbx
  go_wp2_with fail
  refine (markS_any v5 ss 1 _ _ HX.out (by omega) (by omega)).mono ?_
  rintro e x11 ⟨rfl, ho11, hg⟩
  have hk := HK.out.os (by decide) HX.out hg
  obtain ⟨c0, c1, c2, c3⟩ := cell4 hk
  have HK := Lib.hid hk
  clear hk
  have hj := HJ.out.os (by decide) HX.out hg
  obtain ⟨e0, e1, e2, e3, e4, e5, e6, e7, e8, e9, e10, e11, e12⟩ := cells13 hj
  have HJ := Lib.hid hj
  have hi := HI.out.os (by decide) HX.out hg
  obtain ⟨i0, i1, i2, i3, i4, i5, i6, i7, i8, i9, i10, i11, i12⟩ := cells13 hi
  have HI := Lib.hid hi
  have HW := Lib.hid (HW.out.kept hg (apart_of HWL.out HX.out).1)
  have HG := Lib.hid (HG.out.kept hg (apart_of HXL.out HG.out).2)
  have HA := Lib.hid (HA.out.below ((Below.refl w.heap.size _).grown hg HB.out.size (fun k hk => Nat.le_trans HBX.out (HX.out.low k hk).1)))
  have HB := Lib.hid (HB.out.grown hg HB.out.size (fun k hk => Nat.le_trans HBX.out (HX.out.low k hk).1))
  clear hj hi ho11 hg HX
  go_wp2_with fail
  refine (eqLine_same ra rb rd rm _ ms 0 _ [] ⟨#[]⟩ false ⟨#[]⟩ false _ [] _ [] _ _ _ _ _ _ _ (rlN HG.out.reads) (rlN HW.out.reads) (Nat.le_refl _) (Nat.le_refl _) hmsl (by simp) (by simp) (by simp)).mono ?_
  rintro e x12 ⟨rfl, hbx⟩
  have hj := HJ.out.from hbx
  obtain ⟨e0, e1, e2, e3, e4, e5, e6, e7, e8, e9, e10, e11, e12⟩ := cells13 hj
  have HJ := Lib.hid hj
  clear hj
  have HW := Lib.hid (HW.out.below hbx)
  have hi := HI.out.from hbx
  obtain ⟨i0, i1, i2, i3, i4, i5, i6, i7, i8, i9, i10, i11, i12⟩ := cells13 hi
  have HI := Lib.hid hi
  clear hi
  have HG := Lib.hid (HG.out.below hbx)
  have hk := HK.out.from hbx
  obtain ⟨c0, c1, c2, c3⟩ := cell4 hk
  have HK := Lib.hid hk
  clear hk
  have HA := Lib.hid (HA.out.below (hbx.mono HB.out.size))
  have HB := Lib.hid (HB.out.trans (hbx.mono HB.out.size))
  clear hbx
  go_wp2_with fail
  refine (markLine_any ra rb rd rm _ ms 0 _ [] ⟨#[]⟩ false ⟨#[]⟩ false _ [] _ [] _ _ (olN HG.out) (ap4_one _) (by simp only [List.length_nil]; omega)).mono ?_
  rintro e x13 ⟨rfl, hol, hfb, hsz, hkb⟩
  have HI0 := HI
  simp only [List.length_nil, Nat.add_zero] at hol ⊢
  have hk := hkb _ _ _ (by decide) HK.out
  obtain ⟨c0, c1, c2, c3⟩ := cell4 hk
  have HK := Lib.hid hk
  clear hk
  have hj := hkb _ _ _ (by decide) HJ.out
  obtain ⟨e0, e1, e2, e3, e4, e5, e6, e7, e8, e9, e10, e11, e12⟩ := cells13 hj
  have HJ := Lib.hid hj
  have hi := hkb _ _ _ (by decide) HI.out
  obtain ⟨i0, i1, i2, i3, i4, i5, i6, i7, i8, i9, i10, i11, i12⟩ := cells13 hi
  have HI := Lib.hid hi
  have hbb := hfb _ (Nat.le_refl _) (Nat.le_trans HX67.out (Nat.le_of_lt HI0.out.lt))
  have HW := Lib.hid (HW.out.under (fun k hk => Nat.lt_of_lt_of_le (HWL.out k hk) HBB.out) hbb)
  have HA := Lib.hid (HA.out.below (hbb.mono (Nat.le_trans HBX.out HBB.out)))
  have HB := Lib.hid (HB.out.trans (hbb.mono (Nat.le_trans HBX.out HBB.out)))
  have HL := Lib.hid hol
  clear hj hi hol hfb hsz hkb hbb HG
  go_wp2_with fail
  refine (heldLine_any ra rb rd rm _ 0 _ ⟨#[]⟩ false ⟨#[]⟩ false _ _ ms.length 0 0 0 _ _ HL.out.reads (Nat.le_refl _) (by omega)).mono ?_
  rintro e x14 ⟨rfl, hbx⟩
  have hj := HJ.out.from hbx
  obtain ⟨e0, e1, e2, e3, e4, e5, e6, e7, e8, e9, e10, e11, e12⟩ := cells13 hj
  have HJ := Lib.hid hj
  clear hj
  have HW := Lib.hid (HW.out.below hbx)
  have hi := HI.out.from hbx
  obtain ⟨i0, i1, i2, i3, i4, i5, i6, i7, i8, i9, i10, i11, i12⟩ := cells13 hi
  have HI := Lib.hid hi
  clear hi
  have HL := Lib.hid (HL.out.below hbx)
  have hk := HK.out.from hbx
  obtain ⟨c0, c1, c2, c3⟩ := cell4 hk
  have HK := Lib.hid hk
  clear hk
  have HA := Lib.hid (HA.out.below (hbx.mono HB.out.size))
  have HB := Lib.hid (HB.out.trans (hbx.mono HB.out.size))
  simp only [Nat.add_zero]
  clear hbx
  go_wp2_with fail
  refine (toConf_any a0_0 a0_1 a0_2 a0_3 _).mono ?_
  rintro e x15 ⟨rfl, hbx⟩
  have hj := HJ.out.from hbx
  obtain ⟨e0, e1, e2, e3, e4, e5, e6, e7, e8, e9, e10, e11, e12⟩ := cells13 hj
  have HJ := Lib.hid hj
  clear hj
  have HW := Lib.hid (HW.out.below hbx)
  have hi := HI.out.from hbx
  obtain ⟨i0, i1, i2, i3, i4, i5, i6, i7, i8, i9, i10, i11, i12⟩ := cells13 hi
  have HI := Lib.hid hi
  clear hi
  have HL := Lib.hid (HL.out.below hbx)
  have hk := HK.out.from hbx
  obtain ⟨c0, c1, c2, c3⟩ := cell4 hk
  have HK := Lib.hid hk
  clear hk
  have HA := Lib.hid (HA.out.below (hbx.mono HB.out.size))
  have HB := Lib.hid (HB.out.trans (hbx.mono HB.out.size))
  clear hbx
  go_wp2_with fail
  refine (copy_any _ ss _ w.heap.size HA.out HB.out.size hsl).mono ?_
  rintro e x15b ⟨⟨v15, rfl, ho15⟩, hbx⟩
  have ho15 : OS _ _ v15 ss := ho15
  have hj := HJ.out.from hbx
  obtain ⟨e0, e1, e2, e3, e4, e5, e6, e7, e8, e9, e10, e11, e12⟩ := cells13 hj
  have HJ := Lib.hid hj
  clear hj
  have HW := Lib.hid (HW.out.below hbx)
  have hi := HI.out.from hbx
  obtain ⟨i0, i1, i2, i3, i4, i5, i6, i7, i8, i9, i10, i11, i12⟩ := cells13 hi
  have HI := Lib.hid hi
  clear hi
  have HL := Lib.hid (HL.out.below hbx)
  have hk := HK.out.from hbx
  obtain ⟨c0, c1, c2, c3⟩ := cell4 hk
  have HK := Lib.hid hk
  clear hk
  have HA := Lib.hid (HA.out.below (hbx.mono HB.out.size))
  have HB := Lib.hid (HB.out.trans (hbx.mono HB.out.size))
  have HX := Lib.hid ho15
  clear ho15
  clear hbx
  go_wp2_with fail
  refine (HIM.out _ _ _ HX.out.reads (Nat.le_refl _)).mono ?_
  rintro e x16 ⟨v16, rfl, ho16, hbx⟩
  obtain ⟨A16, C16, hsh⟩ := ho16.reads.shape
  subst hsh
  have hj := (HJ.out.from hbx).alloc (.cells #[.int .i64 ra, .int .i64 rb, .int .i64 rd, .int .i64 rm, .slice A16 ms.length C16, .int .i64 0, .slice none 0 0, .string ⟨#[]⟩, .bool false, .string ⟨#[]⟩, .bool false, .slice none 0 0, .slice none 0 0] 31)
  obtain ⟨e0, e1, e2, e3, e4, e5, e6, e7, e8, e9, e10, e11, e12⟩ := cells13 hj
  have HJ := Lib.hid hj
  clear hj
  have HW := Lib.hid ((HW.out.below hbx).alloc (.cells #[.int .i64 ra, .int .i64 rb, .int .i64 rd, .int .i64 rm, .slice A16 ms.length C16, .int .i64 0, .slice none 0 0, .string ⟨#[]⟩, .bool false, .string ⟨#[]⟩, .bool false, .slice none 0 0, .slice none 0 0] 31))
  have hi := (HI.out.from hbx).alloc (.cells #[.int .i64 ra, .int .i64 rb, .int .i64 rd, .int .i64 rm, .slice A16 ms.length C16, .int .i64 0, .slice none 0 0, .string ⟨#[]⟩, .bool false, .string ⟨#[]⟩, .bool false, .slice none 0 0, .slice none 0 0] 31)
  obtain ⟨i0, i1, i2, i3, i4, i5, i6, i7, i8, i9, i10, i11, i12⟩ := cells13 hi
  have HI := Lib.hid hi
  clear hi
  have HL := Lib.hid ((HL.out.below hbx).below ((Below.refl _ _).alloc (Nat.le_refl _) (.cells #[.int .i64 ra, .int .i64 rb, .int .i64 rd, .int .i64 rm, .slice A16 ms.length C16, .int .i64 0, .slice none 0 0, .string ⟨#[]⟩, .bool false, .string ⟨#[]⟩, .bool false, .slice none 0 0, .slice none 0 0] 31)))
  have ho := BK.new x16 #[.int .i64 ra, .int .i64 rb, .int .i64 rd, .int .i64 rm, .slice A16 ms.length C16, .int .i64 0, .slice none 0 0, .string ⟨#[]⟩, .bool false, .string ⟨#[]⟩, .bool false, .slice none 0 0, .slice none 0 0] 31
  obtain ⟨k0, k1, k2, k3, k4, k5, k6, k7, k8, k9, k10, k11, k12⟩ := cells13 ho
  have HN := Lib.hid (ho16.alloc (.cells #[.int .i64 ra, .int .i64 rb, .int .i64 rd, .int .i64 rm, .slice A16 ms.length C16, .int .i64 0, .slice none 0 0, .string ⟨#[]⟩, .bool false, .string ⟨#[]⟩, .bool false, .slice none 0 0, .slice none 0 0] 31))
  have hk := (HK.out.from hbx).alloc (.cells #[.int .i64 ra, .int .i64 rb, .int .i64 rd, .int .i64 rm, .slice A16 ms.length C16, .int .i64 0, .slice none 0 0, .string ⟨#[]⟩, .bool false, .string ⟨#[]⟩, .bool false, .slice none 0 0, .slice none 0 0] 31)
  obtain ⟨c0, c1, c2, c3⟩ := cell4 hk
  have HK := Lib.hid hk
  clear hk
  have HA := Lib.hid ((HA.out.below (hbx.mono HB.out.size)).below ((Below.refl _ _).alloc (Nat.le_trans HB.out.size hbx.size) (.cells #[.int .i64 ra, .int .i64 rb, .int .i64 rd, .int .i64 rm, .slice A16 ms.length C16, .int .i64 0, .slice none 0 0, .string ⟨#[]⟩, .bool false, .string ⟨#[]⟩, .bool false, .slice none 0 0, .slice none 0 0] 31)))
  have HB := Lib.hid ((HB.out.trans (hbx.mono HB.out.size)).alloc (Nat.le_trans HB.out.size hbx.size) (.cells #[.int .i64 ra, .int .i64 rb, .int .i64 rd, .int .i64 rm, .slice A16 ms.length C16, .int .i64 0, .slice none 0 0, .string ⟨#[]⟩, .bool false, .string ⟨#[]⟩, .bool false, .slice none 0 0, .slice none 0 0] 31))
  clear hbx ho16 ho HX
  go_wp2_with fail
  refine (eqLine_same ra rb rd rm _ ms 0 _ [] ⟨#[]⟩ false ⟨#[]⟩ false _ [] _ [] _ _ _ _ _ _ _ (rlN HN.out.reads) (rlN HW.out.reads) (Nat.le_refl _) (Nat.le_refl _) hmsl (by simp) (by simp) (by simp)).mono ?_
  rintro e x17 ⟨rfl, hbx⟩
  have hj := HJ.out.from hbx
  obtain ⟨e0, e1, e2, e3, e4, e5, e6, e7, e8, e9, e10, e11, e12⟩ := cells13 hj
  have HJ := Lib.hid hj
  clear hj
  have HW := Lib.hid (HW.out.below hbx)
  have hi := HI.out.from hbx
  obtain ⟨i0, i1, i2, i3, i4, i5, i6, i7, i8, i9, i10, i11, i12⟩ := cells13 hi
  have HI := Lib.hid hi
  clear hi
  have HL := Lib.hid (HL.out.below hbx)
  have hk := HK.out.from hbx
  obtain ⟨c0, c1, c2, c3⟩ := cell4 hk
  have HK := Lib.hid hk
  clear hk
  have HA := Lib.hid (HA.out.below (hbx.mono HB.out.size))
  have HB := Lib.hid (HB.out.trans (hbx.mono HB.out.size))
  clear k0 k1 k2 k3 k4 k5 k6 k7 k8 k9 k10 k11 k12 HN
  clear hbx
  go_wp2_with fail
  refine (heldLine_any ra rb rd rm _ 0 _ ⟨#[]⟩ false ⟨#[]⟩ false _ _ ms.length 0 0 0 _ _ HL.out.reads (Nat.le_refl _) (by omega)).mono ?_
  rintro e x18 ⟨rfl, hbx⟩
  have hj := HJ.out.from hbx
  obtain ⟨e0, e1, e2, e3, e4, e5, e6, e7, e8, e9, e10, e11, e12⟩ := cells13 hj
  have HJ := Lib.hid hj
  clear hj
  have HW := Lib.hid (HW.out.below hbx)
  have hi := HI.out.from hbx
  obtain ⟨i0, i1, i2, i3, i4, i5, i6, i7, i8, i9, i10, i11, i12⟩ := cells13 hi
  have HI := Lib.hid hi
  clear hi
  have HL := Lib.hid (HL.out.below hbx)
  have hk := HK.out.from hbx
  obtain ⟨c0, c1, c2, c3⟩ := cell4 hk
  have HK := Lib.hid hk
  clear hk
  have HA := Lib.hid (HA.out.below (hbx.mono HB.out.size))
  have HB := Lib.hid (HB.out.trans (hbx.mono HB.out.size))
  simp only [Nat.add_zero]
  clear hbx
  go_wp2
  go_ret
  exact ⟨rfl, HB.out⟩
theorem own : ownKnob Try.prog.godebug = none := by kernel_rfl
theorem laidOut : laidOutB Try.prog = true := by kernel_rfl
set_option maxRecDepth 100000 in
theorem lifted (os : Os) (started : os.Started) (H : Type) (enc : TypeId × Value → H) :
    ReturnsInHanded {} Try.checked os 6 .any (Rows.fnExactLineNewSpec.pre6 enc Try.prog Try.f6 Rows.fnExactLineNewRow.domain false) (Rows.fnExactLineNewSpec.post enc Try.prog Try.f6 false true false false) := by
  refine returnsInHanded_of_change (C := Try.checked) own started (by kernel_rfl) Try.func6
    (ChangeSpec.witness6 (enc := enc) (C := Try.checked) false ⟨#[], #[.agg #[.int .i64 0, .int .i64 0, .int .i64 0, .int .i64 0], .slice none 0 0], []⟩ 8 (by kernel_rfl) (by kernel_rfl) (by kernel_rfl) (by kernel_rfl)) ?_
  intro W base args ds gs before hval0 hW hcnd _
  have hval : ∀ (j : Nat) t v, Try.f6.params[j]? = some t → args[j]? = some v → Value.okWide Try.prog W .any base t v := hval0
  have hW' := hW
  obtain ⟨p, q, hA0, hV, rfl, hfz, hnd⟩ := hW
  have hA : DataW.TrodAll enc Try.prog W 0 (fun _ => true) true Try.f6.params.toList args.toList ds p := hA0
  rw [Try.params6] at hA hval
  obtain ⟨v0, vs0, d0, ds0, p0, q0, hargs, rfl, rfl, h0, r0⟩ := trodAll_cons hA
  obtain ⟨v1, vs1, d1, ds1, p1, q1, rfl, rfl, rfl, h1, r1⟩ := trodAll_cons r0
  obtain ⟨rfl, rfl, rfl⟩ := trodAll_nil r1
  obtain rfl : args = #[v0, v1] := by cases args; simp_all
  obtain ⟨rfl, rfl⟩ := trodVars_none hV
  have k0 := h0
  have lt0 : ∀ x ∈ p0, x.block < W.heap.size := by obtain ⟨m, hm⟩ := k0; exact DataW.trod_lt m _ _ _ hm
  obtain ⟨u0_0, u0_1, u0_2, u0_3, y0_0, y0_1, y0_2, y0_3, nn0, rfl, hd0, hp0, t0_0, t0_1, t0_2, t0_3⟩ := Joins.open_agg4 Try.underlying45 (by kernel_rfl) (by kernel_rfl) (hval 0 45 v0 rfl rfl) h0
  obtain ⟨a0_0, e0_0, _, w0_0⟩ := DataW.trod_int Try.underlying3 t0_0
  obtain ⟨a0_1, e0_1, _, w0_1⟩ := DataW.trod_int Try.underlying3 t0_1
  obtain ⟨a0_2, e0_2, _, w0_2⟩ := DataW.trod_int Try.underlying3 t0_2
  obtain ⟨a0_3, e0_3, _, w0_3⟩ := DataW.trod_int Try.underlying3 t0_3
  simp only [List.cons.injEq, and_true] at e0_0 e0_1 e0_2 e0_3
  subst e0_0 e0_1 e0_2 e0_3
  clear t0_0 t0_1 t0_2 t0_3 hd0 hp0
  obtain ⟨a1, len1, cap1, rfl⟩ := okWide_slice Try.underlying25 (hval 1 25 v1 rfl rfl)
  have k1 := h1
  have lt1 : ∀ x ∈ p1, x.block < W.heap.size := by obtain ⟨m, hm⟩ := k1; exact DataW.trod_lt m _ _ _ hm
  obtain ⟨z1, w1⟩ : ∃ zs, IsStrs W a1 len1 cap1 zs := by
    obtain ⟨fuel, hf⟩ := h1
    rcases open_strings Try.underlying25 Try.underlying9 (by kernel_rfl) hf with ⟨hcs, _⟩ | ⟨x, l, c, zs, hcs, _, hl, hm, hz, _, hcell, hwz⟩
    · simp [Value.cells] at hcs
      obtain ⟨rfl, rfl, rfl⟩ := hcs
      exact ⟨[], .inl ⟨rfl, rfl, rfl, rfl⟩⟩
    · simp [Value.cells] at hcs
      obtain ⟨rfl, rfl, rfl⟩ := hcs
      exact ⟨zs, .inr ⟨_, rfl, hl, hm, by simpa using hz, hcell, hwz⟩⟩
  clear hA0 hval0
  refine (walk a0_0 a0_1 a0_2 a0_3 a1 len1 cap1 z1 W w0_0 w0_1 w0_2 w0_3 w1).mono fun e W' ⟨he, bel⟩ => ?_
  subst he
  exact ⟨_, rfl, _, _, _, [], _, [], hW', trodAll_mk1 (shut_bool Try.underlying4 _), (trodAll_cons_mk (Below.trod laidOut (by kernel_rfl) (of_decide_eq_true (by kernel_rfl)) k0 bel lt0) (trodAll_cons_mk (Below.trod laidOut (by kernel_rfl) (of_decide_eq_true (by kernel_rfl)) k1 bel lt1) trodAll_mk0)), rfl, bel.frame _, fun h => by cases h⟩
theorem over : Rows.fnExactLineNewRow.holds Try.pinned (OpenSpec.ofChange Rows.fnExactLineNewSpec) :=
  OpenClaim.holds_of_wide 6 Try.f6 rfl rfl rfl rfl rfl rfl rfl ⟨rfl, rfl, rfl, rfl, rfl⟩ rfl rfl rfl rfl rfl (by kernel_rfl) Try.func6 (by kernel_rfl)
    (of_decide_eq_true (by kernel_rfl)) (by unfold Func.isWrapper; first | (rw [if_pos (by decide +kernel)]; kernel_rfl) | (rw [if_neg (by decide +kernel)]; exact ⟨rfl, rfl⟩))
    (fun os started H enc _ => lifted os started H enc)
theorem proved : Rows.FnExactLineNewSaid := over
end Go.Proofs.Ytdnedoafgfpnfaa.fnExactLineNew
