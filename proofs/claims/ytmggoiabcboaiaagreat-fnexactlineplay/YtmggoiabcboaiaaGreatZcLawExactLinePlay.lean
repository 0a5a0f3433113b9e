/- FnExactLinePlay: LinePlay of the program answers as the model's, at every way to write, all messages and all steps; it writes into no argument, and its answer owns its memory. No condition. -/
import Derived.Test.YtmggoiabcboaiaaGreatZc1
import Derived.Test.YtmggoiabcboaiaaGreatZc2
import Derived.Test.YtmggoiabcboaiaaGreatZc3
import Derived.Test.YtmggoiabcboaiaaGreatZc4
import Derived.Test.YtmggoiabcboaiaaGreatZc5
import Derived.Test.YtmggoiabcboaiaaGreatZc6
import Derived.Test.YtmggoiabcboaiaaGreatZc7
import Derived.Test.YtmggoiabcboaiaaGreatZc8
import Derived.Test.YtmggoiabcboaiaaGreatZc9
import Derived.Test.YtmggoiabcboaiaaGreatZc10
import Derived.Test.YtmggoiabcboaiaaGreatZc11
import Derived.Test.YtmggoiabcboaiaaGreatZc12
import Derived.Test.YtmggoiabcboaiaaGreatZc13
import Derived.Test.YtmggoiabcboaiaaGreatZc14
import Derived.Test.YtmggoiabcboaiaaGreatZc15
import Derived.Test.YtmggoiabcboaiaaGreatZc16
import Derived.Test.YtmggoiabcboaiaaGreatZc17
import Derived.Test.YtmggoiabcboaiaaGreatZc18
import Derived.Test.YtmggoiabcboaiaaGreatZc19
import Derived.Test.YtmggoiabcboaiaaGreatZc20
import Derived.Test.YtmggoiabcboaiaaGreatZc21
import Derived.Test.YtmggoiabcboaiaaGreatZc22
import Derived.Test.YtmggoiabcboaiaaGreatZc23
import Derived.Test.YtmggoiabcboaiaaGreatZc24
import Derived.Test.YtmggoiabcboaiaaGreatZc25
import Derived.Test.YtmggoiabcboaiaaGreatZc26
import Derived.Test.YtmggoiabcboaiaaGreatZc27
import Derived.Test.YtmggoiabcboaiaaGreatZc28
import Derived.Test.YtmggoiabcboaiaaGreatZc29
import Derived.Test.YtmggoiabcboaiaaGreatZc30
import Derived.Test.YtmggoiabcboaiaaGreatZc31
import Derived.Test.YtmggoiabcboaiaaGreatZc32
namespace Go.Proofs.YtmggoiabcboaiaaGreat.fnExactLinePlay
open Go.ChangeShapes Go.WideShapes Go.ChangeAt Go.RowKit
set_option linter.unusedVariables false
def ResX (ra rb rd rm : Int) (pm : List ByteArray) (rn : Int) (pg : List ByteArray) (rT : ByteArray) (rto : Bool) (rH : ByteArray) (rho : Bool) (pt pb : List ByteArray) (w : World) (e : Ending) (w' : World) : Prop :=
 ∃ um ug ut ub, e = .returned (lnV ra rb rd rm um rn ug rT rto rH rho ut ub) ∧ OL w' 0 um pm ug pg ut pt ub pb ∧ Below w.heap.size w w'
def ResI (ra rb rd rm : Int) (pm : List ByteArray) (rn : Int) (pg : List ByteArray) (rT : ByteArray) (rto : Bool) (rH : ByteArray) (rho : Bool) (pt pb : List ByteArray) (w : World) (e : Ending) (w' : World) : Prop :=
 ∃ um ug ut ub, e = .returned (lnV ra rb rd rm um rn ug rT rto rH rho ut ub) ∧ OL w' w.heap.size um pm ug pg ut pt ub pb ∧ Below w.heap.size w w' ∧ Ap4 um ug ut ub
theorem cell4 {W : World} {g : Nat} {t : TypeId} {a b d m : Int} (h : BK W g #[.int .i64 a, .int .i64 b, .int .i64 d, .int .i64 m] t) : W.cell? ⟨g, 0, none⟩ = some (.int .i64 a) ∧ W.cell? ⟨g, 1, none⟩ = some (.int .i64 b) ∧ W.cell? ⟨g, 2, none⟩ = some (.int .i64 d) ∧ W.cell? ⟨g, 3, none⟩ = some (.int .i64 m) := ⟨h.cell rfl, h.cell rfl, h.cell rfl, h.cell rfl⟩
theorem play_small {c : Cf} {ms : List ByteArray} {zs : List Int} : (playRes c ms zs).ms.length ≤ 6 ∧ (playRes c ms zs).gs.length ≤ 6 ∧ (playRes c ms zs).ts.length ≤ 6 ∧ (playRes c ms zs).bs.length ≤ 6 := by
 unfold playRes
 by_cases hc : newB c ms = true
 ·rw [if_pos hc]
  have h := Ls.Ok.plays (zs.take 80) (newLs_ok hc)
  have h1 := h.ml
  have h2 := h.gl
  have h3 := h.tl
  have h4 := h.bl
  exact ⟨h1, by omega, by omega, by omega⟩
 ·rw [if_neg hc]
  exact ⟨Nat.zero_le _, Nat.zero_le _, Nat.zero_le _, Nat.zero_le _⟩
/-- a block of numbers is kept where a row of strings turns, and the other way -/
theorem OZ.os {w w' : World} {base base' : Nat} {v u : Value} {zs : List Int} {ss : List ByteArray} (h : OZ w base v zs) (ho : OS w base' u ss) (hg : w.grownBy w' u.ownBlock) : OZ w' base v zs := by
 refine h.kept hg ?_
 rcases h.2 with ⟨rfl, _⟩ | ⟨g, cap, cur, rfl, _, hgg, _⟩
 ·exact .inl rfl
 ·refine .inr fun e => ?_
  rcases ho.2 with ⟨rfl, _⟩ | ⟨g', cap', cur', rfl, _, hg', _⟩
  ·simp [Value.ownBlock] at e
  ·simp [Value.ownBlock] at e
   subst e
   rw [hg'] at hgg
   injection hgg with h1
   injection h1 with _ h2 _
   exact absurd h2 (by decide)
theorem OS.oz {w w' : World} {base base' : Nat} {v u : Value} {zs : List Int} {ss : List ByteArray} (h : OS w base v ss) (ho : OZ w base' u zs) (hg : w.grownBy w' u.ownBlock) : OS w' base v ss := by
 refine h.kept hg ?_
 rcases h.2 with ⟨rfl, _⟩ | ⟨g, cap, cur, rfl, _, hgg, _⟩
 ·exact .inl rfl
 ·refine .inr fun e => ?_
  rcases ho.2 with ⟨rfl, _⟩ | ⟨g', cap', cur', rfl, _, hg', _⟩
  ·simp [Value.ownBlock] at e
  ·simp [Value.ownBlock] at e
   subst e
   rw [hg'] at hgg
   injection hgg with h1
   injection h1 with _ h2 _
   exact absurd h2 (by decide)
theorem BK.oz {w w' : World} {base g : Nat} {cs : Array Value} {t : TypeId} {u : Value} {zs : List Int} (h : BK w g cs t) (ht : t ≠ 3) (ho : OZ w base u zs) (hg : w.grownBy w' u.ownBlock) : BK w' g cs t := by
 refine h.grown hg fun e => ?_
 rcases ho.2 with ⟨rfl, _⟩ | ⟨g', cap', cur', rfl, _, hg', _⟩
 ·simp [Value.ownBlock] at e
 ·simp [Value.ownBlock] at e
  subst e
  unfold BK at h
  rw [hg'] at h
  injection h with h
  injection h with _ h2 _
  exact ht h2.symm
theorem OL.oz {w w' : World} {base base' : Nat} {vm vg vt vb u : Value} {ms gs ts bs : List ByteArray} {zs : List Int} (h : OL w base vm ms vg gs vt ts vb bs) (ho : OZ w base' u zs) (hg : w.grownBy w' u.ownBlock) : OL w' base vm ms vg gs vt ts vb bs := ⟨OS.oz h.1 ho hg, OS.oz h.2.1 ho hg, OS.oz h.2.2.1 ho hg, OS.oz h.2.2.2 ho hg⟩
/-- four rows of one's own are kept where another row turns that lies elsewhere -/
theorem OL.kept1 {w w' : World} {base base' : Nat} {vm vg vt vb u : Value} {ms gs ts bs ss : List ByteArray} (h : OL w base vm ms vg gs vt ts vb bs) (hg : w.grownBy w' u.ownBlock) (ap : apartV vm u ∧ apartV vg u ∧ apartV vt u ∧ apartV vb u) : OL w' base vm ms vg gs vt ts vb bs := ⟨h.1.kept hg ap.1, h.2.1.kept hg ap.2.1, h.2.2.1.kept hg ap.2.2.1, h.2.2.2.kept hg ap.2.2.2⟩
set_option maxRecDepth 100000 in
set_option maxHeartbeats 8000000 in
theorem walk (a0_0 : Int) (a0_1 : Int) (a0_2 : Int) (a0_3 : Int) (a1 : Option Addr) (len1 cap1 : Nat) (z1 : List ByteArray) (a2 : Option Addr) (len2 cap2 : Nat) (z2 : List Int) (w : World) (w0_0 : (Lit.int .i64 a0_0).wf = true) (w0_1 : (Lit.int .i64 a0_1).wf = true) (w0_2 : (Lit.int .i64 a0_2).wf = true) (w0_3 : (Lit.int .i64 a0_3).wf = true) (w1 : IsStrs w a1 len1 cap1 z1) (w2 : IsRow .i64 w a2 len2 cap2 z2) :
  Calls Tryz.prog 7 #[.agg #[.int .i64 a0_0, .int .i64 a0_1, .int .i64 a0_2, .int .i64 a0_3], .slice a1 len1 cap1, .slice a2 len2 cap2] w fun e w' => e = .returned (.bool true) ∧ Below w.heap.size w w' := by
 obtain ⟨hr, hlen, hz⟩ := RS.of_arg w1
 have hw1 : len1 ≤ maxLen := by
  rcases w1 with ⟨_, rfl, _⟩ | ⟨x, _, h1, h2, _⟩
  ·exact Nat.zero_le _
  ·omega
 generalize z1.take len1 = ss at hr hlen hz
 subst hlen
 have hwf : ∀ z ∈ z2.take len2, (Lit.int .i64 z).wf = true := by
  rcases w2 with ⟨_, _, _, rfl⟩ | ⟨x, _, _, _, _, _, h6⟩
  ·intro z hz; simp at hz
  ·exact fun z hz => h6 z (List.mem_of_mem_take hz)
 obtain ⟨hri, hlen2, hwi⟩ := RZ.of_arg w2
 generalize z2.take len2 = zs at hri hlen2 hwf
 subst hlen2
 have hk := BK.new w #[.int .i64 a0_0, .int .i64 a0_1, .int .i64 a0_2, .int .i64 a0_3] 44
 have hb0 : Below w.heap.size w (w.alloc (.cells #[.int .i64 a0_0, .int .i64 a0_1, .int .i64 a0_2, .int .i64 a0_3] 44)) := (Below.refl _ w).alloc (Nat.le_refl _) _
 have HK := Lib.hid hk
 have HB := Lib.hid hb0
 have HA := Lib.hid (hr.below hb0)
 have HI := Lib.hid (hri.below hb0)
 have HZ := Lib.hid hz
 have HWF := Lib.hid hwf
 clear w1 w2 hr hri hk hb0 hz hwf
 obtain ⟨cf0, cf1, cf2, cf3⟩ := cell4 HK.out
 go_enter Tryz.func7, Tryz.ntmps7
 by_cases hzl : 1048576 < zs.length
 ·go_wp2
  go_ret
  exact ⟨rfl, HB.out⟩
 have hzl2 : zs.length ≤ 1048576 := by omega
 clear hzl
 go_wp2_with fail
 clear cf0 cf1 cf2 cf3
 refine (szS_any _ ss 1048576 _ w.heap.size HA.out (by omega) hw1 HZ.out).mono ?_
 rintro e x1 ⟨z, rfl, hbx, hsz⟩
 have HK := Lib.hid (HK.out.from hbx)
 have HA := Lib.hid (HA.out.below (hbx.mono HB.out.size))
 have HI := Lib.hid (HI.out.below (hbx.mono HB.out.size))
 have HB := Lib.hid (HB.out.trans (hbx.mono HB.out.size))
 clear hbx
 rcases hsz with rfl | ⟨hz0, hz1, hss⟩
 ·obtain ⟨cf0, cf1, cf2, cf3⟩ := cell4 HK.out
  go_wp2
  go_ret
  exact ⟨rfl, HB.out⟩
 have HSS := Lib.hid hss
 have hsl := hss.1
 clear hss
 have HZL := Lib.hid hzl2
 have hsml := play_small (c := ⟨a0_0, a0_1, a0_2, a0_3⟩) (ms := ss) (zs := zs)
 have hspec := fun (W : World) (vm vz : Value) (h : RS W W.heap.size vm ss) (hz : RZ W W.heap.size vz zs) => specLinePlay_any a0_0 a0_1 a0_2 a0_3 vm ss vz zs W W.heap.size h hz (Nat.le_refl _) HSS.out.1 HSS.out.2 HZL.out
 have himpl := fun (W : World) (vm vz : Value) (h : RS W W.heap.size vm ss) (hz : RZ W W.heap.size vz zs) => implLinePlay_any a0_0 a0_1 a0_2 a0_3 vm ss vz zs W W.heap.size h hz (Nat.le_refl _) w0_0 HSS.out.1 HSS.out.2 (by have := HZL.out; unfold maxLen; omega) HWF.out
 generalize playRes ⟨a0_0, a0_1, a0_2, a0_3⟩ ss zs = Z at hsml hspec himpl
 obtain ⟨⟨ra, rb, rd, rm⟩, pm, rn0, pg, ⟨fT, rto⟩, ⟨fH, rho⟩, pt, pb⟩ := Z
 obtain ⟨rn, hrn⟩ : ∃ x : Int, x = (rn0 : Int) := ⟨_, rfl⟩
 obtain ⟨rT, hrT⟩ : ∃ x, x = bzL fT := ⟨_, rfl⟩
 obtain ⟨rH, hrH⟩ : ∃ x, x = bzL fH := ⟨_, rfl⟩
 have HSP := Lib.hid (show ∀ (W : World) (vm vz : Value), RS W W.heap.size vm ss → RZ W W.heap.size vz zs → Calls Tryz.prog 12 #[cfV a0_0 a0_1 a0_2 a0_3, vm, vz] W (ResX ra rb rd rm pm rn pg rT rto rH rho pt pb W) from fun W vm vz h hz => (hspec W vm vz h hz).mono (fun e w' hh => by obtain ⟨um, ub, ug, ut, he, ho, hb⟩ := hh; rw [hrn, hrT, hrH]; exact ⟨um, ug, ut, ub, he, ho, hb⟩))
 have HIM := Lib.hid (show ∀ (W : World) (vm vz : Value), RS W W.heap.size vm ss → RZ W W.heap.size vz zs → Calls Tryz.prog 10 #[cfV a0_0 a0_1 a0_2 a0_3, vm, vz] W (ResI ra rb rd rm pm rn pg rT rto rH rho pt pb W) from fun W vm vz h hz => (himpl W vm vz h hz).mono (fun e w' hh => by obtain ⟨um, ub, ug, ut, he, ⟨ho, hap⟩, hb⟩ := hh; rw [hrn, hrT, hrH]; exact ⟨um, ug, ut, ub, he, ho, hb, hap⟩))
 have HL6 := Lib.hid (show pm.length ≤ 6 ∧ pg.length ≤ 6 ∧ pt.length ≤ 6 ∧ pb.length ≤ 6 from hsml)
 clear hsml hspec himpl hrn hrT hrH hzl2
 obtain ⟨cf0, cf1, cf2, cf3⟩ := cell4 HK.out
 go_wp2_with fail
 clear cf0 cf1 cf2 cf3
 refine (toConf_any a0_0 a0_1 a0_2 a0_3 _).mono ?_
 rintro e x2 ⟨rfl, hbx⟩
 have HK := Lib.hid (HK.out.from hbx)
 have HA := Lib.hid (HA.out.below (hbx.mono HB.out.size))
 have HI := Lib.hid (HI.out.below (hbx.mono HB.out.size))
 have HB := Lib.hid (HB.out.trans (hbx.mono HB.out.size))
 clear hbx
 obtain ⟨cf0, cf1, cf2, cf3⟩ := cell4 HK.out
 go_wp2_with fail
 clear cf0 cf1 cf2 cf3
 refine (copy_any _ ss _ w.heap.size HA.out HB.out.size hsl).mono ?_
 rintro e x3 ⟨⟨v1, rfl, ho1⟩, hbx⟩
 have ho1 : OS _ _ v1 ss := ho1
 have SZ1 := Lib.hid hbx.size
 have HK := Lib.hid (HK.out.from hbx)
 have HA := Lib.hid (HA.out.below (hbx.mono HB.out.size))
 have HI := Lib.hid (HI.out.below (hbx.mono HB.out.size))
 have HB := Lib.hid (HB.out.trans (hbx.mono HB.out.size))
 have HO1 := Lib.hid ho1
 clear ho1 hbx
 obtain ⟨cf0, cf1, cf2, cf3⟩ := cell4 HK.out
 go_wp2_with fail
 clear cf0 cf1 cf2 cf3
 refine (toInts_any _ zs _ w.heap.size HI.out HB.out.size HZL.out).mono ?_
 rintro e x4 ⟨⟨v2, rfl, ho2⟩, hbx⟩
 have SZ2 := Lib.hid hbx.size
 have HK := Lib.hid (HK.out.from hbx)
 have HO1 := Lib.hid (HO1.out.below hbx)
 have HA := Lib.hid (HA.out.below (hbx.mono HB.out.size))
 have HI := Lib.hid (HI.out.below (hbx.mono HB.out.size))
 have HB := Lib.hid (HB.out.trans (hbx.mono HB.out.size))
 have HO2 := Lib.hid ho2
 clear ho2 hbx
 obtain ⟨cf0, cf1, cf2, cf3⟩ := cell4 HK.out
 go_wp2_with fail
 clear cf0 cf1 cf2 cf3
 refine (HSP.out _ _ _ HO1.out.reads HO2.out.reads).mono ?_
 rintro e x5 ⟨um, ug, ut, ub, rfl, hol, hbx⟩
 obtain ⟨Amw, Cmw, hsh⟩ := hol.1.reads.shape
 subst hsh
 obtain ⟨Agw, Cgw, hsh⟩ := hol.2.1.reads.shape
 subst hsh
 obtain ⟨Atw, Ctw, hsh⟩ := hol.2.2.1.reads.shape
 subst hsh
 obtain ⟨Abw, Cbw, hsh⟩ := hol.2.2.2.reads.shape
 subst hsh
 have HK := Lib.hid (HK.out.from hbx)
 have HO1 := Lib.hid (HO1.out.below hbx)
 have HO2 := Lib.hid (HO2.out.below hbx)
 have HA := Lib.hid (HA.out.below (hbx.mono HB.out.size))
 have HI := Lib.hid (HI.out.below (hbx.mono HB.out.size))
 have HB := Lib.hid (HB.out.trans (hbx.mono HB.out.size))
 have HOw := Lib.hid hol
 have HWL := Lib.hid hol.lows
 clear hol hbx HO1 HO2
 have hba := (Below.refl _ x5).alloc (Nat.le_refl _) (.cells #[.int .i64 ra, .int .i64 rb, .int .i64 rd, .int .i64 rm, .slice Amw pm.length Cmw, .int .i64 rn, .slice Agw pg.length Cgw, .string rT, .bool rto, .string rH, .bool rho, .slice Atw pt.length Ctw, .slice Abw pb.length Cbw] 32)
 have hnew := BK.new x5 #[.int .i64 ra, .int .i64 rb, .int .i64 rd, .int .i64 rm, .slice Amw pm.length Cmw, .int .i64 rn, .slice Agw pg.length Cgw, .string rT, .bool rto, .string rH, .bool rho, .slice Atw pt.length Ctw, .slice Abw pb.length Cbw] 32
 have HK := Lib.hid (HK.out.from hba)
 have HOw := Lib.hid (HOw.out.below hba)
 have HA := Lib.hid (HA.out.below (hba.mono HB.out.size))
 have HI := Lib.hid (HI.out.below (hba.mono HB.out.size))
 have HB := Lib.hid (HB.out.trans (hba.mono HB.out.size))
 have HKW := Lib.hid hnew
 clear hnew hba
 have HS5 := Lib.hid (show x5.heap.size ≤ (x5.alloc (.cells #[.int .i64 ra, .int .i64 rb, .int .i64 rd, .int .i64 rm, .slice Amw pm.length Cmw, .int .i64 rn, .slice Agw pg.length Cgw, .string rT, .bool rto, .string rH, .bool rho, .slice Atw pt.length Ctw, .slice Abw pb.length Cbw] 32)).heap.size by simp)
 obtain ⟨cf0, cf1, cf2, cf3⟩ := cell4 HK.out
 obtain ⟨cW0, cW1, cW2, cW3, cW4, cW5, cW6, cW7, cW8, cW9, cW10, cW11, cW12⟩ := cells13 HKW.out
 go_wp2_with fail
 clear cf0 cf1 cf2 cf3
 clear cW0 cW1 cW2 cW3 cW4 cW5 cW6 cW7 cW8 cW9 cW10 cW11 cW12
 refine (copy_any _ ss _ w.heap.size HA.out HB.out.size hsl).mono ?_
 rintro e x6 ⟨⟨vs, rfl, hos⟩, hbx⟩
 have hos : OS _ _ vs ss := hos
 have HB5s := Lib.hid HB.out.size
 have HWL5 := Lib.hid (HWL.out.mono HS5.out)
 have SZs := Lib.hid hbx.size
 have HK := Lib.hid (HK.out.from hbx)
 have HKW := Lib.hid (HKW.out.from hbx)
 have HOw := Lib.hid (HOw.out.below hbx)
 have HA := Lib.hid (HA.out.below (hbx.mono HB.out.size))
 have HI := Lib.hid (HI.out.below (hbx.mono HB.out.size))
 have HB := Lib.hid (HB.out.trans (hbx.mono HB.out.size))
 have HOs := Lib.hid hos
 clear hos hbx
 obtain ⟨cf0, cf1, cf2, cf3⟩ := cell4 HK.out
 obtain ⟨cW0, cW1, cW2, cW3, cW4, cW5, cW6, cW7, cW8, cW9, cW10, cW11, cW12⟩ := cells13 HKW.out
 go_wp2_with fail
 clear cf0 cf1 cf2 cf3
 clear cW0 cW1 cW2 cW3 cW4 cW5 cW6 cW7 cW8 cW9 cW10 cW11 cW12
 refine (toInts_any _ zs _ w.heap.size HI.out HB.out.size HZL.out).mono ?_
 rintro e x7 ⟨⟨vz, rfl, hoz⟩, hbx⟩
 have HB5z := Lib.hid HB.out.size
 have SZz := Lib.hid hbx.size
 have HK := Lib.hid (HK.out.from hbx)
 have HKW := Lib.hid (HKW.out.from hbx)
 have HOw := Lib.hid (HOw.out.below hbx)
 have HOs := Lib.hid (HOs.out.below hbx)
 have HA := Lib.hid (HA.out.below (hbx.mono HB.out.size))
 have HI := Lib.hid (HI.out.below (hbx.mono HB.out.size))
 have HB := Lib.hid (HB.out.trans (hbx.mono HB.out.size))
 have HOz := Lib.hid hoz
 clear hoz hbx
 obtain ⟨cf0, cf1, cf2, cf3⟩ := cell4 HK.out
 obtain ⟨cW0, cW1, cW2, cW3, cW4, cW5, cW6, cW7, cW8, cW9, cW10, cW11, cW12⟩ := cells13 HKW.out
 go_wp2_with fail
 clear cf0 cf1 cf2 cf3
 clear cW0 cW1 cW2 cW3 cW4 cW5 cW6 cW7 cW8 cW9 cW10 cW11 cW12
 refine (toConf_any a0_0 a0_1 a0_2 a0_3 _).mono ?_
 rintro e x8 ⟨rfl, hbx⟩
 have SZ8 := Lib.hid hbx.size
 have HK := Lib.hid (HK.out.from hbx)
 have HKW := Lib.hid (HKW.out.from hbx)
 have HOw := Lib.hid (HOw.out.below hbx)
 have HOs := Lib.hid (HOs.out.below hbx)
 have HOz := Lib.hid (HOz.out.below hbx)
 have HA := Lib.hid (HA.out.below (hbx.mono HB.out.size))
 have HI := Lib.hid (HI.out.below (hbx.mono HB.out.size))
 have HB := Lib.hid (HB.out.trans (hbx.mono HB.out.size))
 clear hbx
 have HX58 := Lib.hid (Nat.le_trans (Nat.le_trans SZs.out SZz.out) SZ8.out)
 have HB8 := Lib.hid HB.out.size
 have HSL := Lib.hid (fun k hk => (HOs.out.low k hk).2)
 obtain ⟨cf0, cf1, cf2, cf3⟩ := cell4 HK.out
 obtain ⟨cW0, cW1, cW2, cW3, cW4, cW5, cW6, cW7, cW8, cW9, cW10, cW11, cW12⟩ := cells13 HKW.out
 go_wp2_with fail
 clear cf0 cf1 cf2 cf3
 clear cW0 cW1 cW2 cW3 cW4 cW5 cW6 cW7 cW8 cW9 cW10 cW11 cW12
 refine (HIM.out _ _ _ HOs.out.reads HOz.out.reads).mono ?_
 rintro e x9 ⟨um, ug, ut, ub, rfl, hol, hbx, hap⟩
 have HX8 := Lib.hid hbx.size
 obtain ⟨Amg, Cmg, hsh⟩ := hol.1.reads.shape
 subst hsh
 obtain ⟨Agg, Cgg, hsh⟩ := hol.2.1.reads.shape
 subst hsh
 obtain ⟨Atg, Ctg, hsh⟩ := hol.2.2.1.reads.shape
 subst hsh
 obtain ⟨Abg, Cbg, hsh⟩ := hol.2.2.2.reads.shape
 subst hsh
 have HK := Lib.hid (HK.out.from hbx)
 have HKW := Lib.hid (HKW.out.from hbx)
 have HOw := Lib.hid (HOw.out.below hbx)
 have HOs := Lib.hid (HOs.out.below hbx)
 have HOz := Lib.hid (HOz.out.below hbx)
 have HA := Lib.hid (HA.out.below (hbx.mono HB.out.size))
 have HI := Lib.hid (HI.out.below (hbx.mono HB.out.size))
 have HB := Lib.hid (HB.out.trans (hbx.mono HB.out.size))
 have HOg := Lib.hid hol
 have HAP := Lib.hid hap
 clear hol hbx hap
 have hba := (Below.refl _ x9).alloc (Nat.le_refl _) (.cells #[.int .i64 ra, .int .i64 rb, .int .i64 rd, .int .i64 rm, .slice Amg pm.length Cmg, .int .i64 rn, .slice Agg pg.length Cgg, .string rT, .bool rto, .string rH, .bool rho, .slice Atg pt.length Ctg, .slice Abg pb.length Cbg] 32)
 have hnew := BK.new x9 #[.int .i64 ra, .int .i64 rb, .int .i64 rd, .int .i64 rm, .slice Amg pm.length Cmg, .int .i64 rn, .slice Agg pg.length Cgg, .string rT, .bool rto, .string rH, .bool rho, .slice Atg pt.length Ctg, .slice Abg pb.length Cbg] 32
 have HK := Lib.hid (HK.out.from hba)
 have HKW := Lib.hid (HKW.out.from hba)
 have HOw := Lib.hid (HOw.out.below hba)
 have HOg := Lib.hid (HOg.out.below hba)
 have HOs := Lib.hid (HOs.out.below hba)
 have HOz := Lib.hid (HOz.out.below hba)
 have HA := Lib.hid (HA.out.below (hba.mono HB.out.size))
 have HI := Lib.hid (HI.out.below (hba.mono HB.out.size))
 have HB := Lib.hid (HB.out.trans (hba.mono HB.out.size))
 have HKG := Lib.hid hnew
 clear hnew hba
 obtain ⟨cf0, cf1, cf2, cf3⟩ := cell4 HK.out
 obtain ⟨cW0, cW1, cW2, cW3, cW4, cW5, cW6, cW7, cW8, cW9, cW10, cW11, cW12⟩ := cells13 HKW.out
 obtain ⟨cG0, cG1, cG2, cG3, cG4, cG5, cG6, cG7, cG8, cG9, cG10, cG11, cG12⟩ := cells13 HKG.out
 go_wp2_with fail
 clear cf0 cf1 cf2 cf3
 clear cW0 cW1 cW2 cW3 cW4 cW5 cW6 cW7 cW8 cW9 cW10 cW11 cW12
 clear cG0 cG1 cG2 cG3 cG4 cG5 cG6 cG7 cG8 cG9 cG10 cG11 cG12
 refine (eqLine_same ra rb rd rm _ pm rn _ pg rT rto rH rho _ pt _ pb _ _ _ _ _ _ _ HOg.out.reads HOw.out.reads (Nat.le_refl _) (Nat.le_refl _) (Nat.le_trans HL6.out.1 (by decide)) (Nat.le_trans HL6.out.2.1 (by decide)) (Nat.le_trans HL6.out.2.2.1 (by decide)) (Nat.le_trans HL6.out.2.2.2 (by decide))).mono ?_
 rintro e x10 ⟨rfl, hbx⟩
 have HK := Lib.hid (HK.out.from hbx)
 have HKW := Lib.hid (HKW.out.from hbx)
 have HKG := Lib.hid (HKG.out.from hbx)
 have HOw := Lib.hid (HOw.out.below hbx)
 have HOg := Lib.hid (HOg.out.below hbx)
 have HOs := Lib.hid (HOs.out.below hbx)
 have HOz := Lib.hid (HOz.out.below hbx)
 have HA := Lib.hid (HA.out.below (hbx.mono HB.out.size))
 have HI := Lib.hid (HI.out.below (hbx.mono HB.out.size))
 have HB := Lib.hid (HB.out.trans (hbx.mono HB.out.size))
 clear hbx
 obtain ⟨cf0, cf1, cf2, cf3⟩ := cell4 HK.out
 obtain ⟨cW0, cW1, cW2, cW3, cW4, cW5, cW6, cW7, cW8, cW9, cW10, cW11, cW12⟩ := cells13 HKW.out
 obtain ⟨cG0, cG1, cG2, cG3, cG4, cG5, cG6, cG7, cG8, cG9, cG10, cG11, cG12⟩ := cells13 HKG.out
 go_wp2_with fail
 clear cf0 cf1 cf2 cf3
 clear cW0 cW1 cW2 cW3 cW4 cW5 cW6 cW7 cW8 cW9 cW10 cW11 cW12
 clear cG0 cG1 cG2 cG3 cG4 cG5 cG6 cG7 cG8 cG9 cG10 cG11 cG12
 refine (copy_any _ ss _ w.heap.size HA.out HB.out.size hsl).mono ?_
 rintro e x11 ⟨⟨v3, rfl, ho3⟩, hbx⟩
 have ho3 : OS _ _ v3 ss := ho3
 have SZ3 := Lib.hid hbx.size
 have HK := Lib.hid (HK.out.from hbx)
 have HKW := Lib.hid (HKW.out.from hbx)
 have HKG := Lib.hid (HKG.out.from hbx)
 have HOw := Lib.hid (HOw.out.below hbx)
 have HOg := Lib.hid (HOg.out.below hbx)
 have HOs := Lib.hid (HOs.out.below hbx)
 have HOz := Lib.hid (HOz.out.below hbx)
 have HA := Lib.hid (HA.out.below (hbx.mono HB.out.size))
 have HI := Lib.hid (HI.out.below (hbx.mono HB.out.size))
 have HB := Lib.hid (HB.out.trans (hbx.mono HB.out.size))
 have HO3 := Lib.hid ho3
 clear ho3 hbx
 obtain ⟨cf0, cf1, cf2, cf3⟩ := cell4 HK.out
 obtain ⟨cW0, cW1, cW2, cW3, cW4, cW5, cW6, cW7, cW8, cW9, cW10, cW11, cW12⟩ := cells13 HKW.out
 obtain ⟨cG0, cG1, cG2, cG3, cG4, cG5, cG6, cG7, cG8, cG9, cG10, cG11, cG12⟩ := cells13 HKG.out
 go_wp2_with fail
 clear cf0 cf1 cf2 cf3
 clear cW0 cW1 cW2 cW3 cW4 cW5 cW6 cW7 cW8 cW9 cW10 cW11 cW12
 clear cG0 cG1 cG2 cG3 cG4 cG5 cG6 cG7 cG8 cG9 cG10 cG11 cG12
 refine (eqStrs_same vs v3 ss _ _ _ HOs.out.reads HO3.out.reads (Nat.le_refl _) (Nat.le_refl _) hsl).mono ?_
 rintro e x12 ⟨rfl, hbx⟩
 have HK := Lib.hid (HK.out.from hbx)
 have HKW := Lib.hid (HKW.out.from hbx)
 have HKG := Lib.hid (HKG.out.from hbx)
 have HOw := Lib.hid (HOw.out.below hbx)
 have HOg := Lib.hid (HOg.out.below hbx)
 have HOs := Lib.hid (HOs.out.below hbx)
 have HO3 := Lib.hid (HO3.out.below hbx)
 have HOz := Lib.hid (HOz.out.below hbx)
 have HA := Lib.hid (HA.out.below (hbx.mono HB.out.size))
 have HI := Lib.hid (HI.out.below (hbx.mono HB.out.size))
 have HB := Lib.hid (HB.out.trans (hbx.mono HB.out.size))
 clear hbx HO3
 obtain ⟨cf0, cf1, cf2, cf3⟩ := cell4 HK.out
 obtain ⟨cW0, cW1, cW2, cW3, cW4, cW5, cW6, cW7, cW8, cW9, cW10, cW11, cW12⟩ := cells13 HKW.out
 obtain ⟨cG0, cG1, cG2, cG3, cG4, cG5, cG6, cG7, cG8, cG9, cG10, cG11, cG12⟩ := cells13 HKG.out
 go_wp2_with fail
 clear cf0 cf1 cf2 cf3
 clear cW0 cW1 cW2 cW3 cW4 cW5 cW6 cW7 cW8 cW9 cW10 cW11 cW12
 clear cG0 cG1 cG2 cG3 cG4 cG5 cG6 cG7 cG8 cG9 cG10 cG11 cG12
 refine (toInts_any _ zs _ w.heap.size HI.out HB.out.size HZL.out).mono ?_
 rintro e x13 ⟨⟨v4, rfl, ho4⟩, hbx⟩
 have SZ4 := Lib.hid hbx.size
 have HK := Lib.hid (HK.out.from hbx)
 have HKW := Lib.hid (HKW.out.from hbx)
 have HKG := Lib.hid (HKG.out.from hbx)
 have HOw := Lib.hid (HOw.out.below hbx)
 have HOg := Lib.hid (HOg.out.below hbx)
 have HOs := Lib.hid (HOs.out.below hbx)
 have HOz := Lib.hid (HOz.out.below hbx)
 have HA := Lib.hid (HA.out.below (hbx.mono HB.out.size))
 have HI := Lib.hid (HI.out.below (hbx.mono HB.out.size))
 have HB := Lib.hid (HB.out.trans (hbx.mono HB.out.size))
 have HO4 := Lib.hid ho4
 clear ho4 hbx
 obtain ⟨cf0, cf1, cf2, cf3⟩ := cell4 HK.out
 obtain ⟨cW0, cW1, cW2, cW3, cW4, cW5, cW6, cW7, cW8, cW9, cW10, cW11, cW12⟩ := cells13 HKW.out
 obtain ⟨cG0, cG1, cG2, cG3, cG4, cG5, cG6, cG7, cG8, cG9, cG10, cG11, cG12⟩ := cells13 HKG.out
 go_wp2_with fail
 clear cf0 cf1 cf2 cf3
 clear cW0 cW1 cW2 cW3 cW4 cW5 cW6 cW7 cW8 cW9 cW10 cW11 cW12
 clear cG0 cG1 cG2 cG3 cG4 cG5 cG6 cG7 cG8 cG9 cG10 cG11 cG12
 refine (eqInts_same vz v4 zs _ _ _ HOz.out.reads HO4.out.reads (Nat.le_refl _) (Nat.le_refl _) HZL.out).mono ?_
 rintro e x14 ⟨rfl, hbx⟩
 have HK := Lib.hid (HK.out.from hbx)
 have HKW := Lib.hid (HKW.out.from hbx)
 have HKG := Lib.hid (HKG.out.from hbx)
 have HOw := Lib.hid (HOw.out.below hbx)
 have HOg := Lib.hid (HOg.out.below hbx)
 have HOs := Lib.hid (HOs.out.below hbx)
 have HOz := Lib.hid (HOz.out.below hbx)
 have HO4 := Lib.hid (HO4.out.below hbx)
 have HA := Lib.hid (HA.out.below (hbx.mono HB.out.size))
 have HI := Lib.hid (HI.out.below (hbx.mono HB.out.size))
 have HB := Lib.hid (HB.out.trans (hbx.mono HB.out.size))
 clear hbx HO4
 obtain ⟨cf0, cf1, cf2, cf3⟩ := cell4 HK.out
 obtain ⟨cW0, cW1, cW2, cW3, cW4, cW5, cW6, cW7, cW8, cW9, cW10, cW11, cW12⟩ := cells13 HKW.out
 obtain ⟨cG0, cG1, cG2, cG3, cG4, cG5, cG6, cG7, cG8, cG9, cG10, cG11, cG12⟩ := cells13 HKG.out
 go_wp2_with fail
 clear cf0 cf1 cf2 cf3
 clear cW0 cW1 cW2 cW3 cW4 cW5 cW6 cW7 cW8 cW9 cW10 cW11 cW12
 clear cG0 cG1 cG2 cG3 cG4 cG5 cG6 cG7 cG8 cG9 cG10 cG11 cG12
 refine (markS_any vs ss 1 _ _ HOs.out (by omega) (by omega)).mono ?_
 rintro e x15 ⟨rfl, hos, hg⟩
 have hb5 := (Below.refl w.heap.size _).grown hg HB.out.size (fun k hk => Nat.le_trans HB5s.out (HOs.out.low k hk).1)
 have HK := Lib.hid (HK.out.os (by decide) HOs.out hg)
 have HKW := Lib.hid (HKW.out.os (by decide) HOs.out hg)
 have HKG := Lib.hid (HKG.out.os (by decide) HOs.out hg)
 have HOw := Lib.hid (OL.kept1 (ss := ss) (base' := 0) HOw.out hg ⟨(apart_of HWL5.out.1 HOs.out).1, (apart_of HWL5.out.2.1 HOs.out).1, (apart_of HWL5.out.2.2.1 HOs.out).1, (apart_of HWL5.out.2.2.2 HOs.out).1⟩)
 have HOg := Lib.hid (OL.kept1 (ss := ss) (base' := 0) HOg.out hg ⟨(apart_of HSL.out HOg.out.1).2, (apart_of HSL.out HOg.out.2.1).2, (apart_of HSL.out HOg.out.2.2.1).2, (apart_of HSL.out HOg.out.2.2.2).2⟩)
 have HOz := Lib.hid (OZ.os HOz.out HOs.out hg)
 have HA := Lib.hid (HA.out.below hb5)
 have HI := Lib.hid (HI.out.below hb5)
 have HB := Lib.hid (HB.out.trans hb5)
 clear hos hg hb5 HOs HSL
 obtain ⟨cf0, cf1, cf2, cf3⟩ := cell4 HK.out
 obtain ⟨cW0, cW1, cW2, cW3, cW4, cW5, cW6, cW7, cW8, cW9, cW10, cW11, cW12⟩ := cells13 HKW.out
 obtain ⟨cG0, cG1, cG2, cG3, cG4, cG5, cG6, cG7, cG8, cG9, cG10, cG11, cG12⟩ := cells13 HKG.out
 go_wp2_with fail
 clear cf0 cf1 cf2 cf3
 clear cW0 cW1 cW2 cW3 cW4 cW5 cW6 cW7 cW8 cW9 cW10 cW11 cW12
 clear cG0 cG1 cG2 cG3 cG4 cG5 cG6 cG7 cG8 cG9 cG10 cG11 cG12
 refine (markInts_any vz zs (1 + ss.length) _ _ HOz.out (by have := HZL.out; omega)).mono ?_
 rintro e x16 ⟨rfl, hg⟩
 have hb5 := (Below.refl w.heap.size _).grown hg HB.out.size (fun k hk => Nat.le_trans HB5z.out (HOz.out.low k hk).1)
 have HK := Lib.hid (BK.oz HK.out (by decide) HOz.out hg)
 have HKW := Lib.hid (BK.oz HKW.out (by decide) HOz.out hg)
 have HKG := Lib.hid (BK.oz HKG.out (by decide) HOz.out hg)
 have HOw := Lib.hid (OL.oz HOw.out HOz.out hg)
 have HOg := Lib.hid (OL.oz HOg.out HOz.out hg)
 have HA := Lib.hid (HA.out.below hb5)
 have HI := Lib.hid (HI.out.below hb5)
 have HB := Lib.hid (HB.out.trans hb5)
 clear hg hb5 HOz
 obtain ⟨cf0, cf1, cf2, cf3⟩ := cell4 HK.out
 obtain ⟨cW0, cW1, cW2, cW3, cW4, cW5, cW6, cW7, cW8, cW9, cW10, cW11, cW12⟩ := cells13 HKW.out
 obtain ⟨cG0, cG1, cG2, cG3, cG4, cG5, cG6, cG7, cG8, cG9, cG10, cG11, cG12⟩ := cells13 HKG.out
 go_wp2_with fail
 clear cf0 cf1 cf2 cf3
 clear cW0 cW1 cW2 cW3 cW4 cW5 cW6 cW7 cW8 cW9 cW10 cW11 cW12
 clear cG0 cG1 cG2 cG3 cG4 cG5 cG6 cG7 cG8 cG9 cG10 cG11 cG12
 refine (eqLine_same ra rb rd rm _ pm rn _ pg rT rto rH rho _ pt _ pb _ _ _ _ _ _ _ HOg.out.reads HOw.out.reads (Nat.le_refl _) (Nat.le_refl _) (Nat.le_trans HL6.out.1 (by decide)) (Nat.le_trans HL6.out.2.1 (by decide)) (Nat.le_trans HL6.out.2.2.1 (by decide)) (Nat.le_trans HL6.out.2.2.2 (by decide))).mono ?_
 rintro e x17 ⟨rfl, hbx⟩
 have HK := Lib.hid (HK.out.from hbx)
 have HKW := Lib.hid (HKW.out.from hbx)
 have HKG := Lib.hid (HKG.out.from hbx)
 have HOw := Lib.hid (HOw.out.below hbx)
 have HOg := Lib.hid (HOg.out.below hbx)
 have HA := Lib.hid (HA.out.below (hbx.mono HB.out.size))
 have HI := Lib.hid (HI.out.below (hbx.mono HB.out.size))
 have HB := Lib.hid (HB.out.trans (hbx.mono HB.out.size))
 clear hbx
 obtain ⟨cf0, cf1, cf2, cf3⟩ := cell4 HK.out
 obtain ⟨cW0, cW1, cW2, cW3, cW4, cW5, cW6, cW7, cW8, cW9, cW10, cW11, cW12⟩ := cells13 HKW.out
 obtain ⟨cG0, cG1, cG2, cG3, cG4, cG5, cG6, cG7, cG8, cG9, cG10, cG11, cG12⟩ := cells13 HKG.out
 go_wp2_with fail
 clear cf0 cf1 cf2 cf3
 clear cW0 cW1 cW2 cW3 cW4 cW5 cW6 cW7 cW8 cW9 cW10 cW11 cW12
 clear cG0 cG1 cG2 cG3 cG4 cG5 cG6 cG7 cG8 cG9 cG10 cG11 cG12
 refine (markLineK_any ra rb rd rm _ pm rn _ pg rT rto rH rho _ pt _ pb _ x8.heap.size HOg.out HAP.out (by have h1 := HL6.out; omega)).mono ?_
 rintro e x18 ⟨rfl, hol, hfb, hsz, hkb, hkr⟩
 have hbb := hfb x8.heap.size (Nat.le_refl _) (Nat.le_trans HX8.out (Nat.le_of_lt HKG.out.lt))
 have hbw := hbb.mono HB8.out
 have HK := Lib.hid (hkb _ _ _ (by decide) HK.out)
 have HKW := Lib.hid (hkb _ _ _ (by decide) HKW.out)
 have HKG := Lib.hid (hkb _ _ _ (by decide) HKG.out)
 have HOw := Lib.hid (HOw.out.lunder (HWL5.out.mono HX58.out) hbb)
 have HA := Lib.hid (HA.out.below hbw)
 have HI := Lib.hid (HI.out.below hbw)
 have HB := Lib.hid (HB.out.trans hbw)
 have HOg := Lib.hid hol
 clear hol hfb hsz hkb hkr hbb hbw HAP
 obtain ⟨cf0, cf1, cf2, cf3⟩ := cell4 HK.out
 obtain ⟨cW0, cW1, cW2, cW3, cW4, cW5, cW6, cW7, cW8, cW9, cW10, cW11, cW12⟩ := cells13 HKW.out
 obtain ⟨cG0, cG1, cG2, cG3, cG4, cG5, cG6, cG7, cG8, cG9, cG10, cG11, cG12⟩ := cells13 HKG.out
 go_wp2_with fail
 clear cf0 cf1 cf2 cf3
 clear cW0 cW1 cW2 cW3 cW4 cW5 cW6 cW7 cW8 cW9 cW10 cW11 cW12
 clear cG0 cG1 cG2 cG3 cG4 cG5 cG6 cG7 cG8 cG9 cG10 cG11 cG12
 refine (heldLine_any ra rb rd rm _ rn _ rT rto rH rho _ _ pm.length pg.length pt.length pb.length _ _ HOg.out.reads (Nat.le_refl _) (by have h1 := HL6.out; omega)).mono ?_
 rintro e x19 ⟨rfl, hbx⟩
 have HK := Lib.hid (HK.out.from hbx)
 have HKW := Lib.hid (HKW.out.from hbx)
 have HKG := Lib.hid (HKG.out.from hbx)
 have HOw := Lib.hid (HOw.out.below hbx)
 have HOg := Lib.hid (HOg.out.below hbx)
 have HA := Lib.hid (HA.out.below (hbx.mono HB.out.size))
 have HI := Lib.hid (HI.out.below (hbx.mono HB.out.size))
 have HB := Lib.hid (HB.out.trans (hbx.mono HB.out.size))
 clear hbx
 obtain ⟨cf0, cf1, cf2, cf3⟩ := cell4 HK.out
 obtain ⟨cW0, cW1, cW2, cW3, cW4, cW5, cW6, cW7, cW8, cW9, cW10, cW11, cW12⟩ := cells13 HKW.out
 obtain ⟨cG0, cG1, cG2, cG3, cG4, cG5, cG6, cG7, cG8, cG9, cG10, cG11, cG12⟩ := cells13 HKG.out
 go_wp2_with fail
 clear cf0 cf1 cf2 cf3
 clear cW0 cW1 cW2 cW3 cW4 cW5 cW6 cW7 cW8 cW9 cW10 cW11 cW12
 clear cG0 cG1 cG2 cG3 cG4 cG5 cG6 cG7 cG8 cG9 cG10 cG11 cG12
 refine (toConf_any a0_0 a0_1 a0_2 a0_3 _).mono ?_
 rintro e x20 ⟨rfl, hbx⟩
 have HK := Lib.hid (HK.out.from hbx)
 have HKW := Lib.hid (HKW.out.from hbx)
 have HKG := Lib.hid (HKG.out.from hbx)
 have HOw := Lib.hid (HOw.out.below hbx)
 have HOg := Lib.hid (HOg.out.below hbx)
 have HA := Lib.hid (HA.out.below (hbx.mono HB.out.size))
 have HI := Lib.hid (HI.out.below (hbx.mono HB.out.size))
 have HB := Lib.hid (HB.out.trans (hbx.mono HB.out.size))
 clear hbx
 obtain ⟨cf0, cf1, cf2, cf3⟩ := cell4 HK.out
 obtain ⟨cW0, cW1, cW2, cW3, cW4, cW5, cW6, cW7, cW8, cW9, cW10, cW11, cW12⟩ := cells13 HKW.out
 obtain ⟨cG0, cG1, cG2, cG3, cG4, cG5, cG6, cG7, cG8, cG9, cG10, cG11, cG12⟩ := cells13 HKG.out
 go_wp2_with fail
 clear cf0 cf1 cf2 cf3
 clear cW0 cW1 cW2 cW3 cW4 cW5 cW6 cW7 cW8 cW9 cW10 cW11 cW12
 clear cG0 cG1 cG2 cG3 cG4 cG5 cG6 cG7 cG8 cG9 cG10 cG11 cG12
 refine (copy_any _ ss _ w.heap.size HA.out HB.out.size hsl).mono ?_
 rintro e x21 ⟨⟨v5, rfl, ho5⟩, hbx⟩
 have ho5 : OS _ _ v5 ss := ho5
 have SZ5 := Lib.hid hbx.size
 have HK := Lib.hid (HK.out.from hbx)
 have HKW := Lib.hid (HKW.out.from hbx)
 have HKG := Lib.hid (HKG.out.from hbx)
 have HOw := Lib.hid (HOw.out.below hbx)
 have HOg := Lib.hid (HOg.out.below hbx)
 have HA := Lib.hid (HA.out.below (hbx.mono HB.out.size))
 have HI := Lib.hid (HI.out.below (hbx.mono HB.out.size))
 have HB := Lib.hid (HB.out.trans (hbx.mono HB.out.size))
 have HO5 := Lib.hid ho5
 clear ho5 hbx
 obtain ⟨cf0, cf1, cf2, cf3⟩ := cell4 HK.out
 obtain ⟨cW0, cW1, cW2, cW3, cW4, cW5, cW6, cW7, cW8, cW9, cW10, cW11, cW12⟩ := cells13 HKW.out
 obtain ⟨cG0, cG1, cG2, cG3, cG4, cG5, cG6, cG7, cG8, cG9, cG10, cG11, cG12⟩ := cells13 HKG.out
 go_wp2_with fail
 clear cf0 cf1 cf2 cf3
 clear cW0 cW1 cW2 cW3 cW4 cW5 cW6 cW7 cW8 cW9 cW10 cW11 cW12
 clear cG0 cG1 cG2 cG3 cG4 cG5 cG6 cG7 cG8 cG9 cG10 cG11 cG12
 refine (toInts_any _ zs _ w.heap.size HI.out HB.out.size HZL.out).mono ?_
 rintro e x22 ⟨⟨v6, rfl, ho6⟩, hbx⟩
 have SZ6 := Lib.hid hbx.size
 have HK := Lib.hid (HK.out.from hbx)
 have HKW := Lib.hid (HKW.out.from hbx)
 have HKG := Lib.hid (HKG.out.from hbx)
 have HOw := Lib.hid (HOw.out.below hbx)
 have HOg := Lib.hid (HOg.out.below hbx)
 have HO5 := Lib.hid (HO5.out.below hbx)
 have HA := Lib.hid (HA.out.below (hbx.mono HB.out.size))
 have HI := Lib.hid (HI.out.below (hbx.mono HB.out.size))
 have HB := Lib.hid (HB.out.trans (hbx.mono HB.out.size))
 have HO6 := Lib.hid ho6
 clear ho6 hbx
 obtain ⟨cf0, cf1, cf2, cf3⟩ := cell4 HK.out
 obtain ⟨cW0, cW1, cW2, cW3, cW4, cW5, cW6, cW7, cW8, cW9, cW10, cW11, cW12⟩ := cells13 HKW.out
 obtain ⟨cG0, cG1, cG2, cG3, cG4, cG5, cG6, cG7, cG8, cG9, cG10, cG11, cG12⟩ := cells13 HKG.out
 go_wp2_with fail
 clear cf0 cf1 cf2 cf3
 clear cW0 cW1 cW2 cW3 cW4 cW5 cW6 cW7 cW8 cW9 cW10 cW11 cW12
 clear cG0 cG1 cG2 cG3 cG4 cG5 cG6 cG7 cG8 cG9 cG10 cG11 cG12
 refine (HIM.out _ _ _ HO5.out.reads HO6.out.reads).mono ?_
 rintro e x23 ⟨um, ug, ut, ub, rfl, hol, hbx, hap⟩
 obtain ⟨Amh, Cmh, hsh⟩ := hol.1.reads.shape
 subst hsh
 obtain ⟨Agh, Cgh, hsh⟩ := hol.2.1.reads.shape
 subst hsh
 obtain ⟨Ath, Cth, hsh⟩ := hol.2.2.1.reads.shape
 subst hsh
 obtain ⟨Abh, Cbh, hsh⟩ := hol.2.2.2.reads.shape
 subst hsh
 have HK := Lib.hid (HK.out.from hbx)
 have HKW := Lib.hid (HKW.out.from hbx)
 have HKG := Lib.hid (HKG.out.from hbx)
 have HOw := Lib.hid (HOw.out.below hbx)
 have HOg := Lib.hid (HOg.out.below hbx)
 have HO5 := Lib.hid (HO5.out.below hbx)
 have HO6 := Lib.hid (HO6.out.below hbx)
 have HA := Lib.hid (HA.out.below (hbx.mono HB.out.size))
 have HI := Lib.hid (HI.out.below (hbx.mono HB.out.size))
 have HB := Lib.hid (HB.out.trans (hbx.mono HB.out.size))
 have HOh := Lib.hid hol
 clear hol hbx hap HO5 HO6
 have hba := (Below.refl _ x23).alloc (Nat.le_refl _) (.cells #[.int .i64 ra, .int .i64 rb, .int .i64 rd, .int .i64 rm, .slice Amh pm.length Cmh, .int .i64 rn, .slice Agh pg.length Cgh, .string rT, .bool rto, .string rH, .bool rho, .slice Ath pt.length Cth, .slice Abh pb.length Cbh] 32)
 have hnew := BK.new x23 #[.int .i64 ra, .int .i64 rb, .int .i64 rd, .int .i64 rm, .slice Amh pm.length Cmh, .int .i64 rn, .slice Agh pg.length Cgh, .string rT, .bool rto, .string rH, .bool rho, .slice Ath pt.length Cth, .slice Abh pb.length Cbh] 32
 have HK := Lib.hid (HK.out.from hba)
 have HKW := Lib.hid (HKW.out.from hba)
 have HKG := Lib.hid (HKG.out.from hba)
 have HOw := Lib.hid (HOw.out.below hba)
 have HOg := Lib.hid (HOg.out.below hba)
 have HOh := Lib.hid (HOh.out.below hba)
 have HA := Lib.hid (HA.out.below (hba.mono HB.out.size))
 have HI := Lib.hid (HI.out.below (hba.mono HB.out.size))
 have HB := Lib.hid (HB.out.trans (hba.mono HB.out.size))
 have HKH := Lib.hid hnew
 clear hnew hba
 obtain ⟨cf0, cf1, cf2, cf3⟩ := cell4 HK.out
 obtain ⟨cW0, cW1, cW2, cW3, cW4, cW5, cW6, cW7, cW8, cW9, cW10, cW11, cW12⟩ := cells13 HKW.out
 obtain ⟨cG0, cG1, cG2, cG3, cG4, cG5, cG6, cG7, cG8, cG9, cG10, cG11, cG12⟩ := cells13 HKG.out
 obtain ⟨cH0, cH1, cH2, cH3, cH4, cH5, cH6, cH7, cH8, cH9, cH10, cH11, cH12⟩ := cells13 HKH.out
 go_wp2_with fail
 clear cf0 cf1 cf2 cf3
 clear cW0 cW1 cW2 cW3 cW4 cW5 cW6 cW7 cW8 cW9 cW10 cW11 cW12
 clear cG0 cG1 cG2 cG3 cG4 cG5 cG6 cG7 cG8 cG9 cG10 cG11 cG12
 clear cH0 cH1 cH2 cH3 cH4 cH5 cH6 cH7 cH8 cH9 cH10 cH11 cH12
 refine (eqLine_same ra rb rd rm _ pm rn _ pg rT rto rH rho _ pt _ pb _ _ _ _ _ _ _ HOh.out.reads HOw.out.reads (Nat.le_refl _) (Nat.le_refl _) (Nat.le_trans HL6.out.1 (by decide)) (Nat.le_trans HL6.out.2.1 (by decide)) (Nat.le_trans HL6.out.2.2.1 (by decide)) (Nat.le_trans HL6.out.2.2.2 (by decide))).mono ?_
 rintro e x24 ⟨rfl, hbx⟩
 have HK := Lib.hid (HK.out.from hbx)
 have HKW := Lib.hid (HKW.out.from hbx)
 have HKG := Lib.hid (HKG.out.from hbx)
 have HKH := Lib.hid (HKH.out.from hbx)
 have HOw := Lib.hid (HOw.out.below hbx)
 have HOg := Lib.hid (HOg.out.below hbx)
 have HOh := Lib.hid (HOh.out.below hbx)
 have HA := Lib.hid (HA.out.below (hbx.mono HB.out.size))
 have HI := Lib.hid (HI.out.below (hbx.mono HB.out.size))
 have HB := Lib.hid (HB.out.trans (hbx.mono HB.out.size))
 clear hbx
 obtain ⟨cf0, cf1, cf2, cf3⟩ := cell4 HK.out
 obtain ⟨cW0, cW1, cW2, cW3, cW4, cW5, cW6, cW7, cW8, cW9, cW10, cW11, cW12⟩ := cells13 HKW.out
 obtain ⟨cG0, cG1, cG2, cG3, cG4, cG5, cG6, cG7, cG8, cG9, cG10, cG11, cG12⟩ := cells13 HKG.out
 obtain ⟨cH0, cH1, cH2, cH3, cH4, cH5, cH6, cH7, cH8, cH9, cH10, cH11, cH12⟩ := cells13 HKH.out
 go_wp2_with fail
 clear cf0 cf1 cf2 cf3
 clear cW0 cW1 cW2 cW3 cW4 cW5 cW6 cW7 cW8 cW9 cW10 cW11 cW12
 clear cG0 cG1 cG2 cG3 cG4 cG5 cG6 cG7 cG8 cG9 cG10 cG11 cG12
 clear cH0 cH1 cH2 cH3 cH4 cH5 cH6 cH7 cH8 cH9 cH10 cH11 cH12
 refine (heldLine_any ra rb rd rm _ rn _ rT rto rH rho _ _ pm.length pg.length pt.length pb.length _ _ HOg.out.reads (Nat.le_refl _) (by have h1 := HL6.out; omega)).mono ?_
 rintro e x25 ⟨rfl, hbx⟩
 have HK := Lib.hid (HK.out.from hbx)
 have HKW := Lib.hid (HKW.out.from hbx)
 have HKG := Lib.hid (HKG.out.from hbx)
 have HKH := Lib.hid (HKH.out.from hbx)
 have HOw := Lib.hid (HOw.out.below hbx)
 have HOg := Lib.hid (HOg.out.below hbx)
 have HOh := Lib.hid (HOh.out.below hbx)
 have HA := Lib.hid (HA.out.below (hbx.mono HB.out.size))
 have HI := Lib.hid (HI.out.below (hbx.mono HB.out.size))
 have HB := Lib.hid (HB.out.trans (hbx.mono HB.out.size))
 clear hbx
 obtain ⟨cf0, cf1, cf2, cf3⟩ := cell4 HK.out
 obtain ⟨cW0, cW1, cW2, cW3, cW4, cW5, cW6, cW7, cW8, cW9, cW10, cW11, cW12⟩ := cells13 HKW.out
 obtain ⟨cG0, cG1, cG2, cG3, cG4, cG5, cG6, cG7, cG8, cG9, cG10, cG11, cG12⟩ := cells13 HKG.out
 obtain ⟨cH0, cH1, cH2, cH3, cH4, cH5, cH6, cH7, cH8, cH9, cH10, cH11, cH12⟩ := cells13 HKH.out
 go_wp2
 go_ret
 exact ⟨rfl, HB.out⟩
theorem own : ownKnob Tryz.prog.godebug = none := by kernel_rfl
theorem laidOut : laidOutB Tryz.prog = true := by kernel_rfl
set_option maxRecDepth 100000 in
theorem lifted (os : Os) (started : os.Started) (H : Type) (enc : TypeId × Value → H) :
  ReturnsInHanded {} Tryz.checked os 7 .any (Rows.fnExactLinePlaySpec.pre6 enc Tryz.prog Tryz.f7 Rows.fnExactLinePlayRow.domain false) (Rows.fnExactLinePlaySpec.post enc Tryz.prog Tryz.f7 false true false false) := by
 refine returnsInHanded_of_change (C := Tryz.checked) own started (by kernel_rfl) Tryz.func7
  (ChangeSpec.witness6 (enc := enc) (C := Tryz.checked) false ⟨#[], #[.agg #[.int .i64 0, .int .i64 0, .int .i64 0, .int .i64 0], .slice none 0 0, .slice none 0 0], []⟩ 8 (by kernel_rfl) (by kernel_rfl) (by kernel_rfl) (by kernel_rfl)) ?_
 intro W base args ds gs before hval0 hW hcnd _
 have hval : ∀ (j : Nat) t v, Tryz.f7.params[j]? = some t → args[j]? = some v → Value.okWide Tryz.prog W .any base t v := hval0
 have hW' := hW
 obtain ⟨p, q, hA0, hV, rfl, hfz, hnd⟩ := hW
 have hA : DataW.TrodAll enc Tryz.prog W 0 (fun _ => true) true Tryz.f7.params.toList args.toList ds p := hA0
 rw [Tryz.params7] at hA hval
 obtain ⟨v0, vs0, d0, ds0, p0, q0, hargs, rfl, rfl, h0, r0⟩ := trodAll_cons hA
 obtain ⟨v1, vs1, d1, ds1, p1, q1, rfl, rfl, rfl, h1, r1⟩ := trodAll_cons r0
 obtain ⟨v2, vs2, d2, ds2, p2, q2, rfl, rfl, rfl, h2, r2⟩ := trodAll_cons r1
 obtain ⟨rfl, rfl, rfl⟩ := trodAll_nil r2
 obtain rfl : args = #[v0, v1, v2] := by cases args; simp_all
 obtain ⟨rfl, rfl⟩ := trodVars_none hV
 have k0 := h0
 have lt0 : ∀ x ∈ p0, x.block < W.heap.size := by obtain ⟨m, hm⟩ := k0; exact DataW.trod_lt m _ _ _ hm
 obtain ⟨u0_0, u0_1, u0_2, u0_3, y0_0, y0_1, y0_2, y0_3, nn0, rfl, hd0, hp0, t0_0, t0_1, t0_2, t0_3⟩ := Joins.open_agg4 Tryz.underlying44 (by kernel_rfl) (by kernel_rfl) (hval 0 44 v0 rfl rfl) h0
 obtain ⟨a0_0, e0_0, _, w0_0⟩ := DataW.trod_int Tryz.underlying3 t0_0
 obtain ⟨a0_1, e0_1, _, w0_1⟩ := DataW.trod_int Tryz.underlying3 t0_1
 obtain ⟨a0_2, e0_2, _, w0_2⟩ := DataW.trod_int Tryz.underlying3 t0_2
 obtain ⟨a0_3, e0_3, _, w0_3⟩ := DataW.trod_int Tryz.underlying3 t0_3
 simp only [List.cons.injEq, and_true] at e0_0 e0_1 e0_2 e0_3
 subst e0_0 e0_1 e0_2 e0_3
 clear t0_0 t0_1 t0_2 t0_3 hd0 hp0
 obtain ⟨a1, len1, cap1, rfl⟩ := okWide_slice Tryz.underlying25 (hval 1 25 v1 rfl rfl)
 have k1 := h1
 have lt1 : ∀ x ∈ p1, x.block < W.heap.size := by obtain ⟨m, hm⟩ := k1; exact DataW.trod_lt m _ _ _ hm
 obtain ⟨z1, w1⟩ : ∃ zs, IsStrs W a1 len1 cap1 zs := by
  obtain ⟨fuel, hf⟩ := h1
  rcases open_strings Tryz.underlying25 Tryz.underlying9 (by kernel_rfl) hf with ⟨hcs, _⟩ | ⟨x, l, c, zs, hcs, _, hl, hm, hz, _, hcell, hwz⟩
  ·simp [Value.cells] at hcs
   obtain ⟨rfl, rfl, rfl⟩ := hcs
   exact ⟨[], .inl ⟨rfl, rfl, rfl, rfl⟩⟩
  ·simp [Value.cells] at hcs
   obtain ⟨rfl, rfl, rfl⟩ := hcs
   exact ⟨zs, .inr ⟨_, rfl, hl, hm, by simpa using hz, hcell, hwz⟩⟩
 obtain ⟨a2, len2, cap2, rfl⟩ := okWide_slice Tryz.underlying26 (hval 2 26 v2 rfl rfl)
 have k2 := h2
 have lt2 : ∀ x ∈ p2, x.block < W.heap.size := by obtain ⟨m, hm⟩ := k2; exact DataW.trod_lt m _ _ _ hm
 obtain ⟨z2, w2⟩ : ∃ zs, IsRow .i64 W a2 len2 cap2 zs := by
  obtain ⟨fuel, hf⟩ := h2
  rcases open_ints Tryz.underlying26 Tryz.underlying3 (by kernel_rfl) hf with ⟨hcs, _⟩ | ⟨x, l, c, zs, hcs, _, hl, hm, hz, _, hcell, hwz⟩
  ·simp [Value.cells] at hcs
   obtain ⟨rfl, rfl, rfl⟩ := hcs
   exact ⟨[], .inl ⟨rfl, rfl, rfl, rfl⟩⟩
  ·simp [Value.cells] at hcs
   obtain ⟨rfl, rfl, rfl⟩ := hcs
   exact ⟨zs, .inr ⟨_, rfl, hl, hm, by simpa using hz, hcell, hwz⟩⟩
 clear hA0 hval0
 refine (walk a0_0 a0_1 a0_2 a0_3 a1 len1 cap1 z1 a2 len2 cap2 z2 W w0_0 w0_1 w0_2 w0_3 w1 w2).mono fun e W' ⟨he, bel⟩ => ?_
 subst he
 exact ⟨_, rfl, _, _, _, [], _, [], hW', trodAll_mk1 (shut_bool Tryz.underlying4 _), (trodAll_cons_mk (Below.trod laidOut (by kernel_rfl) (of_decide_eq_true (by kernel_rfl)) k0 bel lt0) (trodAll_cons_mk (Below.trod laidOut (by kernel_rfl) (of_decide_eq_true (by kernel_rfl)) k1 bel lt1) (trodAll_cons_mk (Below.trod laidOut (by kernel_rfl) (of_decide_eq_true (by kernel_rfl)) k2 bel lt2) trodAll_mk0))), rfl, bel.frame _, fun h => by cases h⟩
theorem over : Rows.fnExactLinePlayRow.holds Tryz.pinned (OpenSpec.ofChange Rows.fnExactLinePlaySpec) :=
 OpenClaim.holds_of_wide 7 Tryz.f7 rfl rfl rfl rfl rfl rfl rfl ⟨rfl, rfl, rfl, rfl, rfl⟩ rfl rfl rfl rfl rfl (by kernel_rfl) Tryz.func7 (by kernel_rfl)
  (of_decide_eq_true (by kernel_rfl)) (by unfold Func.isWrapper; first | (rw [if_pos (by decide +kernel)]; kernel_rfl) | (rw [if_neg (by decide +kernel)]; exact ⟨rfl, rfl⟩))
  (fun os started H enc _ => lifted os started H enc)
theorem proved : Rows.FnExactLinePlaySaid := over
end Go.Proofs.YtmggoiabcboaiaaGreat.fnExactLinePlay
