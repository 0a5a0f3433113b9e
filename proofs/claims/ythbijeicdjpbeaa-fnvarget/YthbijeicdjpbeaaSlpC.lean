/- The cursor of the program: a value read, and at most so many. -/
import Derived.Test.YthbijeicdjpbeaaSlpB
import Derived.Test.YthbijeicdjpbeaaBk
import Derived.Test.YthbijeicdjpbeaaKitDraw
import Derived.Test.YthbijeicdjpbeaaDrawD
import Derived.Test.YthbijeicdjpbeaaKitBits
import Derived.RegionTactic
import Derived.Deep.RegionHeld3
namespace Go.Proofs.Ythbijeicdjpbeaa
open Go.ChangeShapes Go.WideShapes Go.ChangeAt Go.RowKit
theorem bz_zero {s : ByteArray} (h : s.size = 0) : s = ⟨#[]⟩ := by
  have : s.data.toList = [] := List.eq_nil_of_length_eq_zero (by rw [size_list]; exact h)
  rw [← Lib.mk_data s, this]
theorem bz_list (s : ByteArray) : s.toList.isEmpty = decide (s.size = 0) := by
  rw [Lib.toList_data, ← size_list]
  cases s.data.toList <;> rfl
theorem list_one (s : ByteArray) (h : 0 < s.size) : s.data.toList = s[0] :: s.data.toList.drop 1 := by
  have hl := size_list s
  have e := List.drop_eq_getElem_cons (l := s.data.toList) (i := 0) (by omega)
  rw [List.drop_zero] at e
  exact e
theorem list_two (s : ByteArray) (h : 1 < s.size) : (s.data.toList.drop 1).head? = some s[1] := by
  have hl := size_list s
  rw [List.drop_eq_getElem_cons (l := s.data.toList) (i := 1) (by omega)]
  rfl
theorem ext_fr (s : ByteArray) (k : Nat) : s.extract k s.size = ⟨(s.data.toList.drop k).toArray⟩ := by
  rw [← ext_drop]
theorem gr_set {a w : World} {g : Nat} (h : a.grownBy w (some g)) (i : Nat) (v : Value) : a.grownBy (w.setCell ⟨g, i, none⟩ v) (some g) :=
  ⟨h.os, h.tape, h.output, by simpa using h.size, fun k hk hne => (Below.heap_setCell w ⟨g, i, none⟩ v k (fun e => hne (by rw [e]))).trans (h.block k hk hne)⟩
theorem grown_self (w : World) (row : Option Nat) : w.grownBy w row := ⟨rfl, rfl, rfl, Nat.le_refl _, fun _ _ _ => rfl⟩
def sliceLen : Value → Nat
  | .slice _ n _ => n
  | _ => 0
def RdB (s : ByteArray) : UInt8 × Nat := slRead s.data.toList
theorem slByte0 (s : ByteArray) (h : s.size = 0) : slRead s.data.toList = (0, 0) := by
  rw [show s.data.toList = [] from List.eq_nil_of_length_eq_zero (by rw [size_list]; exact h)]; rfl
theorem slByte192 (s : ByteArray) (h : 0 < s.size) (h1 : s[0].toNat = 192) : slRead s.data.toList = (0, 0) := by
  rw [list_one s h, slRead, if_pos (UInt8.toNat_inj.1 h1)]
theorem slByteP (s : ByteArray) (h : 0 < s.size) (h1 : s[0].toNat ≠ 192) (h2 : s[0].toNat ≠ 219) : slRead s.data.toList = (s[0], 1) := by
  rw [list_one s h, slRead, if_neg (fun e => h1 (by rw [e]; rfl)), if_pos (fun e => h2 (by rw [e]; rfl))]
theorem slByteE (s : ByteArray) (h : 0 < s.size) (h2 : s[0].toNat = 219) : slRead s.data.toList = if (s.data.toList.drop 1).head? = some 220 then (192, 2) else if (s.data.toList.drop 1).head? = some 221 then (219, 2) else (0, 0) := by
  have e := UInt8.toNat_inj.1 (show s[0].toNat = (219 : UInt8).toNat from h2)
  conv => lhs; rw [list_one s h]
  rw [slRead, if_neg (by rw [e]; decide), if_neg (by rw [e]; simp)]
theorem slByteE1 (s : ByteArray) (h : s.size = 1) (h2 : (s[0]'(by omega)).toNat = 219) : slRead s.data.toList = (0, 0) := by
  rw [slByteE s (by omega) h2, List.drop_eq_nil_of_le (by rw [size_list]; omega)]
  rfl
theorem slByteE2 (s : ByteArray) (h : 1 < s.size) (h2 : s[0].toNat = 219) : slRead s.data.toList = if s[1].toNat = 220 then (192, 2) else if s[1].toNat = 221 then (219, 2) else (0, 0) := by
  rw [slByteE s (by omega) h2, list_two s h]
  simp only [Option.some.injEq]
  by_cases h5 : s[1].toNat = 220
  · rw [if_pos h5, if_pos (UInt8.toNat_inj.1 h5)]
  · rw [if_neg h5, if_neg (fun e => h5 (by rw [e]; rfl))]
    by_cases h6 : s[1].toNat = 221
    · rw [if_pos h6, if_pos (UInt8.toNat_inj.1 h6)]
    · rw [if_neg h6, if_neg (fun e => h6 (by rw [e]; rfl))]
theorem slipByte_any (s : ByteArray) (w : World) :
    Calls Try.prog 26 #[.string s] w fun e w' => e = .returned (.tuple #[.int .u8 (slRead s.data.toList).1.toNat, .int .i64 ((slRead s.data.toList).2 : Nat)]) ∧ Below w.heap.size w w' := by
  by_cases h0 : s.size = 0
  · have HV := Lib.hid (slByte0 s h0)
    obtain rfl := bz_zero h0
    go_enter Try.func26, Try.ntmps26
    go_wp2
    go_ret2
    exact ⟨by rw [HV.out]; rfl, Below.refl _ _⟩
  have hp : 0 < s.size := by omega
  have hne : s.toList.isEmpty = false := by rw [bz_list]; exact decide_eq_false h0
  have hb := UInt8.toNat_lt s[0]
  by_cases h1 : s[0].toNat = 192
  · have HV := Lib.hid (slByte192 s hp h1)
    go_enter Try.func26, Try.ntmps26
    go_wp2
    go_ret2
    exact ⟨by rw [HV.out]; rfl, Below.refl _ _⟩
  have hn1 : ((s[0].toNat : Int) == 192) = false := beq_eq_false_iff_ne.2 (by omega)
  by_cases h2 : s[0].toNat = 219
  · by_cases h3 : s.size = 1
    · have HV := Lib.hid (slByteE1 s h3 h2)
      clear h1 hn1
      go_enter Try.func26, Try.ntmps26
      go_wp2
      go_ret2
      exact ⟨by rw [HV.out]; rfl, Below.refl _ _⟩
    have h4 : 1 < s.size := by omega
    have HV := Lib.hid (slByteE2 s h4 h2)
    have hb2 := UInt8.toNat_lt s[1]
    clear h1 hn1
    by_cases h5 : s[1].toNat = 220
    · have HW := Lib.hid (HV.out.trans (if_pos h5))
      go_enter Try.func26, Try.ntmps26
      go_wp2
      go_ret2
      exact ⟨by rw [HW.out]; rfl, Below.refl _ _⟩
    have hn5 : ((s[1].toNat : Int) == 220) = false := beq_eq_false_iff_ne.2 (by omega)
    by_cases h6 : s[1].toNat = 221
    · have HW := Lib.hid ((HV.out.trans (if_neg h5)).trans (if_pos h6))
      clear h5 hn5
      go_enter Try.func26, Try.ntmps26
      go_wp2
      go_ret2
      exact ⟨by rw [HW.out]; rfl, Below.refl _ _⟩
    have hn6 : ((s[1].toNat : Int) == 221) = false := beq_eq_false_iff_ne.2 (by omega)
    have HW := Lib.hid ((HV.out.trans (if_neg h5)).trans (if_neg h6))
    clear h5 h6
    go_enter Try.func26, Try.ntmps26
    go_wp2
    go_ret2
    exact ⟨by rw [HW.out]; rfl, Below.refl _ _⟩
  have HV := Lib.hid (slByteP s hp h1 h2)
  have hn2 : ((s[0].toNat : Int) != 219) = true := bne_iff_ne.2 (by omega)
  clear h1 h2
  go_enter Try.func26, Try.ntmps26
  go_wp2
  go_ret2
  exact ⟨by rw [HV.out]; rfl, Below.refl _ _⟩

def cuFB : Value := .func (.func 26) #[] #[]
/-- a cursor at block g, of which t is left -/
abbrev CuB (w : World) (g : Nat) (t : ByteArray) : Prop := BK w g #[.string t, cuFB] 40
def UpB (w : World) (g most : Nat) (t : ByteArray) (e : Ending) (w' : World) : Prop := (∃ v, e = .returned v ∧ OB 5 w' w.heap.size v (curRun slRead most t.data.toList).1) ∧ CuB w' g ⟨(curRun slRead most t.data.toList).2.toArray⟩ ∧ w.grownBy w' (some g)
theorem loB (t : List UInt8) : (slRead t).2 ≤ t.length := (slRead_lt t).1
set_option maxRecDepth 100000 in
set_option maxHeartbeats 4000000 in
theorem nextB_any (g : Nat) (t : ByteArray) (w : World) (hg : CuB w g t) :
    Calls Try.prog 37 #[.pointer (some ⟨g, 0, none⟩)] w fun e w' => e = .returned (.tuple #[.int .u8 ((slRead t.data.toList).1).toNat, .bool (decide (0 < (slRead t.data.toList).2))]) ∧ CuB w' g ⟨(t.data.toList.drop (slRead t.data.toList).2).toArray⟩ ∧ w.grownBy w' (some g) := by
  have HL := Lib.hid (loB t.data.toList)
  have HSL := Lib.hid (size_list t)
  have HG := Lib.hid hg
  clear hg
  go_enter Try.func37, Try.ntmps37
  go_wp2
  have hS : w.cell? ⟨g, 0, none⟩ = some (.string t) ∧ w.cell? ⟨g, 1, none⟩ = some (.func (.func 26) #[] #[]) := ⟨HG.out.cell rfl, HG.out.cell rfl⟩
  refine wp_region_held_drew (S := (fun wx => wx.cell? ⟨g, 0, none⟩ = some (.string t) ∧ wx.cell? ⟨g, 1, none⟩ = some (.func (.func 26) #[] #[]))) (by kernel_rfl) hS (fun hHeld => ?_)
  refine wpAnyH_take (i := 0) (v := ?_) rfl (by kernel_rfl) (by kernel_rfl) (by kernel_rfl) (fun _ _ _ h => h) (Or.inl ⟨by rfl, ?_⟩) (by assumption) ?_
  rotate_left
  · intro wq hSw
    (try dsimp only at hSw)
    (try simp only [List.getElem_toArray, List.getElem_cons_zero])
    go_simp
    (try with_reducible rfl)
  simp only [Act.put, List.getElem_toArray, List.getElem_cons_zero, List.setIfInBounds_toArray, List.set_cons_zero, List.set_cons_succ]
  refine wpAnyH_take (i := 1) (v := ?_) rfl (by kernel_rfl) (by kernel_rfl) (by kernel_rfl) (fun _ _ _ h => h) (Or.inl ⟨by rfl, ?_⟩) (by assumption) ?_
  rotate_left
  · intro wq hSw
    (try dsimp only at hSw)
    (try simp only [List.getElem_toArray, List.getElem_cons_succ, List.getElem_cons_zero])
    go_simp
    (try with_reducible rfl)
  simp only [Act.put, List.getElem_toArray, List.getElem_cons_succ, List.getElem_cons_zero, List.setIfInBounds_toArray, List.set_cons_zero, List.set_cons_succ]
  refine wpAnyH_take (i := 2) (v := ?_) rfl (by kernel_rfl) (by kernel_rfl) (by kernel_rfl) (fun _ _ _ h => h) (Or.inl ⟨by rfl, ?_⟩) (by assumption) ?_
  rotate_left
  · intro wq hSw
    (try dsimp only at hSw)
    (try simp only [List.getElem_toArray, List.getElem_cons_succ, List.getElem_cons_zero])
    go_simp
    (try with_reducible rfl)
  simp only [Act.put, List.getElem_toArray, List.getElem_cons_succ, List.getElem_cons_zero, List.setIfInBounds_toArray, List.set_cons_zero, List.set_cons_succ]
  refine wpAnyH_take (i := 3) (v := ?_) rfl (by kernel_rfl) (by kernel_rfl) (by kernel_rfl) (fun _ _ _ h => h) (Or.inl ⟨by rfl, ?_⟩) (by assumption) ?_
  rotate_left
  · intro wq hSw
    (try dsimp only at hSw)
    (try simp only [List.getElem_toArray, List.getElem_cons_succ, List.getElem_cons_zero])
    go_simp
    (try with_reducible rfl)
  simp only [Act.put, List.getElem_toArray, List.getElem_cons_succ, List.getElem_cons_zero, List.setIfInBounds_toArray, List.set_cons_zero, List.set_cons_succ]
  refine wpAnyH_take (i := 4) (v := ?_) rfl (by kernel_rfl) (by kernel_rfl) (by kernel_rfl) (fun _ _ _ h => h) (Or.inl ⟨by rfl, ?_⟩) (by assumption) ?_
  rotate_left
  · intro wq hSw
    (try dsimp only at hSw)
    (try simp only [List.getElem_toArray, List.getElem_cons_succ, List.getElem_cons_zero])
    go_simp
    (try with_reducible rfl)
  simp only [Act.put, List.getElem_toArray, List.getElem_cons_succ, List.getElem_cons_zero, List.setIfInBounds_toArray, List.set_cons_zero, List.set_cons_succ]
  refine wpAnyH_take (i := 5) (v := ?_) rfl (by kernel_rfl) (by kernel_rfl) (by kernel_rfl) (fun _ _ _ h => h) (Or.inl ⟨by rfl, ?_⟩) (by assumption) ?_
  rotate_left
  · intro wq hSw
    (try dsimp only at hSw)
    (try simp only [List.getElem_toArray, List.getElem_cons_succ, List.getElem_cons_zero])
    go_simp
    (try with_reducible rfl)
  simp only [Act.put, List.getElem_toArray, List.getElem_cons_succ, List.getElem_cons_zero, List.setIfInBounds_toArray, List.set_cons_zero, List.set_cons_succ]
  refine wpAnyH_take (i := 6) (v := ?_) rfl (by kernel_rfl) (by kernel_rfl) (by kernel_rfl) (fun _ _ _ h => h) (Or.inl ⟨by rfl, ?_⟩) (by assumption) ?_
  rotate_left
  · intro wq hSw
    (try dsimp only at hSw)
    (try simp only [List.getElem_toArray, List.getElem_cons_succ, List.getElem_cons_zero])
    go_simp
    (try with_reducible rfl)
  simp only [Act.put, List.getElem_toArray, List.getElem_cons_succ, List.getElem_cons_zero, List.setIfInBounds_toArray, List.set_cons_zero, List.set_cons_succ]
  refine wpAnyH_take (i := 7) (v := ?_) rfl (by kernel_rfl) (by kernel_rfl) (by kernel_rfl) (fun _ _ _ h => h) (Or.inl ⟨by rfl, ?_⟩) (by assumption) ?_
  rotate_left
  · intro wq hSw
    (try dsimp only at hSw)
    (try simp only [List.getElem_toArray, List.getElem_cons_succ, List.getElem_cons_zero])
    go_simp
    (try with_reducible rfl)
  simp only [Act.put, List.getElem_toArray, List.getElem_cons_succ, List.getElem_cons_zero, List.setIfInBounds_toArray, List.set_cons_zero, List.set_cons_succ]
  refine wpAnyH_ready (rs := [8]) (by kernel_rfl) (by simp) ?_
  refine AllReadyH.cons rfl (fun K hK => ?_) AllReadyH.nil
  (try simp only [List.getElem_toArray, List.getElem_cons_succ, List.getElem_cons_zero])
  go_simp
  go_at_call 26
  refine (slipByte_any t _).mono ?_
  rintro e w1 ⟨rfl, hb⟩
  have HG1 := Lib.hid (HG.out.drew.from hb)
  have HB1 := Lib.hid (below_grown hb (some g))
  have hS := And.intro (HG1.out.cell (i := 0) rfl) (HG1.out.cell (i := 1) rfl)
  refine hK.out _ _ hS (fun hHeld => ?_)
  clear hK K
  refine wpAnyH_take (i := 9) (v := ?_) rfl (by kernel_rfl) (by kernel_rfl) (by kernel_rfl) (fun _ _ _ h => h) (Or.inl ⟨by rfl, ?_⟩) (by assumption) ?_
  rotate_left
  · intro wq hSw
    (try dsimp only at hSw)
    (try simp only [List.getElem_toArray, List.getElem_cons_succ, List.getElem_cons_zero])
    go_simp
    (try with_reducible rfl)
  simp only [Act.put, List.getElem_toArray, List.getElem_cons_succ, List.getElem_cons_zero, List.setIfInBounds_toArray, List.set_cons_zero, List.set_cons_succ]
  refine wpAnyH_take (i := 10) (v := ?_) rfl (by kernel_rfl) (by kernel_rfl) (by kernel_rfl) (fun _ _ _ h => h) (Or.inl ⟨by rfl, ?_⟩) (by assumption) ?_
  rotate_left
  · intro wq hSw
    (try dsimp only at hSw)
    (try simp only [List.getElem_toArray, List.getElem_cons_succ, List.getElem_cons_zero])
    go_simp
    (try with_reducible rfl)
  simp only [Act.put, List.getElem_toArray, List.getElem_cons_succ, List.getElem_cons_zero, List.setIfInBounds_toArray, List.set_cons_zero, List.set_cons_succ]
  refine wpAnyH_take (i := 11) (v := ?_) rfl (by kernel_rfl) (by kernel_rfl) (by kernel_rfl) (fun _ _ _ h => h) (Or.inl ⟨by rfl, ?_⟩) (by assumption) ?_
  rotate_left
  · intro wq hSw
    (try dsimp only at hSw)
    (try simp only [List.getElem_toArray, List.getElem_cons_succ, List.getElem_cons_zero])
    go_simp
    (try with_reducible rfl)
  simp only [Act.put, List.getElem_toArray, List.getElem_cons_succ, List.getElem_cons_zero, List.setIfInBounds_toArray, List.set_cons_zero, List.set_cons_succ]
  refine wpAnyH_take (i := 12) (v := ?_) rfl (by kernel_rfl) (by kernel_rfl) (by kernel_rfl) (fun _ _ _ h => h) (Or.inl ⟨by rfl, ?_⟩) (by assumption) ?_
  rotate_left
  · intro wq hSw
    (try dsimp only at hSw)
    (try simp only [List.getElem_toArray, List.getElem_cons_succ, List.getElem_cons_zero])
    go_simp
    (try with_reducible rfl)
  simp only [Act.put, List.getElem_toArray, List.getElem_cons_succ, List.getElem_cons_zero, List.setIfInBounds_toArray, List.set_cons_zero, List.set_cons_succ]
  refine wpAnyH_take (i := 13) (v := ?_) rfl (by kernel_rfl) (by kernel_rfl) (by kernel_rfl) (fun _ _ _ h => h) (Or.inl ⟨by rfl, ?_⟩) (by assumption) ?_
  rotate_left
  · intro wq hSw
    (try dsimp only at hSw)
    (try simp only [List.getElem_toArray, List.getElem_cons_succ, List.getElem_cons_zero])
    go_simp
    (try with_reducible rfl)
  simp only [Act.put, List.getElem_toArray, List.getElem_cons_succ, List.getElem_cons_zero, List.setIfInBounds_toArray, List.set_cons_zero, List.set_cons_succ]
  refine wpAnyH_done (by kernel_rfl) ?_ _
  clear hHeld
  obtain ⟨c0, c1⟩ := hS
  have f0 := HG1.out.free 0
  obtain ⟨n, hn⟩ : ∃ n, n = (slRead t.data.toList).2 := ⟨_, rfl⟩
  rw [← hn] at HL ⊢
  have hnl : n ≤ t.size := by have := HL.out; rw [HSL.out] at this; exact this
  have HN := Lib.hid hn
  clear hn
  go_wp2
  go_ret2
  refine ⟨by rw [HN.out]; rfl, ?_, gr_set (grown_trans (grown_drew (grown_self w _)) HB1.out) 0 _⟩
  rw [← HN.out, ← ext_fr t n]
  exact HG1.out.set 0 _
set_option maxRecDepth 100000 in
set_option maxHeartbeats 4000000 in
theorem upToB_any (g : Nat) (t : ByteArray) (most : Nat) (w : World) (hg : CuB w g t) (hm : most ≤ 100000) :
    Calls Try.prog 27 #[.pointer (some ⟨g, 0, none⟩), .int .i64 (most : Nat)] w (UpB w g most t) := by
  obtain ⟨i0, hi, hz0, hz1, hz2⟩ := info_parts info_u8
  have HI := Lib.hid hi
  have HZ0 := Lib.hid hz0
  have HZ1 := Lib.hid hz1
  have HZ2 := Lib.hid hz2
  clear hi hz0 hz1 hz2
  have HG := Lib.hid hg
  have HSL := Lib.hid (size_list t)
  have hgl := hg.lt
  clear hg
  go_enter Try.func27, Try.ntmps27
  go_wp2
  go_loopw [5] (fun v wr => ∃ (ys : List UInt8) (r : ByteArray), CurAt slRead most t.data.toList ys r.data.toList ∧ r.size ≤ t.size ∧ OB 5 wr w.heap.size v ys ∧ CuB wr g r ∧ w.grownBy wr (some g)) (fun v _ => most - sliceLen v)
  case atStart => exact ⟨[], t, CurAt.start _ _ _, Nat.le_refl _, OB.nil _ _ _, HG.out, grown_self w _⟩
  case round =>
    obtain ⟨ys, r, hcur, hr, hown, hcu, hgr⟩ := hrel
    have HC := Lib.hid hcur
    have HO := Lib.hid hown
    have HCU := Lib.hid hcu
    have HGR := Lib.hid hgr
    obtain ⟨va, vc, rfl, hvc⟩ := hown.shape
    have hyl : ys.length ≤ most := hcur.1
    clear hown hcu hgr hcur
    by_cases hlt : ys.length < most
    · have hlti : ((ys.length : Nat) : Int) < ((most : Nat) : Int) := by omega
      go_wp2_with fail
      refine (nextB_any g r _ HCU.out).mono ?_
      rintro e w2 ⟨rfl, hcu2, hgr2⟩
      have HCU2 := Lib.hid hcu2
      have HO2 := Lib.hid (HO.out.keptg hgr2 hgl)
      have HGR2 := Lib.hid (grown_trans HGR.out hgr2)
      clear hcu2 hgr2
      by_cases h0 : (slRead r.data.toList).2 = 0
      · rw [h0] at HCU2 ⊢
        have HD := Lib.hid (HC.out.done h0)
        go_wp2
        go_ret
        refine ⟨⟨_, rfl, ?_⟩, ?_, HGR2.out⟩
        · rw [HD.out]; exact HO2.out
        · rw [HD.out]; exact HCU2.out
      · have hpos : decide (0 < (slRead r.data.toList).2) = true := decide_eq_true (by omega)
        rw [hpos]
        have HST := Lib.hid (HC.out.step hlt h0)
        have HRL := Lib.hid (size_list r)
        clear hpos h0
        generalize (slRead r.data.toList).1 = x at *
        generalize (slRead r.data.toList).2 = n at *
        go_wp2_with (at_builtin; refine wpList_append_OB _ rfl _ _ 22 rfl w.heap.size 5 i0 Try.underlying22 HI.out HZ0.out HZ1.out HZ2.out _ _ rfl (HO2.out.alloc _) ⟨w2.heap.size, 0, none⟩ 1 1 [x] rfl rfl (one_new w2 _ _ _ rfl) (by simp; omega) (by have := HGR2.out.size; simp; omega) ?_; intro v3 w3 hown3 hg3)
        go_roundw
        case rel =>
          have hrow : ∀ j, (Value.slice va ys.length vc).ownBlock = some j → w.heap.size ≤ j := fun j hj => (HO2.out.lt j hj).1
          have hsz := HGR2.out.size
          refine ⟨ys ++ [x], ⟨(r.data.toList.drop n).toArray⟩, HST.out, ?_, hown3, ?_, ?_⟩
          · rw [← size_list, List.length_drop, HRL.out]; omega
          · exact (HCU2.out.alloc _).grown hg3 (fun e => by have := hrow g e; omega)
          · exact grown_own (grown_alloc HGR2.out _) hg3 hrow
        case measure =>
          obtain ⟨a3, c3, e3, _⟩ := hown3.shape
          simp [sliceLen, e3]; omega
    · have HF := Lib.hid (HC.out.full (by omega))
      go_wp2
      go_ret
      refine ⟨⟨_, rfl, ?_⟩, ?_, HGR.out⟩
      · rw [HF.out]; exact HO.out
      · rw [HF.out, Lib.mk_data]; exact HCU.out
end Go.Proofs.Ythbijeicdjpbeaa
