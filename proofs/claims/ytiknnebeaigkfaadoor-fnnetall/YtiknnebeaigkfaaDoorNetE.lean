/- Nets in the program: a cursor over texts, all that stand one behind the other. -/
import Derived.Test.YtiknnebeaigkfaaDoorNetD
import Derived.Test.YtiknnebeaigkfaaDoorBk
import Derived.Test.YtiknnebeaigkfaaDoorKitDraw
import Derived.Test.YtiknnebeaigkfaaDoorDrawD
import Derived.Laws.EntriesVeiled
import Derived.RegionTactic
import Derived.Deep.RegionHeld3
namespace Go.Proofs.YtiknnebeaigkfaaDoor
open Go.ChangeShapes Go.WideShapes Go.ChangeAt Go.RowKit
theorem gn_set {a w : World} {g : Nat} (h : a.grownBy w (some g)) (i : Nat) (v : Value) : a.grownBy (w.setCell ⟨g, i, none⟩ v) (some g) :=
  ⟨h.os, h.tape, h.output, by simpa using h.size, fun k hk hne => (Below.heap_setCell w ⟨g, i, none⟩ v k (fun e => hne (by rw [e]))).trans (h.block k hk hne)⟩
theorem gn_self (w : World) (row : Option Nat) : w.grownBy w row := ⟨rfl, rfl, rfl, Nat.le_refl _, fun _ _ _ => rfl⟩
theorem gn_new {w w' : World} {g : Nat} {o : Obj} (h : (w.alloc o).grownBy w' (some g)) (hg : w.heap.size ≤ g) : Below w.heap.size w w' :=
  ((Below.refl _ w).alloc (Nat.le_refl _) o).trans (grown_below h (by simp) hg)
theorem OS.keptn {w w' : World} {base g : Nat} {v : Value} {ss : List ByteArray} (h : OS w base v ss) (hg : w.grownBy w' (some g)) (hb : g < base) : OS w' base v ss := by
  refine h.kept hg ?_
  cases e : v.ownBlock with
  | none => exact .inl rfl
  | some k =>
    right
    intro e2
    have := (h.low k e).1
    injection e2 with e2
    omega
def sliceLenN : Value → Nat
  | .slice _ n _ => n
  | _ => 0
def cuFN : Value := .func (.func 12) #[] #[]
/-- a cursor at block g, of which t is left -/
abbrev CuN (w : World) (g : Nat) (t : ByteArray) : Prop := BK w g #[.string t, cuFN] 50
def UpN (w : World) (g most : Nat) (t : ByteArray) (e : Ending) (w' : World) : Prop := (∃ v, e = .returned v ∧ OS w' w.heap.size v ((curRun netGetL most t.data.toList).1.map strN)) ∧ CuN w' g ⟨(curRun netGetL most t.data.toList).2.toArray⟩ ∧ w.grownBy w' (some g)
set_option maxRecDepth 100000 in
set_option maxHeartbeats 4000000 in
theorem nextN_any (g : Nat) (t : ByteArray) (w : World) (hg : CuN w g t) (hw : NumIs w) (ht : t.size ≤ 1048576) :
    Calls Tryd.prog 44 #[.pointer (some ⟨g, 0, none⟩)] w fun e w' => e = .returned (.tuple #[.string (strN (netGetL t.data.toList).1), .bool (decide (0 < (netGetL t.data.toList).2))]) ∧ CuN w' g ⟨(t.data.toList.drop (netGetL t.data.toList).2).toArray⟩ ∧ w.grownBy w' (some g) := by
  have HL := Lib.hid (netGet_le t.data.toList)
  have HSL := Lib.hid (size_list t)
  have HG := Lib.hid hg
  have HW := Lib.hid hw
  clear hg hw
  go_enter Tryd.func44, Tryd.ntmps44
  go_wp2
  have hS : w.cell? ⟨g, 0, none⟩ = some (.string t) ∧ w.cell? ⟨g, 1, none⟩ = some (.func (.func 12) #[] #[]) := ⟨HG.out.cell rfl, HG.out.cell rfl⟩
  refine wp_region_held_drew (S := (fun wx => wx.cell? ⟨g, 0, none⟩ = some (.string t) ∧ wx.cell? ⟨g, 1, none⟩ = some (.func (.func 12) #[] #[]))) (by kernel_rfl) hS (fun hHeld => ?_)
  refine wpAnyH_take (i := 0) (v := ?_) rfl (by kernel_rfl) (by kernel_rfl) (by kernel_rfl) (fun _ _ _ h => h) (Or.inl ⟨by rfl, ?_⟩) (by assumption) ?_
  rotate_left
  · intro wq hSw
    (try dsimp only at hSw)
    (try simp only [List.getElem_toArray, List.getElem_cons_zero])
    go_simp
    (try with_reducible rfl)
  simp only [Act.put, List.getElem_toArray, List.getElem_cons_zero, List.setIfInBounds_toArray, List.set_cons_zero, List.set_cons_succ]
  refine wpAnyH_take (i := 1) (v := ?_) rfl (by kernel_rfl) (by kernel_rfl) (by kernel_rfl) (fun _ _ _ h => h) (Or.inl ⟨by rfl, ?_⟩) (by assumption) ?_
  rotate_left
  · intro wq hSw
    (try dsimp only at hSw)
    (try simp only [List.getElem_toArray, List.getElem_cons_succ, List.getElem_cons_zero])
    go_simp
    (try with_reducible rfl)
  simp only [Act.put, List.getElem_toArray, List.getElem_cons_succ, List.getElem_cons_zero, List.setIfInBounds_toArray, List.set_cons_zero, List.set_cons_succ]
  refine wpAnyH_take (i := 2) (v := ?_) rfl (by kernel_rfl) (by kernel_rfl) (by kernel_rfl) (fun _ _ _ h => h) (Or.inl ⟨by rfl, ?_⟩) (by assumption) ?_
  rotate_left
  · intro wq hSw
    (try dsimp only at hSw)
    (try simp only [List.getElem_toArray, List.getElem_cons_succ, List.getElem_cons_zero])
    go_simp
    (try with_reducible rfl)
  simp only [Act.put, List.getElem_toArray, List.getElem_cons_succ, List.getElem_cons_zero, List.setIfInBounds_toArray, List.set_cons_zero, List.set_cons_succ]
  refine wpAnyH_take (i := 3) (v := ?_) rfl (by kernel_rfl) (by kernel_rfl) (by kernel_rfl) (fun _ _ _ h => h) (Or.inl ⟨by rfl, ?_⟩) (by assumption) ?_
  rotate_left
  · intro wq hSw
    (try dsimp only at hSw)
    (try simp only [List.getElem_toArray, List.getElem_cons_succ, List.getElem_cons_zero])
    go_simp
    (try with_reducible rfl)
  simp only [Act.put, List.getElem_toArray, List.getElem_cons_succ, List.getElem_cons_zero, List.setIfInBounds_toArray, List.set_cons_zero, List.set_cons_succ]
  refine wpAnyH_take (i := 4) (v := ?_) rfl (by kernel_rfl) (by kernel_rfl) (by kernel_rfl) (fun _ _ _ h => h) (Or.inl ⟨by rfl, ?_⟩) (by assumption) ?_
  rotate_left
  · intro wq hSw
    (try dsimp only at hSw)
    (try simp only [List.getElem_toArray, List.getElem_cons_succ, List.getElem_cons_zero])
    go_simp
    (try with_reducible rfl)
  simp only [Act.put, List.getElem_toArray, List.getElem_cons_succ, List.getElem_cons_zero, List.setIfInBounds_toArray, List.set_cons_zero, List.set_cons_succ]
  refine wpAnyH_take (i := 5) (v := ?_) rfl (by kernel_rfl) (by kernel_rfl) (by kernel_rfl) (fun _ _ _ h => h) (Or.inl ⟨by rfl, ?_⟩) (by assumption) ?_
  rotate_left
  · intro wq hSw
    (try dsimp only at hSw)
    (try simp only [List.getElem_toArray, List.getElem_cons_succ, List.getElem_cons_zero])
    go_simp
    (try with_reducible rfl)
  simp only [Act.put, List.getElem_toArray, List.getElem_cons_succ, List.getElem_cons_zero, List.setIfInBounds_toArray, List.set_cons_zero, List.set_cons_succ]
  refine wpAnyH_take (i := 6) (v := ?_) rfl (by kernel_rfl) (by kernel_rfl) (by kernel_rfl) (fun _ _ _ h => h) (Or.inl ⟨by rfl, ?_⟩) (by assumption) ?_
  rotate_left
  · intro wq hSw
    (try dsimp only at hSw)
    (try simp only [List.getElem_toArray, List.getElem_cons_succ, List.getElem_cons_zero])
    go_simp
    (try with_reducible rfl)
  simp only [Act.put, List.getElem_toArray, List.getElem_cons_succ, List.getElem_cons_zero, List.setIfInBounds_toArray, List.set_cons_zero, List.set_cons_succ]
  refine wpAnyH_take (i := 7) (v := ?_) rfl (by kernel_rfl) (by kernel_rfl) (by kernel_rfl) (fun _ _ _ h => h) (Or.inl ⟨by rfl, ?_⟩) (by assumption) ?_
  rotate_left
  · intro wq hSw
    (try dsimp only at hSw)
    (try simp only [List.getElem_toArray, List.getElem_cons_succ, List.getElem_cons_zero])
    go_simp
    (try with_reducible rfl)
  simp only [Act.put, List.getElem_toArray, List.getElem_cons_succ, List.getElem_cons_zero, List.setIfInBounds_toArray, List.set_cons_zero, List.set_cons_succ]
  refine wpAnyH_ready (rs := [8]) (by kernel_rfl) (by simp) ?_
  refine AllReadyH.cons rfl (fun K hK => ?_) AllReadyH.nil
  (try simp only [List.getElem_toArray, List.getElem_cons_succ, List.getElem_cons_zero])
  go_simp
  go_at_call 12
  refine (implNetGet_any t _ HW.out.drew ht).mono ?_
  rintro e w1 ⟨rfl, hb⟩
  have HG1 := Lib.hid (HG.out.drew.from hb)
  have HB1 := Lib.hid (below_grown hb (some g))
  have hS := And.intro (HG1.out.cell (i := 0) rfl) (HG1.out.cell (i := 1) rfl)
  refine hK.out _ _ hS (fun hHeld => ?_)
  clear hK K
  refine wpAnyH_take (i := 9) (v := ?_) rfl (by kernel_rfl) (by kernel_rfl) (by kernel_rfl) (fun _ _ _ h => h) (Or.inl ⟨by rfl, ?_⟩) (by assumption) ?_
  rotate_left
  · intro wq hSw
    (try dsimp only at hSw)
    (try simp only [List.getElem_toArray, List.getElem_cons_succ, List.getElem_cons_zero])
    go_simp
    (try with_reducible rfl)
  simp only [Act.put, List.getElem_toArray, List.getElem_cons_succ, List.getElem_cons_zero, List.setIfInBounds_toArray, List.set_cons_zero, List.set_cons_succ]
  refine wpAnyH_take (i := 10) (v := ?_) rfl (by kernel_rfl) (by kernel_rfl) (by kernel_rfl) (fun _ _ _ h => h) (Or.inl ⟨by rfl, ?_⟩) (by assumption) ?_
  rotate_left
  · intro wq hSw
    (try dsimp only at hSw)
    (try simp only [List.getElem_toArray, List.getElem_cons_succ, List.getElem_cons_zero])
    go_simp
    (try with_reducible rfl)
  simp only [Act.put, List.getElem_toArray, List.getElem_cons_succ, List.getElem_cons_zero, List.setIfInBounds_toArray, List.set_cons_zero, List.set_cons_succ]
  refine wpAnyH_take (i := 11) (v := ?_) rfl (by kernel_rfl) (by kernel_rfl) (by kernel_rfl) (fun _ _ _ h => h) (Or.inl ⟨by rfl, ?_⟩) (by assumption) ?_
  rotate_left
  · intro wq hSw
    (try dsimp only at hSw)
    (try simp only [List.getElem_toArray, List.getElem_cons_succ, List.getElem_cons_zero])
    go_simp
    (try with_reducible rfl)
  simp only [Act.put, List.getElem_toArray, List.getElem_cons_succ, List.getElem_cons_zero, List.setIfInBounds_toArray, List.set_cons_zero, List.set_cons_succ]
  refine wpAnyH_take (i := 12) (v := ?_) rfl (by kernel_rfl) (by kernel_rfl) (by kernel_rfl) (fun _ _ _ h => h) (Or.inl ⟨by rfl, ?_⟩) (by assumption) ?_
  rotate_left
  · intro wq hSw
    (try dsimp only at hSw)
    (try simp only [List.getElem_toArray, List.getElem_cons_succ, List.getElem_cons_zero])
    go_simp
    (try with_reducible rfl)
  simp only [Act.put, List.getElem_toArray, List.getElem_cons_succ, List.getElem_cons_zero, List.setIfInBounds_toArray, List.set_cons_zero, List.set_cons_succ]
  refine wpAnyH_take (i := 13) (v := ?_) rfl (by kernel_rfl) (by kernel_rfl) (by kernel_rfl) (fun _ _ _ h => h) (Or.inl ⟨by rfl, ?_⟩) (by assumption) ?_
  rotate_left
  · intro wq hSw
    (try dsimp only at hSw)
    (try simp only [List.getElem_toArray, List.getElem_cons_succ, List.getElem_cons_zero])
    go_simp
    (try with_reducible rfl)
  simp only [Act.put, List.getElem_toArray, List.getElem_cons_succ, List.getElem_cons_zero, List.setIfInBounds_toArray, List.set_cons_zero, List.set_cons_succ]
  refine wpAnyH_done (by kernel_rfl) ?_ _
  clear hHeld
  obtain ⟨c0, c1⟩ := hS
  have f0 := HG1.out.free 0
  obtain ⟨n, hn⟩ : ∃ n, n = (netGetL t.data.toList).2 := ⟨_, rfl⟩
  rw [← hn] at HL ⊢
  have hnl : n ≤ t.size := by have := HL.out; rw [HSL.out] at this; exact this
  have HN := Lib.hid hn
  clear hn
  go_wp2
  go_ret2
  refine ⟨by rw [HN.out]; rfl, ?_, gn_set (grown_trans (grown_drew (gn_self w _)) HB1.out) 0 _⟩
  rw [← HN.out, ← nx_from t n]
  exact HG1.out.set 0 _
set_option maxRecDepth 100000 in
set_option maxHeartbeats 4000000 in
theorem upToN_any (g : Nat) (t : ByteArray) (most : Nat) (w : World) (hg : CuN w g t) (hw : NumIs w) (h4 : 4 ≤ g) (ht : t.size ≤ 1048576) (hm : most ≤ 100000) :
    Calls Tryd.prog 36 #[.pointer (some ⟨g, 0, none⟩), .int .i64 (most : Nat)] w (UpN w g most t) := by
  obtain ⟨i0, hi, hz0, hz1, hz2⟩ := info_parts info_str
  have HI := Lib.hid hi
  have HZ0 := Lib.hid hz0
  have HZ1 := Lib.hid hz1
  have HZ2 := Lib.hid hz2
  clear hi hz0 hz1 hz2
  have HG := Lib.hid hg
  have HW := Lib.hid hw
  have HSL := Lib.hid (size_list t)
  have hgl := hg.lt
  clear hg hw
  go_enter Tryd.func36, Tryd.ntmps36
  go_wp2
  go_loopw [5] (fun v wr => ∃ (ys : List (List UInt8)) (r : ByteArray), CurAt netGetL most t.data.toList ys r.data.toList ∧ r.size ≤ t.size ∧ OS wr w.heap.size v (ys.map strN) ∧ CuN wr g r ∧ w.grownBy wr (some g)) (fun v _ => most - sliceLenN v)
  case atStart => exact ⟨[], t, CurAt.start _ _ _, Nat.le_refl _, OS_nil _ _, HG.out, gn_self w _⟩
  case round =>
    obtain ⟨ys, r, hcur, hr, hown, hcu, hgr⟩ := hrel
    have HC := Lib.hid hcur
    have HO := Lib.hid hown
    have HCU := Lib.hid hcu
    have HGR := Lib.hid hgr
    obtain ⟨va, vc, rfl⟩ := hown.reads.shape
    have hyl : ys.length ≤ most := hcur.1
    clear hown hcu hgr hcur
    rw [List.length_map] at HO ⊢
    by_cases hlt : ys.length < most
    · have hlti : ((ys.length : Nat) : Int) < ((most : Nat) : Int) := by omega
      go_wp2_with fail
      refine (nextN_any g r _ HCU.out (HW.out.grown h4 HGR.out) (by omega)).mono ?_
      rintro e w2 ⟨rfl, hcu2, hgr2⟩
      have HCU2 := Lib.hid hcu2
      have HO2 := Lib.hid (HO.out.keptn hgr2 hgl)
      have HGR2 := Lib.hid (grown_trans HGR.out hgr2)
      clear hcu2 hgr2
      by_cases h0 : (netGetL r.data.toList).2 = 0
      · rw [h0] at HCU2 ⊢
        have HD := Lib.hid (HC.out.done h0)
        go_wp2
        go_ret
        refine ⟨⟨_, rfl, ?_⟩, ?_, HGR2.out⟩
        · rw [HD.out]; exact HO2.out
        · rw [HD.out]; exact HCU2.out
      · have hpos : decide (0 < (netGetL r.data.toList).2) = true := decide_eq_true (by omega)
        rw [hpos]
        have HST := Lib.hid (HC.out.step hlt h0)
        have HRL := Lib.hid (size_list r)
        clear hpos h0
        generalize (netGetL r.data.toList).1 = x at *
        generalize (netGetL r.data.toList).2 = n at *
        go_wp2_with (at_builtin; refine wpList_append_os _ rfl _ _ 29 rfl w.heap.size i0 Tryd.underlying29 HI.out HZ0.out HZ1.out HZ2.out _ (ys.map strN) rfl (HO2.out.alloc _) _ _ [strN x] rfl (RS_one w2 (strN x)) (by simp; omega) (by have := HGR2.out.size; simp; omega) ?_; intro v3 w3 hown3 hg3 hat3)
        go_roundw
        case rel =>
          have hrow : ∀ j, (Value.slice va ys.length vc).ownBlock = some j → w.heap.size ≤ j := fun j hj => (HO2.out.low j hj).1
          have hsz := HGR2.out.size
          refine ⟨ys ++ [x], ⟨(r.data.toList.drop n).toArray⟩, HST.out, ?_, by rw [List.map_append]; exact hown3, ?_, ?_⟩
          · rw [← size_list, List.length_drop, HRL.out]; omega
          · exact (HCU2.out.alloc _).grown hg3 (fun e => by have := hrow g e; omega)
          · exact grown_own (grown_alloc HGR2.out _) hg3 hrow
        case measure =>
          obtain ⟨a3, c3, e3⟩ := hown3.reads.shape
          simp [sliceLenN, e3]; omega
    · have HF := Lib.hid (HC.out.full (by omega))
      go_wp2
      go_ret
      refine ⟨⟨_, rfl, ?_⟩, ?_, HGR.out⟩
      · rw [HF.out]; exact HO.out
      · rw [HF.out, Lib.mk_data]; exact HCU.out
set_option maxRecDepth 100000 in
set_option maxHeartbeats 4000000 in
theorem implNetAll_any (s : ByteArray) (w : World) (hw : NumIs w) (hs : s.size ≤ 1048576) :
    Calls Tryd.prog 16 #[.string s] w (NAllPost w s) := by
  have h4 := hw.size
  have HW := Lib.hid hw
  clear hw
  go_enter Tryd.func16, Tryd.ntmps16
  go_wp2_with fail
  refine (upToN_any w.heap.size s 12 _ (BK.new w _ _) (HW.out.below ((Below.refl _ _).alloc (Nat.le_refl _) _)) h4 hs (by omega)).mono ?_
  rintro e w2 ⟨⟨v, rfl, hown⟩, hcu, hgr⟩
  have HB := Lib.hid (gn_new hgr (Nat.le_refl _))
  have HO := Lib.hid (hown.mono (base' := w.heap.size) (by simp))
  have c0 := hcu.cell (i := 0) rfl
  obtain ⟨r, hr⟩ : ∃ r : ByteArray, r = ⟨(curRun netGetL 12 s.data.toList).2.toArray⟩ := ⟨_, rfl⟩
  rw [← hr] at c0
  have HRE := Lib.hid (show netAllL s.data.toList = if r.size = 0 then ((curRun netGetL 12 s.data.toList).1, true) else ([], false) by
    unfold netAllL
    by_cases h : r.size = 0
    · rw [if_pos h, if_pos]
      rw [hr, size_of_list] at h
      exact List.eq_nil_of_length_eq_zero h
    · rw [if_neg h, if_neg]
      rintro e
      rw [hr, e] at h
      exact h rfl)
  clear hown hcu hgr hr
  by_cases h0 : r.size = 0
  · have HE := Lib.hid (HRE.out.trans (if_pos h0))
    have hem : r.toList.isEmpty = true := by rw [nb_list]; exact decide_eq_true h0
    clear h0
    go_wp2
    go_ret2
    refine ⟨⟨_, by rw [HE.out]; rfl, ?_⟩, HB.out⟩
    rw [HE.out]
    exact HO.out
  · have HE := Lib.hid (HRE.out.trans (if_neg h0))
    have hem : r.toList.isEmpty = false := by rw [nb_list]; exact decide_eq_false h0
    clear h0
    go_wp2
    go_ret2
    refine ⟨⟨_, by rw [HE.out]; rfl, ?_⟩, HB.out⟩
    rw [HE.out]
    exact OS_nil _ _
end Go.Proofs.YtiknnebeaigkfaaDoor
