/- MuxWeave, in the program and in the model. -/
import Derived.Test.YtplaagkcamjemaaMxV
import Derived.Test.YtplaagkcamjemaaMxR
namespace Go.Proofs.Ytplaagkcamjemaa
open Go.ChangeShapes Go.WideShapes Go.ChangeAt Go.RowKit
theorem weave_a {α : Type} (x : α) (a b : List α) (ts : List Bool) (i : Nat) (h : b = [] ∨ ts.getD i false = true) : weaveL (x :: a) b ts i = x :: weaveL a b ts (i + 1) := by
  cases b with
  | nil =>
    rw [weaveL]
    cases a with
    | nil => rw [weaveL]
    | cons y a => rw [weaveL]; simp
    simp
  | cons y b =>
    rcases h with h | h
    · cases h
    · rw [weaveL, if_pos h]
theorem weave_b {α : Type} (y : α) (a b : List α) (ts : List Bool) (i : Nat) (h : a = [] ∨ ¬ ts.getD i false = true) : weaveL a (y :: b) ts i = y :: weaveL a b ts (i + 1) := by
  cases a with
  | nil => rw [weaveL, weaveL]
  | cons x a =>
    rcases h with h | h
    · cases h
    · rw [weaveL, if_neg h]
def WvPost (w : World) (ss : List ByteArray) (e : Ending) (w' : World) : Prop := (∃ v, e = .returned v ∧ OS w' w.heap.size v ss) ∧ Below w.heap.size w w'
set_option maxRecDepth 100000 in
set_option maxHeartbeats 8000000 in
theorem implWeave_any (va vb vt : Value) (A Bl : List ByteArray) (ts : List Bool) (w : World) (B : Nat) (ha : RC w B va A) (hb : RC w B vb Bl) (ht : RO w B vt ts) (hB : B ≤ w.heap.size) (hla : A.length ≤ 1048576) (hlb : Bl.length ≤ 1048576) (hlt : ts.length ≤ 1048576)
    (hsa : ∀ q ∈ A ++ Bl, q.size ≤ 1048576) : Calls Try.prog 26 #[va, vb, vt] w (WvPost w (weaveL A Bl ts 0)) := by
  obtain ⟨i0, hi, hz0, hz1, hz2⟩ := info_parts info_str
  have HI := Lib.hid hi
  have HZ0 := Lib.hid hz0
  have HZ1 := Lib.hid hz1
  have HZ2 := Lib.hid hz2
  obtain ⟨ta, tc, rfl⟩ := ht.shape
  have HRA := Lib.hid ha
  have HRB := Lib.hid hb
  have HRT := Lib.hid ht
  have HSZ := Lib.hid hsa
  have hsha := ha.shape
  have hshb := hb.shape
  obtain ⟨aa, ca, rfl, hca⟩ := hsha
  obtain ⟨ab, cb, rfl, hcb⟩ := hshb
  clear hi hz0 hz1 hz2 ha hb ht hsa
  go_enter Try.func26, Try.ntmps26
  go_wp2
  go_loopw [0, 1, 7, 15] (fun xa xb out st wr => ∃ (A' Bl' pre : List ByteArray) (step : Nat), st = .int .i64 step ∧ A'.length + Bl'.length + step = A.length + Bl.length ∧ pre.length = step ∧ weaveL A Bl ts 0 = pre ++ weaveL A' Bl' ts step ∧ RC wr B xa A' ∧ RC wr B xb Bl' ∧ A' ⊆ A ++ Bl ∧ Bl' ⊆ A ++ Bl ∧ OS wr w.heap.size out pre ∧ Below w.heap.size w wr) (fun _ _ _ st _ => A.length + Bl.length - (intOf st).toNat)
  case atStart => exact ⟨A, Bl, [], 0, rfl, by simp, rfl, rfl, HRA.out, HRB.out, fun q hq => by simp [hq], fun q hq => by simp [hq], OS_nil _ _, Below.refl _ _⟩
  case round =>
    obtain ⟨A', Bl', pre, step, rfl, hsum, hpl, hw, hra, hrb, hsua, hsub, hown, hbel⟩ := hrel
    have HW := Lib.hid hw
    have HRa := Lib.hid hra
    have HRb := Lib.hid hrb
    have HSUBa := Lib.hid hsua
    have HSUBb := Lib.hid hsub
    have HO := Lib.hid hown
    have HB := Lib.hid hbel
    have HPL := Lib.hid hpl
    have HT2 := Lib.hid (HRT.out.below (hbel.mono hB))
    obtain ⟨xaa, ca, rfl, hca⟩ := hra.shape
    obtain ⟨xab, cb, rfl, hcb⟩ := hrb.shape
    clear hw hra hrb hsua hsub hown hbel hpl
    by_cases hmore : A'.length + Bl'.length = 0
    · have eA : A' = [] := List.eq_nil_of_length_eq_zero (by omega)
      have eB : Bl' = [] := List.eq_nil_of_length_eq_zero (by omega)
      subst eA eB
      have HE := Lib.hid (show weaveL A Bl ts 0 = pre by rw [HW.out, weaveL]; simp)
      have hst : (step : Int) = (A.length : Int) + (Bl.length : Int) := by simp at hsum; omega
      have hst2 : step = A.length + Bl.length := by simp at hsum; omega
      clear hsum
      go_wp2
      go_ret
      exact ⟨⟨_, rfl, by rw [HE.out]; exact HO.out⟩, HB.out⟩
    by_cases hts : step < ts.length
    case neg =>
      have HTN := Lib.hid (show ts.getD step false = false by rw [List.getD, List.getElem?_eq_none (by omega)]; rfl)
      cases A' with
      | nil =>
        cases Bl' with
        | nil => simp at hmore
        | cons h0b Bl' =>
          have HN := Lib.hid (weave_b h0b [] Bl' ts step (.inl rfl))
          obtain ⟨x, hx, hxB, cx⟩ := RC.head HRb.out
          subst hx
          have HT := Lib.hid HRb.out.tail
          obtain ⟨tv, htv⟩ : ∃ tv, tv = sliced (some x) 1 (h0b :: Bl').length cb 1 := ⟨_, rfl⟩
          have hsl : ∀ u : World, (Instr.slice 25 (.slice (some x) (h0b :: Bl').length cb) (some (.int .i64 1)) none none).run Try.prog u = .ok tv u := fun u => by rw [htv]; exact slice_one u x (h0b :: Bl').length cb (by simp)
          rw [← htv] at HT
          clear htv
          have hms : h0b.size ≤ 1048576 := HSZ.out h0b (HSUBb.out (List.mem_cons_self ..))
          have hxw : x.block < wr.heap.size := by have := HB.out.size; omega
          simp only [List.length_cons] at *
          go_wp2
          have hS := cx
          refine wp_region_held_drew (S := (fun wx => wx.cell? x = some (.string h0b))) (by kernel_rfl) hS (fun hHeld => ?_)
          refine wpAnyH_take (i := 0) (v := ?_) rfl (by kernel_rfl) (by kernel_rfl) (by kernel_rfl) (fun _ _ _ h => h) (Or.inl ⟨by rfl, ?_⟩) (by assumption) ?_
          rotate_left
          · intro wq hSw
            (try dsimp only at hSw)
            (try simp only [List.getElem_toArray, List.getElem_cons_zero])
            go_simp
            (try with_reducible rfl)
          simp only [Act.put, List.getElem_toArray, List.getElem_cons_zero, List.setIfInBounds_toArray, List.set_cons_zero, List.set_cons_succ]
          refine wpAnyH_take (i := 1) (v := ?_) rfl (by kernel_rfl) (by kernel_rfl) (by kernel_rfl) (fun _ _ _ h => h) (Or.inl ⟨by rfl, ?_⟩) (by assumption) ?_
          rotate_left
          · intro wq hSw
            (try dsimp only at hSw)
            (try simp only [List.getElem_toArray, List.getElem_cons_succ, List.getElem_cons_zero])
            go_simp
            (try with_reducible rfl)
          simp only [Act.put, List.getElem_toArray, List.getElem_cons_succ, List.getElem_cons_zero, List.setIfInBounds_toArray, List.set_cons_zero, List.set_cons_succ]
          refine wpAnyH_take (i := 2) (v := ?_) rfl (by kernel_rfl) (by kernel_rfl) (by kernel_rfl) (fun _ _ _ h => h) (Or.inl ⟨by rfl, ?_⟩) (by assumption) ?_
          rotate_left
          · intro wq hSw
            (try dsimp only at hSw)
            (try simp only [List.getElem_toArray, List.getElem_cons_succ, List.getElem_cons_zero])
            go_simp
            (try with_reducible rfl)
          simp only [Act.put, List.getElem_toArray, List.getElem_cons_succ, List.getElem_cons_zero, List.setIfInBounds_toArray, List.set_cons_zero, List.set_cons_succ]
          refine wpAnyH_take (i := 3) (v := ?_) rfl (by kernel_rfl) (by kernel_rfl) (by kernel_rfl) (fun _ _ _ h => h) (Or.inl ⟨by rfl, ?_⟩) (by assumption) ?_
          rotate_left
          · intro wq hSw
            (try dsimp only at hSw)
            (try simp only [List.getElem_toArray, List.getElem_cons_succ, List.getElem_cons_zero])
            go_simp
            (try with_reducible rfl)
          simp only [Act.put, List.getElem_toArray, List.getElem_cons_succ, List.getElem_cons_zero, List.setIfInBounds_toArray, List.set_cons_zero, List.set_cons_succ]
          refine wpAnyH_take (i := 7) (v := ?_) rfl (by kernel_rfl) (by kernel_rfl) (by kernel_rfl) (fun _ _ _ h => h) (Or.inl ⟨by rfl, ?_⟩) (by assumption) ?_
          rotate_left
          · intro wq hSw
            (try dsimp only at hSw)
            (try simp only [List.getElem_toArray, List.getElem_cons_succ, List.getElem_cons_zero])
            go_simp
            (try with_reducible rfl)
          simp only [Act.put, List.getElem_toArray, List.getElem_cons_succ, List.getElem_cons_zero, List.setIfInBounds_toArray, List.set_cons_zero, List.set_cons_succ]
          refine wpAnyH_take (i := 8) (v := ?_) rfl (by kernel_rfl) (by kernel_rfl) (by kernel_rfl) (fun _ _ _ h => h) (Or.inl ⟨by rfl, ?_⟩) (by assumption) ?_
          rotate_left
          · intro wq hSw
            (try dsimp only at hSw)
            (try simp only [List.getElem_toArray, List.getElem_cons_succ, List.getElem_cons_zero])
            go_simp
            (try with_reducible rfl)
          simp only [Act.put, List.getElem_toArray, List.getElem_cons_succ, List.getElem_cons_zero, List.setIfInBounds_toArray, List.set_cons_zero, List.set_cons_succ]
          refine wpAnyH_ready (rs := [4]) (by kernel_rfl) (by simp) ?_
          refine AllReadyH.cons rfl (fun K hK => ?_) AllReadyH.nil
          (try simp only [List.getElem_toArray, List.getElem_cons_succ, List.getElem_cons_zero])
          go_simp
          go_at_call 56
          refine (clone_any h0b _ (by omega)).mono ?_
          rintro e w2 ⟨rfl, hb2⟩
          have HB2 := Lib.hid (HB.out.drew.trans (hb2.mono HB.out.size))
          have HO2 := Lib.hid (HO.out.drew.below hb2)
          have hS := (hb2.cell (p := x) hxw).trans cx
          have hxw2 : x.block < w2.heap.size := (Nat.lt_of_lt_of_le hxw hb2.size)
          refine hK.out _ _ hS (fun hHeld => ?_)
          clear hK K
          refine wpAnyH_ready (rs := [5]) (by kernel_rfl) (by simp) ?_
          refine AllReadyH.cons rfl (fun K hK => ?_) AllReadyH.nil
          (try simp only [List.getElem_toArray, List.getElem_cons_succ, List.getElem_cons_zero])
          skip
          go_simp
          have hS := (((Below.refl _ w2).alloc (Nat.le_refl _) (.cells #[.string h0b] 9)).cell (p := x) hxw2).trans hS
          refine hK.out _ _ hS (fun hHeld => ?_)
          clear hK K
          refine wpAnyH_ready (rs := [6]) (by kernel_rfl) (by simp) ?_
          refine AllReadyH.cons rfl (fun K hK => ?_) AllReadyH.nil
          (try simp only [List.getElem_toArray, List.getElem_cons_succ, List.getElem_cons_zero])
          rw [if_pos (by rfl)]
          refine opwp_append_os2 _ _ 25 rfl w.heap.size i0 Try.underlying25 HI.out HZ0.out HZ1.out HZ2.out _ _ rfl (HO2.out.alloc _) _ _ [h0b] rfl (RS_one w2 h0b) (by have := HPL.out; simp only [List.length_singleton]; omega) (by have := HB2.out.size; simp; omega) ?_
          intro v3 w3 hown3 hg3
          have hS := hg3.cell hS (fun e => by have := (HO2.out.low x.block e.symm).1; omega)
          refine hK.out _ _ hS (fun hHeld => ?_)
          clear hK K
          simp only [Act.put, List.setIfInBounds_toArray, List.set_cons_zero, List.set_cons_succ]
          refine wpAnyH_take (i := 9) (v := ?_) rfl (by kernel_rfl) (by kernel_rfl) (by kernel_rfl) (fun _ _ _ h => h) (Or.inl ⟨by rfl, ?_⟩) (by assumption) ?_
          rotate_left
          · intro wq hSw
            (try dsimp only at hSw)
            (try simp only [List.getElem_toArray, List.getElem_cons_succ, List.getElem_cons_zero])
            go_simp
            (try with_reducible rfl)
          simp only [Act.put, List.getElem_toArray, List.getElem_cons_succ, List.getElem_cons_zero, List.setIfInBounds_toArray, List.set_cons_zero, List.set_cons_succ]
          refine wpAnyH_take (i := 10) (v := ?_) rfl (by kernel_rfl) (by kernel_rfl) (by kernel_rfl) (fun _ _ _ h => h) (Or.inl ⟨by rfl, ?_⟩) (by assumption) ?_
          rotate_left
          · intro wq hSw
            (try dsimp only at hSw)
            (try simp only [List.getElem_toArray, List.getElem_cons_succ, List.getElem_cons_zero])
            go_simp
            (try with_reducible rfl)
          simp only [Act.put, List.getElem_toArray, List.getElem_cons_succ, List.getElem_cons_zero, List.setIfInBounds_toArray, List.set_cons_zero, List.set_cons_succ]
          refine wpAnyH_done (by kernel_rfl) ?_ _
          have HB3 := Lib.hid ((HB2.out.alloc HB2.out.size _).grown hg3 (by have := HB2.out.size; simp; omega) (fun j hj => (HO2.out.low j hj).1))
          have HBX := Lib.hid (show Below B wr w3 from (((((Below.refl B wr).drew.trans (hb2.mono (show B ≤ wr.drew.heap.size by have := HB.out.size; show B ≤ wr.heap.size; omega))) : Below B wr w2).alloc (by have := HB2.out.size; omega) _).grown hg3 (by have := HB2.out.size; simp; omega) (fun j hj => Nat.le_trans hB (HO2.out.low j hj).1)))
          clear hHeld hS hb2 cx hg3
          go_wp2
          go_roundw
          case rel =>
            refine ⟨[], Bl', pre ++ [h0b], step + 1, by go_num, by simp only [List.length_nil] at *; omega, by rw [List.length_append, HPL.out]; rfl, ?_, HRa.out.below HBX.out, HT.out.below HBX.out, HSUBa.out, fun q hq => HSUBb.out (List.mem_cons_of_mem _ hq), hown3, HB3.out⟩
            rw [HW.out, HN.out]; simp
          case measure => simp [intOf]; omega
      | cons h0a A' =>
        cases Bl' with
        | nil =>
          have HN := Lib.hid (weave_a h0a A' [] ts step (.inl rfl))
          obtain ⟨x, hx, hxB, cx⟩ := RC.head HRa.out
          subst hx
          have HT := Lib.hid HRa.out.tail
          obtain ⟨tv, htv⟩ : ∃ tv, tv = sliced (some x) 1 (h0a :: A').length ca 1 := ⟨_, rfl⟩
          have hsl : ∀ u : World, (Instr.slice 25 (.slice (some x) (h0a :: A').length ca) (some (.int .i64 1)) none none).run Try.prog u = .ok tv u := fun u => by rw [htv]; exact slice_one u x (h0a :: A').length ca (by simp)
          rw [← htv] at HT
          clear htv
          have hms : h0a.size ≤ 1048576 := HSZ.out h0a (HSUBa.out (List.mem_cons_self ..))
          have hxw : x.block < wr.heap.size := by have := HB.out.size; omega
          simp only [List.length_cons] at *
          go_wp2
          have hS := cx
          refine wp_region_held_drew (S := (fun wx => wx.cell? x = some (.string h0a))) (by kernel_rfl) hS (fun hHeld => ?_)
          refine wpAnyH_take (i := 0) (v := ?_) rfl (by kernel_rfl) (by kernel_rfl) (by kernel_rfl) (fun _ _ _ h => h) (Or.inl ⟨by rfl, ?_⟩) (by assumption) ?_
          rotate_left
          · intro wq hSw
            (try dsimp only at hSw)
            (try simp only [List.getElem_toArray, List.getElem_cons_zero])
            go_simp
            (try with_reducible rfl)
          simp only [Act.put, List.getElem_toArray, List.getElem_cons_zero, List.setIfInBounds_toArray, List.set_cons_zero, List.set_cons_succ]
          refine wpAnyH_take (i := 1) (v := ?_) rfl (by kernel_rfl) (by kernel_rfl) (by kernel_rfl) (fun _ _ _ h => h) (Or.inl ⟨by rfl, ?_⟩) (by assumption) ?_
          rotate_left
          · intro wq hSw
            (try dsimp only at hSw)
            (try simp only [List.getElem_toArray, List.getElem_cons_succ, List.getElem_cons_zero])
            go_simp
            (try with_reducible rfl)
          simp only [Act.put, List.getElem_toArray, List.getElem_cons_succ, List.getElem_cons_zero, List.setIfInBounds_toArray, List.set_cons_zero, List.set_cons_succ]
          refine wpAnyH_take (i := 2) (v := ?_) rfl (by kernel_rfl) (by kernel_rfl) (by kernel_rfl) (fun _ _ _ h => h) (Or.inl ⟨by rfl, ?_⟩) (by assumption) ?_
          rotate_left
          · intro wq hSw
            (try dsimp only at hSw)
            (try simp only [List.getElem_toArray, List.getElem_cons_succ, List.getElem_cons_zero])
            go_simp
            (try with_reducible rfl)
          simp only [Act.put, List.getElem_toArray, List.getElem_cons_succ, List.getElem_cons_zero, List.setIfInBounds_toArray, List.set_cons_zero, List.set_cons_succ]
          refine wpAnyH_take (i := 3) (v := ?_) rfl (by kernel_rfl) (by kernel_rfl) (by kernel_rfl) (fun _ _ _ h => h) (Or.inl ⟨by rfl, ?_⟩) (by assumption) ?_
          rotate_left
          · intro wq hSw
            (try dsimp only at hSw)
            (try simp only [List.getElem_toArray, List.getElem_cons_succ, List.getElem_cons_zero])
            go_simp
            (try with_reducible rfl)
          simp only [Act.put, List.getElem_toArray, List.getElem_cons_succ, List.getElem_cons_zero, List.setIfInBounds_toArray, List.set_cons_zero, List.set_cons_succ]
          refine wpAnyH_take (i := 7) (v := ?_) rfl (by kernel_rfl) (by kernel_rfl) (by kernel_rfl) (fun _ _ _ h => h) (Or.inl ⟨by rfl, ?_⟩) (by assumption) ?_
          rotate_left
          · intro wq hSw
            (try dsimp only at hSw)
            (try simp only [List.getElem_toArray, List.getElem_cons_succ, List.getElem_cons_zero])
            go_simp
            (try with_reducible rfl)
          simp only [Act.put, List.getElem_toArray, List.getElem_cons_succ, List.getElem_cons_zero, List.setIfInBounds_toArray, List.set_cons_zero, List.set_cons_succ]
          refine wpAnyH_take (i := 8) (v := ?_) rfl (by kernel_rfl) (by kernel_rfl) (by kernel_rfl) (fun _ _ _ h => h) (Or.inl ⟨by rfl, ?_⟩) (by assumption) ?_
          rotate_left
          · intro wq hSw
            (try dsimp only at hSw)
            (try simp only [List.getElem_toArray, List.getElem_cons_succ, List.getElem_cons_zero])
            go_simp
            (try with_reducible rfl)
          simp only [Act.put, List.getElem_toArray, List.getElem_cons_succ, List.getElem_cons_zero, List.setIfInBounds_toArray, List.set_cons_zero, List.set_cons_succ]
          refine wpAnyH_ready (rs := [4]) (by kernel_rfl) (by simp) ?_
          refine AllReadyH.cons rfl (fun K hK => ?_) AllReadyH.nil
          (try simp only [List.getElem_toArray, List.getElem_cons_succ, List.getElem_cons_zero])
          go_simp
          go_at_call 56
          refine (clone_any h0a _ (by omega)).mono ?_
          rintro e w2 ⟨rfl, hb2⟩
          have HB2 := Lib.hid (HB.out.drew.trans (hb2.mono HB.out.size))
          have HO2 := Lib.hid (HO.out.drew.below hb2)
          have hS := (hb2.cell (p := x) hxw).trans cx
          have hxw2 : x.block < w2.heap.size := (Nat.lt_of_lt_of_le hxw hb2.size)
          refine hK.out _ _ hS (fun hHeld => ?_)
          clear hK K
          refine wpAnyH_ready (rs := [5]) (by kernel_rfl) (by simp) ?_
          refine AllReadyH.cons rfl (fun K hK => ?_) AllReadyH.nil
          (try simp only [List.getElem_toArray, List.getElem_cons_succ, List.getElem_cons_zero])
          skip
          go_simp
          have hS := (((Below.refl _ w2).alloc (Nat.le_refl _) (.cells #[.string h0a] 9)).cell (p := x) hxw2).trans hS
          refine hK.out _ _ hS (fun hHeld => ?_)
          clear hK K
          refine wpAnyH_ready (rs := [6]) (by kernel_rfl) (by simp) ?_
          refine AllReadyH.cons rfl (fun K hK => ?_) AllReadyH.nil
          (try simp only [List.getElem_toArray, List.getElem_cons_succ, List.getElem_cons_zero])
          rw [if_pos (by rfl)]
          refine opwp_append_os2 _ _ 25 rfl w.heap.size i0 Try.underlying25 HI.out HZ0.out HZ1.out HZ2.out _ _ rfl (HO2.out.alloc _) _ _ [h0a] rfl (RS_one w2 h0a) (by have := HPL.out; simp only [List.length_singleton]; omega) (by have := HB2.out.size; simp; omega) ?_
          intro v3 w3 hown3 hg3
          have hS := hg3.cell hS (fun e => by have := (HO2.out.low x.block e.symm).1; omega)
          refine hK.out _ _ hS (fun hHeld => ?_)
          clear hK K
          simp only [Act.put, List.setIfInBounds_toArray, List.set_cons_zero, List.set_cons_succ]
          refine wpAnyH_take (i := 9) (v := ?_) rfl (by kernel_rfl) (by kernel_rfl) (by kernel_rfl) (fun _ _ _ h => h) (Or.inl ⟨by rfl, ?_⟩) (by assumption) ?_
          rotate_left
          · intro wq hSw
            (try dsimp only at hSw)
            (try simp only [List.getElem_toArray, List.getElem_cons_succ, List.getElem_cons_zero])
            go_simp
            (try with_reducible rfl)
          simp only [Act.put, List.getElem_toArray, List.getElem_cons_succ, List.getElem_cons_zero, List.setIfInBounds_toArray, List.set_cons_zero, List.set_cons_succ]
          refine wpAnyH_take (i := 10) (v := ?_) rfl (by kernel_rfl) (by kernel_rfl) (by kernel_rfl) (fun _ _ _ h => h) (Or.inl ⟨by rfl, ?_⟩) (by assumption) ?_
          rotate_left
          · intro wq hSw
            (try dsimp only at hSw)
            (try simp only [List.getElem_toArray, List.getElem_cons_succ, List.getElem_cons_zero])
            go_simp
            (try with_reducible rfl)
          simp only [Act.put, List.getElem_toArray, List.getElem_cons_succ, List.getElem_cons_zero, List.setIfInBounds_toArray, List.set_cons_zero]
          refine wpAnyH_done (by kernel_rfl) ?_ _
          have HB3 := Lib.hid ((HB2.out.alloc HB2.out.size _).grown hg3 (by have := HB2.out.size; simp; omega) (fun j hj => (HO2.out.low j hj).1))
          have HBX := Lib.hid (show Below B wr w3 from (((((Below.refl B wr).drew.trans (hb2.mono (show B ≤ wr.drew.heap.size by have := HB.out.size; show B ≤ wr.heap.size; omega))) : Below B wr w2).alloc (by have := HB2.out.size; omega) _).grown hg3 (by have := HB2.out.size; simp; omega) (fun j hj => Nat.le_trans hB (HO2.out.low j hj).1)))
          clear hHeld hS hb2 cx hg3
          go_wp2
          go_roundw
          case rel =>
            refine ⟨A', [], pre ++ [h0a], step + 1, by go_num, by simp only [List.length_nil] at *; omega, by rw [List.length_append, HPL.out]; rfl, ?_, HT.out.below HBX.out, HRb.out.below HBX.out, fun q hq => HSUBa.out (List.mem_cons_of_mem _ hq), HSUBb.out, hown3, HB3.out⟩
            rw [HW.out, HN.out]; simp
          case measure => simp [intOf]; omega
        | cons h0b Bl' =>
          have HN := Lib.hid (weave_b h0b (h0a :: A') Bl' ts step (.inr (by rw [HTN.out]; decide)))
          obtain ⟨x, hx, hxB, cx⟩ := RC.head HRb.out
          subst hx
          have HT := Lib.hid HRb.out.tail
          obtain ⟨tv, htv⟩ : ∃ tv, tv = sliced (some x) 1 (h0b :: Bl').length cb 1 := ⟨_, rfl⟩
          have hsl : ∀ u : World, (Instr.slice 25 (.slice (some x) (h0b :: Bl').length cb) (some (.int .i64 1)) none none).run Try.prog u = .ok tv u := fun u => by rw [htv]; exact slice_one u x (h0b :: Bl').length cb (by simp)
          rw [← htv] at HT
          clear htv
          have hms : h0b.size ≤ 1048576 := HSZ.out h0b (HSUBb.out (List.mem_cons_self ..))
          have hxw : x.block < wr.heap.size := by have := HB.out.size; omega
          simp only [List.length_cons] at *
          go_wp2
          have hS := cx
          refine wp_region_held_drew (S := (fun wx => wx.cell? x = some (.string h0b))) (by kernel_rfl) hS (fun hHeld => ?_)
          refine wpAnyH_take (i := 0) (v := ?_) rfl (by kernel_rfl) (by kernel_rfl) (by kernel_rfl) (fun _ _ _ h => h) (Or.inl ⟨by rfl, ?_⟩) (by assumption) ?_
          rotate_left
          · intro wq hSw
            (try dsimp only at hSw)
            (try simp only [List.getElem_toArray, List.getElem_cons_zero])
            go_simp
            (try with_reducible rfl)
          simp only [Act.put, List.getElem_toArray, List.getElem_cons_zero, List.setIfInBounds_toArray, List.set_cons_zero, List.set_cons_succ]
          refine wpAnyH_take (i := 1) (v := ?_) rfl (by kernel_rfl) (by kernel_rfl) (by kernel_rfl) (fun _ _ _ h => h) (Or.inl ⟨by rfl, ?_⟩) (by assumption) ?_
          rotate_left
          · intro wq hSw
            (try dsimp only at hSw)
            (try simp only [List.getElem_toArray, List.getElem_cons_succ, List.getElem_cons_zero])
            go_simp
            (try with_reducible rfl)
          simp only [Act.put, List.getElem_toArray, List.getElem_cons_succ, List.getElem_cons_zero, List.setIfInBounds_toArray, List.set_cons_zero, List.set_cons_succ]
          refine wpAnyH_take (i := 2) (v := ?_) rfl (by kernel_rfl) (by kernel_rfl) (by kernel_rfl) (fun _ _ _ h => h) (Or.inl ⟨by rfl, ?_⟩) (by assumption) ?_
          rotate_left
          · intro wq hSw
            (try dsimp only at hSw)
            (try simp only [List.getElem_toArray, List.getElem_cons_succ, List.getElem_cons_zero])
            go_simp
            (try with_reducible rfl)
          simp only [Act.put, List.getElem_toArray, List.getElem_cons_succ, List.getElem_cons_zero, List.setIfInBounds_toArray, List.set_cons_zero, List.set_cons_succ]
          refine wpAnyH_take (i := 3) (v := ?_) rfl (by kernel_rfl) (by kernel_rfl) (by kernel_rfl) (fun _ _ _ h => h) (Or.inl ⟨by rfl, ?_⟩) (by assumption) ?_
          rotate_left
          · intro wq hSw
            (try dsimp only at hSw)
            (try simp only [List.getElem_toArray, List.getElem_cons_succ, List.getElem_cons_zero])
            go_simp
            (try with_reducible rfl)
          simp only [Act.put, List.getElem_toArray, List.getElem_cons_succ, List.getElem_cons_zero, List.setIfInBounds_toArray, List.set_cons_zero, List.set_cons_succ]
          refine wpAnyH_take (i := 7) (v := ?_) rfl (by kernel_rfl) (by kernel_rfl) (by kernel_rfl) (fun _ _ _ h => h) (Or.inl ⟨by rfl, ?_⟩) (by assumption) ?_
          rotate_left
          · intro wq hSw
            (try dsimp only at hSw)
            (try simp only [List.getElem_toArray, List.getElem_cons_succ, List.getElem_cons_zero])
            go_simp
            (try with_reducible rfl)
          simp only [Act.put, List.getElem_toArray, List.getElem_cons_succ, List.getElem_cons_zero, List.setIfInBounds_toArray, List.set_cons_zero, List.set_cons_succ]
          refine wpAnyH_take (i := 8) (v := ?_) rfl (by kernel_rfl) (by kernel_rfl) (by kernel_rfl) (fun _ _ _ h => h) (Or.inl ⟨by rfl, ?_⟩) (by assumption) ?_
          rotate_left
          · intro wq hSw
            (try dsimp only at hSw)
            (try simp only [List.getElem_toArray, List.getElem_cons_succ, List.getElem_cons_zero])
            go_simp
            (try with_reducible rfl)
          simp only [Act.put, List.getElem_toArray, List.getElem_cons_succ, List.getElem_cons_zero, List.setIfInBounds_toArray, List.set_cons_zero, List.set_cons_succ]
          refine wpAnyH_ready (rs := [4]) (by kernel_rfl) (by simp) ?_
          refine AllReadyH.cons rfl (fun K hK => ?_) AllReadyH.nil
          (try simp only [List.getElem_toArray, List.getElem_cons_succ, List.getElem_cons_zero])
          go_simp
          go_at_call 56
          refine (clone_any h0b _ (by omega)).mono ?_
          rintro e w2 ⟨rfl, hb2⟩
          have HB2 := Lib.hid (HB.out.drew.trans (hb2.mono HB.out.size))
          have HO2 := Lib.hid (HO.out.drew.below hb2)
          have hS := (hb2.cell (p := x) hxw).trans cx
          have hxw2 : x.block < w2.heap.size := (Nat.lt_of_lt_of_le hxw hb2.size)
          refine hK.out _ _ hS (fun hHeld => ?_)
          clear hK K
          refine wpAnyH_ready (rs := [5]) (by kernel_rfl) (by simp) ?_
          refine AllReadyH.cons rfl (fun K hK => ?_) AllReadyH.nil
          (try simp only [List.getElem_toArray, List.getElem_cons_succ, List.getElem_cons_zero])
          skip
          go_simp
          have hS := (((Below.refl _ w2).alloc (Nat.le_refl _) (.cells #[.string h0b] 9)).cell (p := x) hxw2).trans hS
          refine hK.out _ _ hS (fun hHeld => ?_)
          clear hK K
          refine wpAnyH_ready (rs := [6]) (by kernel_rfl) (by simp) ?_
          refine AllReadyH.cons rfl (fun K hK => ?_) AllReadyH.nil
          (try simp only [List.getElem_toArray, List.getElem_cons_succ, List.getElem_cons_zero])
          rw [if_pos (by rfl)]
          refine opwp_append_os2 _ _ 25 rfl w.heap.size i0 Try.underlying25 HI.out HZ0.out HZ1.out HZ2.out _ _ rfl (HO2.out.alloc _) _ _ [h0b] rfl (RS_one w2 h0b) (by have := HPL.out; simp only [List.length_singleton]; omega) (by have := HB2.out.size; simp; omega) ?_
          intro v3 w3 hown3 hg3
          have hS := hg3.cell hS (fun e => by have := (HO2.out.low x.block e.symm).1; omega)
          refine hK.out _ _ hS (fun hHeld => ?_)
          clear hK K
          simp only [Act.put, List.setIfInBounds_toArray, List.set_cons_zero, List.set_cons_succ]
          refine wpAnyH_take (i := 9) (v := ?_) rfl (by kernel_rfl) (by kernel_rfl) (by kernel_rfl) (fun _ _ _ h => h) (Or.inl ⟨by rfl, ?_⟩) (by assumption) ?_
          rotate_left
          · intro wq hSw
            (try dsimp only at hSw)
            (try simp only [List.getElem_toArray, List.getElem_cons_succ, List.getElem_cons_zero])
            go_simp
            (try with_reducible rfl)
          simp only [Act.put, List.getElem_toArray, List.getElem_cons_succ, List.getElem_cons_zero, List.setIfInBounds_toArray, List.set_cons_zero, List.set_cons_succ]
          refine wpAnyH_take (i := 10) (v := ?_) rfl (by kernel_rfl) (by kernel_rfl) (by kernel_rfl) (fun _ _ _ h => h) (Or.inl ⟨by rfl, ?_⟩) (by assumption) ?_
          rotate_left
          · intro wq hSw
            (try dsimp only at hSw)
            (try simp only [List.getElem_toArray, List.getElem_cons_succ, List.getElem_cons_zero])
            go_simp
            (try with_reducible rfl)
          simp only [Act.put, List.getElem_toArray, List.getElem_cons_succ, List.getElem_cons_zero, List.setIfInBounds_toArray, List.set_cons_zero, List.set_cons_succ]
          refine wpAnyH_done (by kernel_rfl) ?_ _
          have HB3 := Lib.hid ((HB2.out.alloc HB2.out.size _).grown hg3 (by have := HB2.out.size; simp; omega) (fun j hj => (HO2.out.low j hj).1))
          have HBX := Lib.hid (show Below B wr w3 from (((((Below.refl B wr).drew.trans (hb2.mono (show B ≤ wr.drew.heap.size by have := HB.out.size; show B ≤ wr.heap.size; omega))) : Below B wr w2).alloc (by have := HB2.out.size; omega) _).grown hg3 (by have := HB2.out.size; simp; omega) (fun j hj => Nat.le_trans hB (HO2.out.low j hj).1)))
          clear hHeld hS hb2 cx hg3
          go_wp2
          go_roundw
          case rel =>
            refine ⟨(h0a :: A'), Bl', pre ++ [h0b], step + 1, by go_num, by simp only [List.length_cons] at *; omega, by rw [List.length_append, HPL.out]; rfl, ?_, HRa.out.below HBX.out, HT.out.below HBX.out, HSUBa.out, fun q hq => HSUBb.out (List.mem_cons_of_mem _ hq), hown3, HB3.out⟩
            rw [HW.out, HN.out]; simp
          case measure => simp [intOf]; omega
    obtain ⟨xt, hxt, _, ct⟩ := HT2.out.at_ hts
    subst hxt
    have htsi : (step : Int) < (ts.length : Int) := by omega
    cases htv : ts[step] with
    | true =>
      have HTN := Lib.hid (show ts.getD step false = true by rw [List.getD, List.getElem?_eq_getElem hts, htv]; rfl)
      rw [htv] at ct
      clear htv
      cases A' with
      | nil =>
        cases Bl' with
        | nil => simp at hmore
        | cons h0b Bl' =>
          have HN := Lib.hid (weave_b h0b [] Bl' ts step (.inl rfl))
          obtain ⟨x, hx, hxB, cx⟩ := RC.head HRb.out
          subst hx
          have HT := Lib.hid HRb.out.tail
          obtain ⟨tv, htv⟩ : ∃ tv, tv = sliced (some x) 1 (h0b :: Bl').length cb 1 := ⟨_, rfl⟩
          have hsl : ∀ u : World, (Instr.slice 25 (.slice (some x) (h0b :: Bl').length cb) (some (.int .i64 1)) none none).run Try.prog u = .ok tv u := fun u => by rw [htv]; exact slice_one u x (h0b :: Bl').length cb (by simp)
          rw [← htv] at HT
          clear htv
          have hms : h0b.size ≤ 1048576 := HSZ.out h0b (HSUBb.out (List.mem_cons_self ..))
          have hxw : x.block < wr.heap.size := by have := HB.out.size; omega
          simp only [List.length_cons] at *
          go_wp2
          have hS := cx
          refine wp_region_held_drew (S := (fun wx => wx.cell? x = some (.string h0b))) (by kernel_rfl) hS (fun hHeld => ?_)
          refine wpAnyH_take (i := 0) (v := ?_) rfl (by kernel_rfl) (by kernel_rfl) (by kernel_rfl) (fun _ _ _ h => h) (Or.inl ⟨by rfl, ?_⟩) (by assumption) ?_
          rotate_left
          · intro wq hSw
            (try dsimp only at hSw)
            (try simp only [List.getElem_toArray, List.getElem_cons_zero])
            go_simp
            (try with_reducible rfl)
          simp only [Act.put, List.getElem_toArray, List.getElem_cons_zero, List.setIfInBounds_toArray, List.set_cons_zero, List.set_cons_succ]
          refine wpAnyH_take (i := 1) (v := ?_) rfl (by kernel_rfl) (by kernel_rfl) (by kernel_rfl) (fun _ _ _ h => h) (Or.inl ⟨by rfl, ?_⟩) (by assumption) ?_
          rotate_left
          · intro wq hSw
            (try dsimp only at hSw)
            (try simp only [List.getElem_toArray, List.getElem_cons_succ, List.getElem_cons_zero])
            go_simp
            (try with_reducible rfl)
          simp only [Act.put, List.getElem_toArray, List.getElem_cons_succ, List.getElem_cons_zero, List.setIfInBounds_toArray, List.set_cons_zero, List.set_cons_succ]
          refine wpAnyH_take (i := 2) (v := ?_) rfl (by kernel_rfl) (by kernel_rfl) (by kernel_rfl) (fun _ _ _ h => h) (Or.inl ⟨by rfl, ?_⟩) (by assumption) ?_
          rotate_left
          · intro wq hSw
            (try dsimp only at hSw)
            (try simp only [List.getElem_toArray, List.getElem_cons_succ, List.getElem_cons_zero])
            go_simp
            (try with_reducible rfl)
          simp only [Act.put, List.getElem_toArray, List.getElem_cons_succ, List.getElem_cons_zero, List.setIfInBounds_toArray, List.set_cons_zero, List.set_cons_succ]
          refine wpAnyH_take (i := 3) (v := ?_) rfl (by kernel_rfl) (by kernel_rfl) (by kernel_rfl) (fun _ _ _ h => h) (Or.inl ⟨by rfl, ?_⟩) (by assumption) ?_
          rotate_left
          · intro wq hSw
            (try dsimp only at hSw)
            (try simp only [List.getElem_toArray, List.getElem_cons_succ, List.getElem_cons_zero])
            go_simp
            (try with_reducible rfl)
          simp only [Act.put, List.getElem_toArray, List.getElem_cons_succ, List.getElem_cons_zero, List.setIfInBounds_toArray, List.set_cons_zero, List.set_cons_succ]
          refine wpAnyH_take (i := 7) (v := ?_) rfl (by kernel_rfl) (by kernel_rfl) (by kernel_rfl) (fun _ _ _ h => h) (Or.inl ⟨by rfl, ?_⟩) (by assumption) ?_
          rotate_left
          · intro wq hSw
            (try dsimp only at hSw)
            (try simp only [List.getElem_toArray, List.getElem_cons_succ, List.getElem_cons_zero])
            go_simp
            (try with_reducible rfl)
          simp only [Act.put, List.getElem_toArray, List.getElem_cons_succ, List.getElem_cons_zero, List.setIfInBounds_toArray, List.set_cons_zero, List.set_cons_succ]
          refine wpAnyH_take (i := 8) (v := ?_) rfl (by kernel_rfl) (by kernel_rfl) (by kernel_rfl) (fun _ _ _ h => h) (Or.inl ⟨by rfl, ?_⟩) (by assumption) ?_
          rotate_left
          · intro wq hSw
            (try dsimp only at hSw)
            (try simp only [List.getElem_toArray, List.getElem_cons_succ, List.getElem_cons_zero])
            go_simp
            (try with_reducible rfl)
          simp only [Act.put, List.getElem_toArray, List.getElem_cons_succ, List.getElem_cons_zero, List.setIfInBounds_toArray, List.set_cons_zero, List.set_cons_succ]
          refine wpAnyH_ready (rs := [4]) (by kernel_rfl) (by simp) ?_
          refine AllReadyH.cons rfl (fun K hK => ?_) AllReadyH.nil
          (try simp only [List.getElem_toArray, List.getElem_cons_succ, List.getElem_cons_zero])
          go_simp
          go_at_call 56
          refine (clone_any h0b _ (by omega)).mono ?_
          rintro e w2 ⟨rfl, hb2⟩
          have HB2 := Lib.hid (HB.out.drew.trans (hb2.mono HB.out.size))
          have HO2 := Lib.hid (HO.out.drew.below hb2)
          have hS := (hb2.cell (p := x) hxw).trans cx
          have hxw2 : x.block < w2.heap.size := (Nat.lt_of_lt_of_le hxw hb2.size)
          refine hK.out _ _ hS (fun hHeld => ?_)
          clear hK K
          refine wpAnyH_ready (rs := [5]) (by kernel_rfl) (by simp) ?_
          refine AllReadyH.cons rfl (fun K hK => ?_) AllReadyH.nil
          (try simp only [List.getElem_toArray, List.getElem_cons_succ, List.getElem_cons_zero])
          skip
          go_simp
          have hS := (((Below.refl _ w2).alloc (Nat.le_refl _) (.cells #[.string h0b] 9)).cell (p := x) hxw2).trans hS
          refine hK.out _ _ hS (fun hHeld => ?_)
          clear hK K
          refine wpAnyH_ready (rs := [6]) (by kernel_rfl) (by simp) ?_
          refine AllReadyH.cons rfl (fun K hK => ?_) AllReadyH.nil
          (try simp only [List.getElem_toArray, List.getElem_cons_succ, List.getElem_cons_zero])
          rw [if_pos (by rfl)]
          refine opwp_append_os2 _ _ 25 rfl w.heap.size i0 Try.underlying25 HI.out HZ0.out HZ1.out HZ2.out _ _ rfl (HO2.out.alloc _) _ _ [h0b] rfl (RS_one w2 h0b) (by have := HPL.out; simp only [List.length_singleton]; omega) (by have := HB2.out.size; simp; omega) ?_
          intro v3 w3 hown3 hg3
          have hS := hg3.cell hS (fun e => by have := (HO2.out.low x.block e.symm).1; omega)
          refine hK.out _ _ hS (fun hHeld => ?_)
          clear hK K
          simp only [Act.put, List.setIfInBounds_toArray, List.set_cons_zero, List.set_cons_succ]
          refine wpAnyH_take (i := 9) (v := ?_) rfl (by kernel_rfl) (by kernel_rfl) (by kernel_rfl) (fun _ _ _ h => h) (Or.inl ⟨by rfl, ?_⟩) (by assumption) ?_
          rotate_left
          · intro wq hSw
            (try dsimp only at hSw)
            (try simp only [List.getElem_toArray, List.getElem_cons_succ, List.getElem_cons_zero])
            go_simp
            (try with_reducible rfl)
          simp only [Act.put, List.getElem_toArray, List.getElem_cons_succ, List.getElem_cons_zero, List.setIfInBounds_toArray, List.set_cons_zero, List.set_cons_succ]
          refine wpAnyH_take (i := 10) (v := ?_) rfl (by kernel_rfl) (by kernel_rfl) (by kernel_rfl) (fun _ _ _ h => h) (Or.inl ⟨by rfl, ?_⟩) (by assumption) ?_
          rotate_left
          · intro wq hSw
            (try dsimp only at hSw)
            (try simp only [List.getElem_toArray, List.getElem_cons_succ, List.getElem_cons_zero])
            go_simp
            (try with_reducible rfl)
          simp only [Act.put, List.getElem_toArray, List.getElem_cons_succ, List.getElem_cons_zero, List.setIfInBounds_toArray, List.set_cons_zero, List.set_cons_succ]
          refine wpAnyH_done (by kernel_rfl) ?_ _
          have HB3 := Lib.hid ((HB2.out.alloc HB2.out.size _).grown hg3 (by have := HB2.out.size; simp; omega) (fun j hj => (HO2.out.low j hj).1))
          have HBX := Lib.hid (show Below B wr w3 from (((((Below.refl B wr).drew.trans (hb2.mono (show B ≤ wr.drew.heap.size by have := HB.out.size; show B ≤ wr.heap.size; omega))) : Below B wr w2).alloc (by have := HB2.out.size; omega) _).grown hg3 (by have := HB2.out.size; simp; omega) (fun j hj => Nat.le_trans hB (HO2.out.low j hj).1)))
          clear hHeld hS hb2 cx hg3
          go_wp2
          go_roundw
          case rel =>
            refine ⟨[], Bl', pre ++ [h0b], step + 1, by go_num, by simp only [List.length_nil] at *; omega, by rw [List.length_append, HPL.out]; rfl, ?_, HRa.out.below HBX.out, HT.out.below HBX.out, HSUBa.out, fun q hq => HSUBb.out (List.mem_cons_of_mem _ hq), hown3, HB3.out⟩
            rw [HW.out, HN.out]; simp
          case measure => simp [intOf]; omega
      | cons h0a A' =>
        cases Bl' with
        | nil =>
          have HN := Lib.hid (weave_a h0a A' [] ts step (.inl rfl))
          obtain ⟨x, hx, hxB, cx⟩ := RC.head HRa.out
          subst hx
          have HT := Lib.hid HRa.out.tail
          obtain ⟨tv, htv⟩ : ∃ tv, tv = sliced (some x) 1 (h0a :: A').length ca 1 := ⟨_, rfl⟩
          have hsl : ∀ u : World, (Instr.slice 25 (.slice (some x) (h0a :: A').length ca) (some (.int .i64 1)) none none).run Try.prog u = .ok tv u := fun u => by rw [htv]; exact slice_one u x (h0a :: A').length ca (by simp)
          rw [← htv] at HT
          clear htv
          have hms : h0a.size ≤ 1048576 := HSZ.out h0a (HSUBa.out (List.mem_cons_self ..))
          have hxw : x.block < wr.heap.size := by have := HB.out.size; omega
          simp only [List.length_cons] at *
          go_wp2
          have hS := cx
          refine wp_region_held_drew (S := (fun wx => wx.cell? x = some (.string h0a))) (by kernel_rfl) hS (fun hHeld => ?_)
          refine wpAnyH_take (i := 0) (v := ?_) rfl (by kernel_rfl) (by kernel_rfl) (by kernel_rfl) (fun _ _ _ h => h) (Or.inl ⟨by rfl, ?_⟩) (by assumption) ?_
          rotate_left
          · intro wq hSw
            (try dsimp only at hSw)
            (try simp only [List.getElem_toArray, List.getElem_cons_zero])
            go_simp
            (try with_reducible rfl)
          simp only [Act.put, List.getElem_toArray, List.getElem_cons_zero, List.setIfInBounds_toArray, List.set_cons_zero, List.set_cons_succ]
          refine wpAnyH_take (i := 1) (v := ?_) rfl (by kernel_rfl) (by kernel_rfl) (by kernel_rfl) (fun _ _ _ h => h) (Or.inl ⟨by rfl, ?_⟩) (by assumption) ?_
          rotate_left
          · intro wq hSw
            (try dsimp only at hSw)
            (try simp only [List.getElem_toArray, List.getElem_cons_succ, List.getElem_cons_zero])
            go_simp
            (try with_reducible rfl)
          simp only [Act.put, List.getElem_toArray, List.getElem_cons_succ, List.getElem_cons_zero, List.setIfInBounds_toArray, List.set_cons_zero, List.set_cons_succ]
          refine wpAnyH_take (i := 2) (v := ?_) rfl (by kernel_rfl) (by kernel_rfl) (by kernel_rfl) (fun _ _ _ h => h) (Or.inl ⟨by rfl, ?_⟩) (by assumption) ?_
          rotate_left
          · intro wq hSw
            (try dsimp only at hSw)
            (try simp only [List.getElem_toArray, List.getElem_cons_succ, List.getElem_cons_zero])
            go_simp
            (try with_reducible rfl)
          simp only [Act.put, List.getElem_toArray, List.getElem_cons_succ, List.getElem_cons_zero, List.setIfInBounds_toArray, List.set_cons_zero, List.set_cons_succ]
          refine wpAnyH_take (i := 3) (v := ?_) rfl (by kernel_rfl) (by kernel_rfl) (by kernel_rfl) (fun _ _ _ h => h) (Or.inl ⟨by rfl, ?_⟩) (by assumption) ?_
          rotate_left
          · intro wq hSw
            (try dsimp only at hSw)
            (try simp only [List.getElem_toArray, List.getElem_cons_succ, List.getElem_cons_zero])
            go_simp
            (try with_reducible rfl)
          simp only [Act.put, List.getElem_toArray, List.getElem_cons_succ, List.getElem_cons_zero, List.setIfInBounds_toArray, List.set_cons_zero, List.set_cons_succ]
          refine wpAnyH_take (i := 7) (v := ?_) rfl (by kernel_rfl) (by kernel_rfl) (by kernel_rfl) (fun _ _ _ h => h) (Or.inl ⟨by rfl, ?_⟩) (by assumption) ?_
          rotate_left
          · intro wq hSw
            (try dsimp only at hSw)
            (try simp only [List.getElem_toArray, List.getElem_cons_succ, List.getElem_cons_zero])
            go_simp
            (try with_reducible rfl)
          simp only [Act.put, List.getElem_toArray, List.getElem_cons_succ, List.getElem_cons_zero, List.setIfInBounds_toArray, List.set_cons_zero, List.set_cons_succ]
          refine wpAnyH_take (i := 8) (v := ?_) rfl (by kernel_rfl) (by kernel_rfl) (by kernel_rfl) (fun _ _ _ h => h) (Or.inl ⟨by rfl, ?_⟩) (by assumption) ?_
          rotate_left
          · intro wq hSw
            (try dsimp only at hSw)
            (try simp only [List.getElem_toArray, List.getElem_cons_succ, List.getElem_cons_zero])
            go_simp
            (try with_reducible rfl)
          simp only [Act.put, List.getElem_toArray, List.getElem_cons_succ, List.getElem_cons_zero, List.setIfInBounds_toArray, List.set_cons_zero, List.set_cons_succ]
          refine wpAnyH_ready (rs := [4]) (by kernel_rfl) (by simp) ?_
          refine AllReadyH.cons rfl (fun K hK => ?_) AllReadyH.nil
          (try simp only [List.getElem_toArray, List.getElem_cons_succ, List.getElem_cons_zero])
          go_simp
          go_at_call 56
          refine (clone_any h0a _ (by omega)).mono ?_
          rintro e w2 ⟨rfl, hb2⟩
          have HB2 := Lib.hid (HB.out.drew.trans (hb2.mono HB.out.size))
          have HO2 := Lib.hid (HO.out.drew.below hb2)
          have hS := (hb2.cell (p := x) hxw).trans cx
          have hxw2 : x.block < w2.heap.size := (Nat.lt_of_lt_of_le hxw hb2.size)
          refine hK.out _ _ hS (fun hHeld => ?_)
          clear hK K
          refine wpAnyH_ready (rs := [5]) (by kernel_rfl) (by simp) ?_
          refine AllReadyH.cons rfl (fun K hK => ?_) AllReadyH.nil
          (try simp only [List.getElem_toArray, List.getElem_cons_succ, List.getElem_cons_zero])
          skip
          go_simp
          have hS := (((Below.refl _ w2).alloc (Nat.le_refl _) (.cells #[.string h0a] 9)).cell (p := x) hxw2).trans hS
          refine hK.out _ _ hS (fun hHeld => ?_)
          clear hK K
          refine wpAnyH_ready (rs := [6]) (by kernel_rfl) (by simp) ?_
          refine AllReadyH.cons rfl (fun K hK => ?_) AllReadyH.nil
          (try simp only [List.getElem_toArray, List.getElem_cons_succ, List.getElem_cons_zero])
          rw [if_pos (by rfl)]
          refine opwp_append_os2 _ _ 25 rfl w.heap.size i0 Try.underlying25 HI.out HZ0.out HZ1.out HZ2.out _ _ rfl (HO2.out.alloc _) _ _ [h0a] rfl (RS_one w2 h0a) (by have := HPL.out; simp only [List.length_singleton]; omega) (by have := HB2.out.size; simp; omega) ?_
          intro v3 w3 hown3 hg3
          have hS := hg3.cell hS (fun e => by have := (HO2.out.low x.block e.symm).1; omega)
          refine hK.out _ _ hS (fun hHeld => ?_)
          clear hK K
          simp only [Act.put, List.setIfInBounds_toArray, List.set_cons_zero, List.set_cons_succ]
          refine wpAnyH_take (i := 9) (v := ?_) rfl (by kernel_rfl) (by kernel_rfl) (by kernel_rfl) (fun _ _ _ h => h) (Or.inl ⟨by rfl, ?_⟩) (by assumption) ?_
          rotate_left
          · intro wq hSw
            (try dsimp only at hSw)
            (try simp only [List.getElem_toArray, List.getElem_cons_succ, List.getElem_cons_zero])
            go_simp
            (try with_reducible rfl)
          simp only [Act.put, List.getElem_toArray, List.getElem_cons_succ, List.getElem_cons_zero, List.setIfInBounds_toArray, List.set_cons_zero, List.set_cons_succ]
          refine wpAnyH_take (i := 10) (v := ?_) rfl (by kernel_rfl) (by kernel_rfl) (by kernel_rfl) (fun _ _ _ h => h) (Or.inl ⟨by rfl, ?_⟩) (by assumption) ?_
          rotate_left
          · intro wq hSw
            (try dsimp only at hSw)
            (try simp only [List.getElem_toArray, List.getElem_cons_succ, List.getElem_cons_zero])
            go_simp
            (try with_reducible rfl)
          simp only [Act.put, List.getElem_toArray, List.getElem_cons_succ, List.getElem_cons_zero, List.setIfInBounds_toArray, List.set_cons_zero]
          refine wpAnyH_done (by kernel_rfl) ?_ _
          have HB3 := Lib.hid ((HB2.out.alloc HB2.out.size _).grown hg3 (by have := HB2.out.size; simp; omega) (fun j hj => (HO2.out.low j hj).1))
          have HBX := Lib.hid (show Below B wr w3 from (((((Below.refl B wr).drew.trans (hb2.mono (show B ≤ wr.drew.heap.size by have := HB.out.size; show B ≤ wr.heap.size; omega))) : Below B wr w2).alloc (by have := HB2.out.size; omega) _).grown hg3 (by have := HB2.out.size; simp; omega) (fun j hj => Nat.le_trans hB (HO2.out.low j hj).1)))
          clear hHeld hS hb2 cx hg3
          go_wp2
          go_roundw
          case rel =>
            refine ⟨A', [], pre ++ [h0a], step + 1, by go_num, by simp only [List.length_nil] at *; omega, by rw [List.length_append, HPL.out]; rfl, ?_, HT.out.below HBX.out, HRb.out.below HBX.out, fun q hq => HSUBa.out (List.mem_cons_of_mem _ hq), HSUBb.out, hown3, HB3.out⟩
            rw [HW.out, HN.out]; simp
          case measure => simp [intOf]; omega
        | cons h0b Bl' =>
          have HN := Lib.hid (weave_a h0a A' (h0b :: Bl') ts step (.inr HTN.out))
          obtain ⟨x, hx, hxB, cx⟩ := RC.head HRa.out
          subst hx
          have HT := Lib.hid HRa.out.tail
          obtain ⟨tv, htv⟩ : ∃ tv, tv = sliced (some x) 1 (h0a :: A').length ca 1 := ⟨_, rfl⟩
          have hsl : ∀ u : World, (Instr.slice 25 (.slice (some x) (h0a :: A').length ca) (some (.int .i64 1)) none none).run Try.prog u = .ok tv u := fun u => by rw [htv]; exact slice_one u x (h0a :: A').length ca (by simp)
          rw [← htv] at HT
          clear htv
          have hms : h0a.size ≤ 1048576 := HSZ.out h0a (HSUBa.out (List.mem_cons_self ..))
          have hxw : x.block < wr.heap.size := by have := HB.out.size; omega
          simp only [List.length_cons] at *
          go_wp2
          have hS := cx
          refine wp_region_held_drew (S := (fun wx => wx.cell? x = some (.string h0a))) (by kernel_rfl) hS (fun hHeld => ?_)
          refine wpAnyH_take (i := 0) (v := ?_) rfl (by kernel_rfl) (by kernel_rfl) (by kernel_rfl) (fun _ _ _ h => h) (Or.inl ⟨by rfl, ?_⟩) (by assumption) ?_
          rotate_left
          · intro wq hSw
            (try dsimp only at hSw)
            (try simp only [List.getElem_toArray, List.getElem_cons_zero])
            go_simp
            (try with_reducible rfl)
          simp only [Act.put, List.getElem_toArray, List.getElem_cons_zero, List.setIfInBounds_toArray, List.set_cons_zero, List.set_cons_succ]
          refine wpAnyH_take (i := 1) (v := ?_) rfl (by kernel_rfl) (by kernel_rfl) (by kernel_rfl) (fun _ _ _ h => h) (Or.inl ⟨by rfl, ?_⟩) (by assumption) ?_
          rotate_left
          · intro wq hSw
            (try dsimp only at hSw)
            (try simp only [List.getElem_toArray, List.getElem_cons_succ, List.getElem_cons_zero])
            go_simp
            (try with_reducible rfl)
          simp only [Act.put, List.getElem_toArray, List.getElem_cons_succ, List.getElem_cons_zero, List.setIfInBounds_toArray, List.set_cons_zero, List.set_cons_succ]
          refine wpAnyH_take (i := 2) (v := ?_) rfl (by kernel_rfl) (by kernel_rfl) (by kernel_rfl) (fun _ _ _ h => h) (Or.inl ⟨by rfl, ?_⟩) (by assumption) ?_
          rotate_left
          · intro wq hSw
            (try dsimp only at hSw)
            (try simp only [List.getElem_toArray, List.getElem_cons_succ, List.getElem_cons_zero])
            go_simp
            (try with_reducible rfl)
          simp only [Act.put, List.getElem_toArray, List.getElem_cons_succ, List.getElem_cons_zero, List.setIfInBounds_toArray, List.set_cons_zero, List.set_cons_succ]
          refine wpAnyH_take (i := 3) (v := ?_) rfl (by kernel_rfl) (by kernel_rfl) (by kernel_rfl) (fun _ _ _ h => h) (Or.inl ⟨by rfl, ?_⟩) (by assumption) ?_
          rotate_left
          · intro wq hSw
            (try dsimp only at hSw)
            (try simp only [List.getElem_toArray, List.getElem_cons_succ, List.getElem_cons_zero])
            go_simp
            (try with_reducible rfl)
          simp only [Act.put, List.getElem_toArray, List.getElem_cons_succ, List.getElem_cons_zero, List.setIfInBounds_toArray, List.set_cons_zero, List.set_cons_succ]
          refine wpAnyH_take (i := 7) (v := ?_) rfl (by kernel_rfl) (by kernel_rfl) (by kernel_rfl) (fun _ _ _ h => h) (Or.inl ⟨by rfl, ?_⟩) (by assumption) ?_
          rotate_left
          · intro wq hSw
            (try dsimp only at hSw)
            (try simp only [List.getElem_toArray, List.getElem_cons_succ, List.getElem_cons_zero])
            go_simp
            (try with_reducible rfl)
          simp only [Act.put, List.getElem_toArray, List.getElem_cons_succ, List.getElem_cons_zero, List.setIfInBounds_toArray, List.set_cons_zero, List.set_cons_succ]
          refine wpAnyH_take (i := 8) (v := ?_) rfl (by kernel_rfl) (by kernel_rfl) (by kernel_rfl) (fun _ _ _ h => h) (Or.inl ⟨by rfl, ?_⟩) (by assumption) ?_
          rotate_left
          · intro wq hSw
            (try dsimp only at hSw)
            (try simp only [List.getElem_toArray, List.getElem_cons_succ, List.getElem_cons_zero])
            go_simp
            (try with_reducible rfl)
          simp only [Act.put, List.getElem_toArray, List.getElem_cons_succ, List.getElem_cons_zero, List.setIfInBounds_toArray, List.set_cons_zero, List.set_cons_succ]
          refine wpAnyH_ready (rs := [4]) (by kernel_rfl) (by simp) ?_
          refine AllReadyH.cons rfl (fun K hK => ?_) AllReadyH.nil
          (try simp only [List.getElem_toArray, List.getElem_cons_succ, List.getElem_cons_zero])
          go_simp
          go_at_call 56
          refine (clone_any h0a _ (by omega)).mono ?_
          rintro e w2 ⟨rfl, hb2⟩
          have HB2 := Lib.hid (HB.out.drew.trans (hb2.mono HB.out.size))
          have HO2 := Lib.hid (HO.out.drew.below hb2)
          have hS := (hb2.cell (p := x) hxw).trans cx
          have hxw2 : x.block < w2.heap.size := (Nat.lt_of_lt_of_le hxw hb2.size)
          refine hK.out _ _ hS (fun hHeld => ?_)
          clear hK K
          refine wpAnyH_ready (rs := [5]) (by kernel_rfl) (by simp) ?_
          refine AllReadyH.cons rfl (fun K hK => ?_) AllReadyH.nil
          (try simp only [List.getElem_toArray, List.getElem_cons_succ, List.getElem_cons_zero])
          skip
          go_simp
          have hS := (((Below.refl _ w2).alloc (Nat.le_refl _) (.cells #[.string h0a] 9)).cell (p := x) hxw2).trans hS
          refine hK.out _ _ hS (fun hHeld => ?_)
          clear hK K
          refine wpAnyH_ready (rs := [6]) (by kernel_rfl) (by simp) ?_
          refine AllReadyH.cons rfl (fun K hK => ?_) AllReadyH.nil
          (try simp only [List.getElem_toArray, List.getElem_cons_succ, List.getElem_cons_zero])
          rw [if_pos (by rfl)]
          refine opwp_append_os2 _ _ 25 rfl w.heap.size i0 Try.underlying25 HI.out HZ0.out HZ1.out HZ2.out _ _ rfl (HO2.out.alloc _) _ _ [h0a] rfl (RS_one w2 h0a) (by have := HPL.out; simp only [List.length_singleton]; omega) (by have := HB2.out.size; simp; omega) ?_
          intro v3 w3 hown3 hg3
          have hS := hg3.cell hS (fun e => by have := (HO2.out.low x.block e.symm).1; omega)
          refine hK.out _ _ hS (fun hHeld => ?_)
          clear hK K
          simp only [Act.put, List.setIfInBounds_toArray, List.set_cons_zero, List.set_cons_succ]
          refine wpAnyH_take (i := 9) (v := ?_) rfl (by kernel_rfl) (by kernel_rfl) (by kernel_rfl) (fun _ _ _ h => h) (Or.inl ⟨by rfl, ?_⟩) (by assumption) ?_
          rotate_left
          · intro wq hSw
            (try dsimp only at hSw)
            (try simp only [List.getElem_toArray, List.getElem_cons_succ, List.getElem_cons_zero])
            go_simp
            (try with_reducible rfl)
          simp only [Act.put, List.getElem_toArray, List.getElem_cons_succ, List.getElem_cons_zero, List.setIfInBounds_toArray, List.set_cons_zero, List.set_cons_succ]
          refine wpAnyH_take (i := 10) (v := ?_) rfl (by kernel_rfl) (by kernel_rfl) (by kernel_rfl) (fun _ _ _ h => h) (Or.inl ⟨by rfl, ?_⟩) (by assumption) ?_
          rotate_left
          · intro wq hSw
            (try dsimp only at hSw)
            (try simp only [List.getElem_toArray, List.getElem_cons_succ, List.getElem_cons_zero])
            go_simp
            (try with_reducible rfl)
          simp only [Act.put, List.getElem_toArray, List.getElem_cons_succ, List.getElem_cons_zero, List.setIfInBounds_toArray, List.set_cons_zero]
          refine wpAnyH_done (by kernel_rfl) ?_ _
          have HB3 := Lib.hid ((HB2.out.alloc HB2.out.size _).grown hg3 (by have := HB2.out.size; simp; omega) (fun j hj => (HO2.out.low j hj).1))
          have HBX := Lib.hid (show Below B wr w3 from (((((Below.refl B wr).drew.trans (hb2.mono (show B ≤ wr.drew.heap.size by have := HB.out.size; show B ≤ wr.heap.size; omega))) : Below B wr w2).alloc (by have := HB2.out.size; omega) _).grown hg3 (by have := HB2.out.size; simp; omega) (fun j hj => Nat.le_trans hB (HO2.out.low j hj).1)))
          clear hHeld hS hb2 cx hg3
          go_wp2
          go_roundw
          case rel =>
            refine ⟨A', (h0b :: Bl'), pre ++ [h0a], step + 1, by go_num, by simp only [List.length_cons] at *; omega, by rw [List.length_append, HPL.out]; rfl, ?_, HT.out.below HBX.out, HRb.out.below HBX.out, fun q hq => HSUBa.out (List.mem_cons_of_mem _ hq), HSUBb.out, hown3, HB3.out⟩
            rw [HW.out, HN.out]; simp
          case measure => simp [intOf]; omega
    | false =>
      have HTN := Lib.hid (show ts.getD step false = false by rw [List.getD, List.getElem?_eq_getElem hts, htv]; rfl)
      rw [htv] at ct
      clear htv
      cases A' with
      | nil =>
        cases Bl' with
        | nil => simp at hmore
        | cons h0b Bl' =>
          have HN := Lib.hid (weave_b h0b [] Bl' ts step (.inl rfl))
          obtain ⟨x, hx, hxB, cx⟩ := RC.head HRb.out
          subst hx
          have HT := Lib.hid HRb.out.tail
          obtain ⟨tv, htv⟩ : ∃ tv, tv = sliced (some x) 1 (h0b :: Bl').length cb 1 := ⟨_, rfl⟩
          have hsl : ∀ u : World, (Instr.slice 25 (.slice (some x) (h0b :: Bl').length cb) (some (.int .i64 1)) none none).run Try.prog u = .ok tv u := fun u => by rw [htv]; exact slice_one u x (h0b :: Bl').length cb (by simp)
          rw [← htv] at HT
          clear htv
          have hms : h0b.size ≤ 1048576 := HSZ.out h0b (HSUBb.out (List.mem_cons_self ..))
          have hxw : x.block < wr.heap.size := by have := HB.out.size; omega
          simp only [List.length_cons] at *
          go_wp2
          have hS := cx
          refine wp_region_held_drew (S := (fun wx => wx.cell? x = some (.string h0b))) (by kernel_rfl) hS (fun hHeld => ?_)
          refine wpAnyH_take (i := 0) (v := ?_) rfl (by kernel_rfl) (by kernel_rfl) (by kernel_rfl) (fun _ _ _ h => h) (Or.inl ⟨by rfl, ?_⟩) (by assumption) ?_
          rotate_left
          · intro wq hSw
            (try dsimp only at hSw)
            (try simp only [List.getElem_toArray, List.getElem_cons_zero])
            go_simp
            (try with_reducible rfl)
          simp only [Act.put, List.getElem_toArray, List.getElem_cons_zero, List.setIfInBounds_toArray, List.set_cons_zero, List.set_cons_succ]
          refine wpAnyH_take (i := 1) (v := ?_) rfl (by kernel_rfl) (by kernel_rfl) (by kernel_rfl) (fun _ _ _ h => h) (Or.inl ⟨by rfl, ?_⟩) (by assumption) ?_
          rotate_left
          · intro wq hSw
            (try dsimp only at hSw)
            (try simp only [List.getElem_toArray, List.getElem_cons_succ, List.getElem_cons_zero])
            go_simp
            (try with_reducible rfl)
          simp only [Act.put, List.getElem_toArray, List.getElem_cons_succ, List.getElem_cons_zero, List.setIfInBounds_toArray, List.set_cons_zero, List.set_cons_succ]
          refine wpAnyH_take (i := 2) (v := ?_) rfl (by kernel_rfl) (by kernel_rfl) (by kernel_rfl) (fun _ _ _ h => h) (Or.inl ⟨by rfl, ?_⟩) (by assumption) ?_
          rotate_left
          · intro wq hSw
            (try dsimp only at hSw)
            (try simp only [List.getElem_toArray, List.getElem_cons_succ, List.getElem_cons_zero])
            go_simp
            (try with_reducible rfl)
          simp only [Act.put, List.getElem_toArray, List.getElem_cons_succ, List.getElem_cons_zero, List.setIfInBounds_toArray, List.set_cons_zero, List.set_cons_succ]
          refine wpAnyH_take (i := 3) (v := ?_) rfl (by kernel_rfl) (by kernel_rfl) (by kernel_rfl) (fun _ _ _ h => h) (Or.inl ⟨by rfl, ?_⟩) (by assumption) ?_
          rotate_left
          · intro wq hSw
            (try dsimp only at hSw)
            (try simp only [List.getElem_toArray, List.getElem_cons_succ, List.getElem_cons_zero])
            go_simp
            (try with_reducible rfl)
          simp only [Act.put, List.getElem_toArray, List.getElem_cons_succ, List.getElem_cons_zero, List.setIfInBounds_toArray, List.set_cons_zero, List.set_cons_succ]
          refine wpAnyH_take (i := 7) (v := ?_) rfl (by kernel_rfl) (by kernel_rfl) (by kernel_rfl) (fun _ _ _ h => h) (Or.inl ⟨by rfl, ?_⟩) (by assumption) ?_
          rotate_left
          · intro wq hSw
            (try dsimp only at hSw)
            (try simp only [List.getElem_toArray, List.getElem_cons_succ, List.getElem_cons_zero])
            go_simp
            (try with_reducible rfl)
          simp only [Act.put, List.getElem_toArray, List.getElem_cons_succ, List.getElem_cons_zero, List.setIfInBounds_toArray, List.set_cons_zero, List.set_cons_succ]
          refine wpAnyH_take (i := 8) (v := ?_) rfl (by kernel_rfl) (by kernel_rfl) (by kernel_rfl) (fun _ _ _ h => h) (Or.inl ⟨by rfl, ?_⟩) (by assumption) ?_
          rotate_left
          · intro wq hSw
            (try dsimp only at hSw)
            (try simp only [List.getElem_toArray, List.getElem_cons_succ, List.getElem_cons_zero])
            go_simp
            (try with_reducible rfl)
          simp only [Act.put, List.getElem_toArray, List.getElem_cons_succ, List.getElem_cons_zero, List.setIfInBounds_toArray, List.set_cons_zero, List.set_cons_succ]
          refine wpAnyH_ready (rs := [4]) (by kernel_rfl) (by simp) ?_
          refine AllReadyH.cons rfl (fun K hK => ?_) AllReadyH.nil
          (try simp only [List.getElem_toArray, List.getElem_cons_succ, List.getElem_cons_zero])
          go_simp
          go_at_call 56
          refine (clone_any h0b _ (by omega)).mono ?_
          rintro e w2 ⟨rfl, hb2⟩
          have HB2 := Lib.hid (HB.out.drew.trans (hb2.mono HB.out.size))
          have HO2 := Lib.hid (HO.out.drew.below hb2)
          have hS := (hb2.cell (p := x) hxw).trans cx
          have hxw2 : x.block < w2.heap.size := (Nat.lt_of_lt_of_le hxw hb2.size)
          refine hK.out _ _ hS (fun hHeld => ?_)
          clear hK K
          refine wpAnyH_ready (rs := [5]) (by kernel_rfl) (by simp) ?_
          refine AllReadyH.cons rfl (fun K hK => ?_) AllReadyH.nil
          (try simp only [List.getElem_toArray, List.getElem_cons_succ, List.getElem_cons_zero])
          skip
          go_simp
          have hS := (((Below.refl _ w2).alloc (Nat.le_refl _) (.cells #[.string h0b] 9)).cell (p := x) hxw2).trans hS
          refine hK.out _ _ hS (fun hHeld => ?_)
          clear hK K
          refine wpAnyH_ready (rs := [6]) (by kernel_rfl) (by simp) ?_
          refine AllReadyH.cons rfl (fun K hK => ?_) AllReadyH.nil
          (try simp only [List.getElem_toArray, List.getElem_cons_succ, List.getElem_cons_zero])
          rw [if_pos (by rfl)]
          refine opwp_append_os2 _ _ 25 rfl w.heap.size i0 Try.underlying25 HI.out HZ0.out HZ1.out HZ2.out _ _ rfl (HO2.out.alloc _) _ _ [h0b] rfl (RS_one w2 h0b) (by have := HPL.out; simp only [List.length_singleton]; omega) (by have := HB2.out.size; simp; omega) ?_
          intro v3 w3 hown3 hg3
          have hS := hg3.cell hS (fun e => by have := (HO2.out.low x.block e.symm).1; omega)
          refine hK.out _ _ hS (fun hHeld => ?_)
          clear hK K
          simp only [Act.put, List.setIfInBounds_toArray, List.set_cons_zero, List.set_cons_succ]
          refine wpAnyH_take (i := 9) (v := ?_) rfl (by kernel_rfl) (by kernel_rfl) (by kernel_rfl) (fun _ _ _ h => h) (Or.inl ⟨by rfl, ?_⟩) (by assumption) ?_
          rotate_left
          · intro wq hSw
            (try dsimp only at hSw)
            (try simp only [List.getElem_toArray, List.getElem_cons_succ, List.getElem_cons_zero])
            go_simp
            (try with_reducible rfl)
          simp only [Act.put, List.getElem_toArray, List.getElem_cons_succ, List.getElem_cons_zero, List.setIfInBounds_toArray, List.set_cons_zero, List.set_cons_succ]
          refine wpAnyH_take (i := 10) (v := ?_) rfl (by kernel_rfl) (by kernel_rfl) (by kernel_rfl) (fun _ _ _ h => h) (Or.inl ⟨by rfl, ?_⟩) (by assumption) ?_
          rotate_left
          · intro wq hSw
            (try dsimp only at hSw)
            (try simp only [List.getElem_toArray, List.getElem_cons_succ, List.getElem_cons_zero])
            go_simp
            (try with_reducible rfl)
          simp only [Act.put, List.getElem_toArray, List.getElem_cons_succ, List.getElem_cons_zero, List.setIfInBounds_toArray, List.set_cons_zero, List.set_cons_succ]
          refine wpAnyH_done (by kernel_rfl) ?_ _
          have HB3 := Lib.hid ((HB2.out.alloc HB2.out.size _).grown hg3 (by have := HB2.out.size; simp; omega) (fun j hj => (HO2.out.low j hj).1))
          have HBX := Lib.hid (show Below B wr w3 from (((((Below.refl B wr).drew.trans (hb2.mono (show B ≤ wr.drew.heap.size by have := HB.out.size; show B ≤ wr.heap.size; omega))) : Below B wr w2).alloc (by have := HB2.out.size; omega) _).grown hg3 (by have := HB2.out.size; simp; omega) (fun j hj => Nat.le_trans hB (HO2.out.low j hj).1)))
          clear hHeld hS hb2 cx hg3
          go_wp2
          go_roundw
          case rel =>
            refine ⟨[], Bl', pre ++ [h0b], step + 1, by go_num, by simp only [List.length_nil] at *; omega, by rw [List.length_append, HPL.out]; rfl, ?_, HRa.out.below HBX.out, HT.out.below HBX.out, HSUBa.out, fun q hq => HSUBb.out (List.mem_cons_of_mem _ hq), hown3, HB3.out⟩
            rw [HW.out, HN.out]; simp
          case measure => simp [intOf]; omega
      | cons h0a A' =>
        cases Bl' with
        | nil =>
          have HN := Lib.hid (weave_a h0a A' [] ts step (.inl rfl))
          obtain ⟨x, hx, hxB, cx⟩ := RC.head HRa.out
          subst hx
          have HT := Lib.hid HRa.out.tail
          obtain ⟨tv, htv⟩ : ∃ tv, tv = sliced (some x) 1 (h0a :: A').length ca 1 := ⟨_, rfl⟩
          have hsl : ∀ u : World, (Instr.slice 25 (.slice (some x) (h0a :: A').length ca) (some (.int .i64 1)) none none).run Try.prog u = .ok tv u := fun u => by rw [htv]; exact slice_one u x (h0a :: A').length ca (by simp)
          rw [← htv] at HT
          clear htv
          have hms : h0a.size ≤ 1048576 := HSZ.out h0a (HSUBa.out (List.mem_cons_self ..))
          have hxw : x.block < wr.heap.size := by have := HB.out.size; omega
          simp only [List.length_cons] at *
          go_wp2
          have hS := cx
          refine wp_region_held_drew (S := (fun wx => wx.cell? x = some (.string h0a))) (by kernel_rfl) hS (fun hHeld => ?_)
          refine wpAnyH_take (i := 0) (v := ?_) rfl (by kernel_rfl) (by kernel_rfl) (by kernel_rfl) (fun _ _ _ h => h) (Or.inl ⟨by rfl, ?_⟩) (by assumption) ?_
          rotate_left
          · intro wq hSw
            (try dsimp only at hSw)
            (try simp only [List.getElem_toArray, List.getElem_cons_zero])
            go_simp
            (try with_reducible rfl)
          simp only [Act.put, List.getElem_toArray, List.getElem_cons_zero, List.setIfInBounds_toArray, List.set_cons_zero, List.set_cons_succ]
          refine wpAnyH_take (i := 1) (v := ?_) rfl (by kernel_rfl) (by kernel_rfl) (by kernel_rfl) (fun _ _ _ h => h) (Or.inl ⟨by rfl, ?_⟩) (by assumption) ?_
          rotate_left
          · intro wq hSw
            (try dsimp only at hSw)
            (try simp only [List.getElem_toArray, List.getElem_cons_succ, List.getElem_cons_zero])
            go_simp
            (try with_reducible rfl)
          simp only [Act.put, List.getElem_toArray, List.getElem_cons_succ, List.getElem_cons_zero, List.setIfInBounds_toArray, List.set_cons_zero, List.set_cons_succ]
          refine wpAnyH_take (i := 2) (v := ?_) rfl (by kernel_rfl) (by kernel_rfl) (by kernel_rfl) (fun _ _ _ h => h) (Or.inl ⟨by rfl, ?_⟩) (by assumption) ?_
          rotate_left
          · intro wq hSw
            (try dsimp only at hSw)
            (try simp only [List.getElem_toArray, List.getElem_cons_succ, List.getElem_cons_zero])
            go_simp
            (try with_reducible rfl)
          simp only [Act.put, List.getElem_toArray, List.getElem_cons_succ, List.getElem_cons_zero, List.setIfInBounds_toArray, List.set_cons_zero, List.set_cons_succ]
          refine wpAnyH_take (i := 3) (v := ?_) rfl (by kernel_rfl) (by kernel_rfl) (by kernel_rfl) (fun _ _ _ h => h) (Or.inl ⟨by rfl, ?_⟩) (by assumption) ?_
          rotate_left
          · intro wq hSw
            (try dsimp only at hSw)
            (try simp only [List.getElem_toArray, List.getElem_cons_succ, List.getElem_cons_zero])
            go_simp
            (try with_reducible rfl)
          simp only [Act.put, List.getElem_toArray, List.getElem_cons_succ, List.getElem_cons_zero, List.setIfInBounds_toArray, List.set_cons_zero, List.set_cons_succ]
          refine wpAnyH_take (i := 7) (v := ?_) rfl (by kernel_rfl) (by kernel_rfl) (by kernel_rfl) (fun _ _ _ h => h) (Or.inl ⟨by rfl, ?_⟩) (by assumption) ?_
          rotate_left
          · intro wq hSw
            (try dsimp only at hSw)
            (try simp only [List.getElem_toArray, List.getElem_cons_succ, List.getElem_cons_zero])
            go_simp
            (try with_reducible rfl)
          simp only [Act.put, List.getElem_toArray, List.getElem_cons_succ, List.getElem_cons_zero, List.setIfInBounds_toArray, List.set_cons_zero, List.set_cons_succ]
          refine wpAnyH_take (i := 8) (v := ?_) rfl (by kernel_rfl) (by kernel_rfl) (by kernel_rfl) (fun _ _ _ h => h) (Or.inl ⟨by rfl, ?_⟩) (by assumption) ?_
          rotate_left
          · intro wq hSw
            (try dsimp only at hSw)
            (try simp only [List.getElem_toArray, List.getElem_cons_succ, List.getElem_cons_zero])
            go_simp
            (try with_reducible rfl)
          simp only [Act.put, List.getElem_toArray, List.getElem_cons_succ, List.getElem_cons_zero, List.setIfInBounds_toArray, List.set_cons_zero, List.set_cons_succ]
          refine wpAnyH_ready (rs := [4]) (by kernel_rfl) (by simp) ?_
          refine AllReadyH.cons rfl (fun K hK => ?_) AllReadyH.nil
          (try simp only [List.getElem_toArray, List.getElem_cons_succ, List.getElem_cons_zero])
          go_simp
          go_at_call 56
          refine (clone_any h0a _ (by omega)).mono ?_
          rintro e w2 ⟨rfl, hb2⟩
          have HB2 := Lib.hid (HB.out.drew.trans (hb2.mono HB.out.size))
          have HO2 := Lib.hid (HO.out.drew.below hb2)
          have hS := (hb2.cell (p := x) hxw).trans cx
          have hxw2 : x.block < w2.heap.size := (Nat.lt_of_lt_of_le hxw hb2.size)
          refine hK.out _ _ hS (fun hHeld => ?_)
          clear hK K
          refine wpAnyH_ready (rs := [5]) (by kernel_rfl) (by simp) ?_
          refine AllReadyH.cons rfl (fun K hK => ?_) AllReadyH.nil
          (try simp only [List.getElem_toArray, List.getElem_cons_succ, List.getElem_cons_zero])
          skip
          go_simp
          have hS := (((Below.refl _ w2).alloc (Nat.le_refl _) (.cells #[.string h0a] 9)).cell (p := x) hxw2).trans hS
          refine hK.out _ _ hS (fun hHeld => ?_)
          clear hK K
          refine wpAnyH_ready (rs := [6]) (by kernel_rfl) (by simp) ?_
          refine AllReadyH.cons rfl (fun K hK => ?_) AllReadyH.nil
          (try simp only [List.getElem_toArray, List.getElem_cons_succ, List.getElem_cons_zero])
          rw [if_pos (by rfl)]
          refine opwp_append_os2 _ _ 25 rfl w.heap.size i0 Try.underlying25 HI.out HZ0.out HZ1.out HZ2.out _ _ rfl (HO2.out.alloc _) _ _ [h0a] rfl (RS_one w2 h0a) (by have := HPL.out; simp only [List.length_singleton]; omega) (by have := HB2.out.size; simp; omega) ?_
          intro v3 w3 hown3 hg3
          have hS := hg3.cell hS (fun e => by have := (HO2.out.low x.block e.symm).1; omega)
          refine hK.out _ _ hS (fun hHeld => ?_)
          clear hK K
          simp only [Act.put, List.setIfInBounds_toArray, List.set_cons_zero, List.set_cons_succ]
          refine wpAnyH_take (i := 9) (v := ?_) rfl (by kernel_rfl) (by kernel_rfl) (by kernel_rfl) (fun _ _ _ h => h) (Or.inl ⟨by rfl, ?_⟩) (by assumption) ?_
          rotate_left
          · intro wq hSw
            (try dsimp only at hSw)
            (try simp only [List.getElem_toArray, List.getElem_cons_succ, List.getElem_cons_zero])
            go_simp
            (try with_reducible rfl)
          simp only [Act.put, List.getElem_toArray, List.getElem_cons_succ, List.getElem_cons_zero, List.setIfInBounds_toArray, List.set_cons_zero, List.set_cons_succ]
          refine wpAnyH_take (i := 10) (v := ?_) rfl (by kernel_rfl) (by kernel_rfl) (by kernel_rfl) (fun _ _ _ h => h) (Or.inl ⟨by rfl, ?_⟩) (by assumption) ?_
          rotate_left
          · intro wq hSw
            (try dsimp only at hSw)
            (try simp only [List.getElem_toArray, List.getElem_cons_succ, List.getElem_cons_zero])
            go_simp
            (try with_reducible rfl)
          simp only [Act.put, List.getElem_toArray, List.getElem_cons_succ, List.getElem_cons_zero, List.setIfInBounds_toArray, List.set_cons_zero]
          refine wpAnyH_done (by kernel_rfl) ?_ _
          have HB3 := Lib.hid ((HB2.out.alloc HB2.out.size _).grown hg3 (by have := HB2.out.size; simp; omega) (fun j hj => (HO2.out.low j hj).1))
          have HBX := Lib.hid (show Below B wr w3 from (((((Below.refl B wr).drew.trans (hb2.mono (show B ≤ wr.drew.heap.size by have := HB.out.size; show B ≤ wr.heap.size; omega))) : Below B wr w2).alloc (by have := HB2.out.size; omega) _).grown hg3 (by have := HB2.out.size; simp; omega) (fun j hj => Nat.le_trans hB (HO2.out.low j hj).1)))
          clear hHeld hS hb2 cx hg3
          go_wp2
          go_roundw
          case rel =>
            refine ⟨A', [], pre ++ [h0a], step + 1, by go_num, by simp only [List.length_nil] at *; omega, by rw [List.length_append, HPL.out]; rfl, ?_, HT.out.below HBX.out, HRb.out.below HBX.out, fun q hq => HSUBa.out (List.mem_cons_of_mem _ hq), HSUBb.out, hown3, HB3.out⟩
            rw [HW.out, HN.out]; simp
          case measure => simp [intOf]; omega
        | cons h0b Bl' =>
          have HN := Lib.hid (weave_b h0b (h0a :: A') Bl' ts step (.inr (by rw [HTN.out]; decide)))
          obtain ⟨x, hx, hxB, cx⟩ := RC.head HRb.out
          subst hx
          have HT := Lib.hid HRb.out.tail
          obtain ⟨tv, htv⟩ : ∃ tv, tv = sliced (some x) 1 (h0b :: Bl').length cb 1 := ⟨_, rfl⟩
          have hsl : ∀ u : World, (Instr.slice 25 (.slice (some x) (h0b :: Bl').length cb) (some (.int .i64 1)) none none).run Try.prog u = .ok tv u := fun u => by rw [htv]; exact slice_one u x (h0b :: Bl').length cb (by simp)
          rw [← htv] at HT
          clear htv
          have hms : h0b.size ≤ 1048576 := HSZ.out h0b (HSUBb.out (List.mem_cons_self ..))
          have hxw : x.block < wr.heap.size := by have := HB.out.size; omega
          simp only [List.length_cons] at *
          go_wp2
          have hS := cx
          refine wp_region_held_drew (S := (fun wx => wx.cell? x = some (.string h0b))) (by kernel_rfl) hS (fun hHeld => ?_)
          refine wpAnyH_take (i := 0) (v := ?_) rfl (by kernel_rfl) (by kernel_rfl) (by kernel_rfl) (fun _ _ _ h => h) (Or.inl ⟨by rfl, ?_⟩) (by assumption) ?_
          rotate_left
          · intro wq hSw
            (try dsimp only at hSw)
            (try simp only [List.getElem_toArray, List.getElem_cons_zero])
            go_simp
            (try with_reducible rfl)
          simp only [Act.put, List.getElem_toArray, List.getElem_cons_zero, List.setIfInBounds_toArray, List.set_cons_zero, List.set_cons_succ]
          refine wpAnyH_take (i := 1) (v := ?_) rfl (by kernel_rfl) (by kernel_rfl) (by kernel_rfl) (fun _ _ _ h => h) (Or.inl ⟨by rfl, ?_⟩) (by assumption) ?_
          rotate_left
          · intro wq hSw
            (try dsimp only at hSw)
            (try simp only [List.getElem_toArray, List.getElem_cons_succ, List.getElem_cons_zero])
            go_simp
            (try with_reducible rfl)
          simp only [Act.put, List.getElem_toArray, List.getElem_cons_succ, List.getElem_cons_zero, List.setIfInBounds_toArray, List.set_cons_zero, List.set_cons_succ]
          refine wpAnyH_take (i := 2) (v := ?_) rfl (by kernel_rfl) (by kernel_rfl) (by kernel_rfl) (fun _ _ _ h => h) (Or.inl ⟨by rfl, ?_⟩) (by assumption) ?_
          rotate_left
          · intro wq hSw
            (try dsimp only at hSw)
            (try simp only [List.getElem_toArray, List.getElem_cons_succ, List.getElem_cons_zero])
            go_simp
            (try with_reducible rfl)
          simp only [Act.put, List.getElem_toArray, List.getElem_cons_succ, List.getElem_cons_zero, List.setIfInBounds_toArray, List.set_cons_zero, List.set_cons_succ]
          refine wpAnyH_take (i := 3) (v := ?_) rfl (by kernel_rfl) (by kernel_rfl) (by kernel_rfl) (fun _ _ _ h => h) (Or.inl ⟨by rfl, ?_⟩) (by assumption) ?_
          rotate_left
          · intro wq hSw
            (try dsimp only at hSw)
            (try simp only [List.getElem_toArray, List.getElem_cons_succ, List.getElem_cons_zero])
            go_simp
            (try with_reducible rfl)
          simp only [Act.put, List.getElem_toArray, List.getElem_cons_succ, List.getElem_cons_zero, List.setIfInBounds_toArray, List.set_cons_zero, List.set_cons_succ]
          refine wpAnyH_take (i := 7) (v := ?_) rfl (by kernel_rfl) (by kernel_rfl) (by kernel_rfl) (fun _ _ _ h => h) (Or.inl ⟨by rfl, ?_⟩) (by assumption) ?_
          rotate_left
          · intro wq hSw
            (try dsimp only at hSw)
            (try simp only [List.getElem_toArray, List.getElem_cons_succ, List.getElem_cons_zero])
            go_simp
            (try with_reducible rfl)
          simp only [Act.put, List.getElem_toArray, List.getElem_cons_succ, List.getElem_cons_zero, List.setIfInBounds_toArray, List.set_cons_zero, List.set_cons_succ]
          refine wpAnyH_take (i := 8) (v := ?_) rfl (by kernel_rfl) (by kernel_rfl) (by kernel_rfl) (fun _ _ _ h => h) (Or.inl ⟨by rfl, ?_⟩) (by assumption) ?_
          rotate_left
          · intro wq hSw
            (try dsimp only at hSw)
            (try simp only [List.getElem_toArray, List.getElem_cons_succ, List.getElem_cons_zero])
            go_simp
            (try with_reducible rfl)
          simp only [Act.put, List.getElem_toArray, List.getElem_cons_succ, List.getElem_cons_zero, List.setIfInBounds_toArray, List.set_cons_zero, List.set_cons_succ]
          refine wpAnyH_ready (rs := [4]) (by kernel_rfl) (by simp) ?_
          refine AllReadyH.cons rfl (fun K hK => ?_) AllReadyH.nil
          (try simp only [List.getElem_toArray, List.getElem_cons_succ, List.getElem_cons_zero])
          go_simp
          go_at_call 56
          refine (clone_any h0b _ (by omega)).mono ?_
          rintro e w2 ⟨rfl, hb2⟩
          have HB2 := Lib.hid (HB.out.drew.trans (hb2.mono HB.out.size))
          have HO2 := Lib.hid (HO.out.drew.below hb2)
          have hS := (hb2.cell (p := x) hxw).trans cx
          have hxw2 : x.block < w2.heap.size := (Nat.lt_of_lt_of_le hxw hb2.size)
          refine hK.out _ _ hS (fun hHeld => ?_)
          clear hK K
          refine wpAnyH_ready (rs := [5]) (by kernel_rfl) (by simp) ?_
          refine AllReadyH.cons rfl (fun K hK => ?_) AllReadyH.nil
          (try simp only [List.getElem_toArray, List.getElem_cons_succ, List.getElem_cons_zero])
          skip
          go_simp
          have hS := (((Below.refl _ w2).alloc (Nat.le_refl _) (.cells #[.string h0b] 9)).cell (p := x) hxw2).trans hS
          refine hK.out _ _ hS (fun hHeld => ?_)
          clear hK K
          refine wpAnyH_ready (rs := [6]) (by kernel_rfl) (by simp) ?_
          refine AllReadyH.cons rfl (fun K hK => ?_) AllReadyH.nil
          (try simp only [List.getElem_toArray, List.getElem_cons_succ, List.getElem_cons_zero])
          rw [if_pos (by rfl)]
          refine opwp_append_os2 _ _ 25 rfl w.heap.size i0 Try.underlying25 HI.out HZ0.out HZ1.out HZ2.out _ _ rfl (HO2.out.alloc _) _ _ [h0b] rfl (RS_one w2 h0b) (by have := HPL.out; simp only [List.length_singleton]; omega) (by have := HB2.out.size; simp; omega) ?_
          intro v3 w3 hown3 hg3
          have hS := hg3.cell hS (fun e => by have := (HO2.out.low x.block e.symm).1; omega)
          refine hK.out _ _ hS (fun hHeld => ?_)
          clear hK K
          simp only [Act.put, List.setIfInBounds_toArray, List.set_cons_zero, List.set_cons_succ]
          refine wpAnyH_take (i := 9) (v := ?_) rfl (by kernel_rfl) (by kernel_rfl) (by kernel_rfl) (fun _ _ _ h => h) (Or.inl ⟨by rfl, ?_⟩) (by assumption) ?_
          rotate_left
          · intro wq hSw
            (try dsimp only at hSw)
            (try simp only [List.getElem_toArray, List.getElem_cons_succ, List.getElem_cons_zero])
            go_simp
            (try with_reducible rfl)
          simp only [Act.put, List.getElem_toArray, List.getElem_cons_succ, List.getElem_cons_zero, List.setIfInBounds_toArray, List.set_cons_zero, List.set_cons_succ]
          refine wpAnyH_take (i := 10) (v := ?_) rfl (by kernel_rfl) (by kernel_rfl) (by kernel_rfl) (fun _ _ _ h => h) (Or.inl ⟨by rfl, ?_⟩) (by assumption) ?_
          rotate_left
          · intro wq hSw
            (try dsimp only at hSw)
            (try simp only [List.getElem_toArray, List.getElem_cons_succ, List.getElem_cons_zero])
            go_simp
            (try with_reducible rfl)
          simp only [Act.put, List.getElem_toArray, List.getElem_cons_succ, List.getElem_cons_zero, List.setIfInBounds_toArray, List.set_cons_zero, List.set_cons_succ]
          refine wpAnyH_done (by kernel_rfl) ?_ _
          have HB3 := Lib.hid ((HB2.out.alloc HB2.out.size _).grown hg3 (by have := HB2.out.size; simp; omega) (fun j hj => (HO2.out.low j hj).1))
          have HBX := Lib.hid (show Below B wr w3 from (((((Below.refl B wr).drew.trans (hb2.mono (show B ≤ wr.drew.heap.size by have := HB.out.size; show B ≤ wr.heap.size; omega))) : Below B wr w2).alloc (by have := HB2.out.size; omega) _).grown hg3 (by have := HB2.out.size; simp; omega) (fun j hj => Nat.le_trans hB (HO2.out.low j hj).1)))
          clear hHeld hS hb2 cx hg3
          go_wp2
          go_roundw
          case rel =>
            refine ⟨(h0a :: A'), Bl', pre ++ [h0b], step + 1, by go_num, by simp only [List.length_cons] at *; omega, by rw [List.length_append, HPL.out]; rfl, ?_, HRa.out.below HBX.out, HT.out.below HBX.out, HSUBa.out, fun q hq => HSUBb.out (List.mem_cons_of_mem _ hq), hown3, HB3.out⟩
            rw [HW.out, HN.out]; simp
          case measure => simp [intOf]; omega
set_option maxRecDepth 100000 in
set_option maxHeartbeats 8000000 in
theorem specWeave_any (va vb vt : Value) (A Bl : List ByteArray) (ts : List Bool) (w : World) (B : Nat) (ha : RC w B va A) (hb : RC w B vb Bl) (ht : RO w B vt ts) (hB : B ≤ w.heap.size) (hla : A.length ≤ 1048576) (hlb : Bl.length ≤ 1048576) (hlt : ts.length ≤ 1048576)
    (hsa : ∀ q ∈ A ++ Bl, q.size ≤ 1048576) : Calls Try.prog 27 #[va, vb, vt] w (WvPost w (weaveL A Bl ts 0)) := by
  obtain ⟨i0, hi, hz0, hz1, hz2⟩ := info_parts info_str
  have HI := Lib.hid hi
  have HZ0 := Lib.hid hz0
  have HZ1 := Lib.hid hz1
  have HZ2 := Lib.hid hz2
  obtain ⟨ta, tc, rfl⟩ := ht.shape
  have HRA := Lib.hid ha
  have HRB := Lib.hid hb
  have HRT := Lib.hid ht
  have HSZ := Lib.hid hsa
  have hsha := ha.shape
  have hshb := hb.shape
  obtain ⟨aa, ca, rfl, hca⟩ := hsha
  obtain ⟨ab, cb, rfl, hcb⟩ := hshb
  clear hi hz0 hz1 hz2 ha hb ht hsa
  go_enter Try.func27, Try.ntmps27
  go_wp2
  go_loopw [0, 1, 7, 8] (fun xa xb out st wr => ∃ (A' Bl' pre : List ByteArray) (step : Nat), st = .int .i64 step ∧ A'.length + Bl'.length + step = A.length + Bl.length ∧ pre.length = step ∧ weaveL A Bl ts 0 = pre ++ weaveL A' Bl' ts step ∧ RC wr B xa A' ∧ RC wr B xb Bl' ∧ A' ⊆ A ++ Bl ∧ Bl' ⊆ A ++ Bl ∧ OS wr w.heap.size out pre ∧ Below w.heap.size w wr) (fun _ _ _ st _ => A.length + Bl.length - (intOf st).toNat)
  case atStart => exact ⟨A, Bl, [], 0, rfl, by simp, rfl, rfl, HRA.out.below ((Below.refl _ _).alloc hB _), HRB.out.below ((Below.refl _ _).alloc hB _), fun q hq => by simp [hq], fun q hq => by simp [hq], OS_made w rfl, (Below.refl _ _).alloc (Nat.le_refl _) _⟩
  case round =>
    obtain ⟨A', Bl', pre, step, rfl, hsum, hpl, hw, hra, hrb, hsua, hsub, hown, hbel⟩ := hrel
    have HW := Lib.hid hw
    have HRa := Lib.hid hra
    have HRb := Lib.hid hrb
    have HSUBa := Lib.hid hsua
    have HSUBb := Lib.hid hsub
    have HO := Lib.hid hown
    have HB := Lib.hid hbel
    have HPL := Lib.hid hpl
    have HT2 := Lib.hid (HRT.out.below (hbel.mono hB))
    obtain ⟨xaa, ca, rfl, hca⟩ := hra.shape
    obtain ⟨xab, cb, rfl, hcb⟩ := hrb.shape
    clear hw hra hrb hsua hsub hown hbel hpl
    by_cases hmore : A'.length + Bl'.length = 0
    · have eA : A' = [] := List.eq_nil_of_length_eq_zero (by omega)
      have eB : Bl' = [] := List.eq_nil_of_length_eq_zero (by omega)
      subst eA eB
      have HE := Lib.hid (show weaveL A Bl ts 0 = pre by rw [HW.out, weaveL]; simp)
      have hst : (step : Int) = (A.length : Int) + (Bl.length : Int) := by simp at hsum; omega
      have hst2 : step = A.length + Bl.length := by simp at hsum; omega
      clear hsum
      go_wp2
      go_ret
      exact ⟨⟨_, rfl, by rw [HE.out]; exact HO.out⟩, HB.out⟩
    by_cases hts : step < ts.length
    case neg =>
      have HTN := Lib.hid (show ts.getD step false = false by rw [List.getD, List.getElem?_eq_none (by omega)]; rfl)
      cases A' with
      | nil =>
        cases Bl' with
        | nil => simp at hmore
        | cons h0b Bl' =>
          have HN := Lib.hid (weave_b h0b [] Bl' ts step (.inl rfl))
          obtain ⟨x, hx, hxB, cx⟩ := RC.head HRb.out
          subst hx
          have HT := Lib.hid HRb.out.tail
          obtain ⟨tv, htv⟩ : ∃ tv, tv = sliced (some x) 1 (h0b :: Bl').length cb 1 := ⟨_, rfl⟩
          have hsl : ∀ u : World, (Instr.slice 25 (.slice (some x) (h0b :: Bl').length cb) (some (.int .i64 1)) none none).run Try.prog u = .ok tv u := fun u => by rw [htv]; exact slice_one u x (h0b :: Bl').length cb (by simp)
          rw [← htv] at HT
          clear htv
          have hms : h0b.size ≤ 1048576 := HSZ.out h0b (HSUBb.out (List.mem_cons_self ..))
          have hxw : x.block < wr.heap.size := by have := HB.out.size; omega
          simp only [List.length_cons] at *
          go_wp2_with (at_builtin; refine wpList_append_os _ rfl _ _ 25 rfl w.heap.size i0 Try.underlying25 HI.out HZ0.out HZ1.out HZ2.out _ _ rfl (HO.out.alloc _) _ _ [h0b] rfl (RS_one wr h0b) (by have := HPL.out; simp only [List.length_singleton]; omega) (by have := HB.out.size; simp; omega) ?_; intro v3 w3 hown3 hg3 _)
          have HB3 := Lib.hid ((HB.out.alloc HB.out.size _).grown hg3 (by have := HB.out.size; simp; omega) (fun j hj => (HO.out.low j hj).1))
          have HBX := Lib.hid (show Below B wr w3 from (((Below.refl B wr).alloc (by have := HB.out.size; omega) _).grown hg3 (by have := HB.out.size; simp; omega) (fun j hj => Nat.le_trans hB (HO.out.low j hj).1)))
          clear cx hg3
          go_roundw
          case rel =>
            refine ⟨[], Bl', pre ++ [h0b], step + 1, by go_num, by simp only [List.length_nil] at *; omega, by rw [List.length_append, HPL.out]; rfl, ?_, HRa.out.below HBX.out, HT.out.below HBX.out, HSUBa.out, fun q hq => HSUBb.out (List.mem_cons_of_mem _ hq), hown3, HB3.out⟩
            rw [HW.out, HN.out]; simp
          case measure => simp [intOf]; omega
      | cons h0a A' =>
        cases Bl' with
        | nil =>
          have HN := Lib.hid (weave_a h0a A' [] ts step (.inl rfl))
          obtain ⟨x, hx, hxB, cx⟩ := RC.head HRa.out
          subst hx
          have HT := Lib.hid HRa.out.tail
          obtain ⟨tv, htv⟩ : ∃ tv, tv = sliced (some x) 1 (h0a :: A').length ca 1 := ⟨_, rfl⟩
          have hsl : ∀ u : World, (Instr.slice 25 (.slice (some x) (h0a :: A').length ca) (some (.int .i64 1)) none none).run Try.prog u = .ok tv u := fun u => by rw [htv]; exact slice_one u x (h0a :: A').length ca (by simp)
          rw [← htv] at HT
          clear htv
          have hms : h0a.size ≤ 1048576 := HSZ.out h0a (HSUBa.out (List.mem_cons_self ..))
          have hxw : x.block < wr.heap.size := by have := HB.out.size; omega
          simp only [List.length_cons] at *
          go_wp2_with (at_builtin; refine wpList_append_os _ rfl _ _ 25 rfl w.heap.size i0 Try.underlying25 HI.out HZ0.out HZ1.out HZ2.out _ _ rfl (HO.out.alloc _) _ _ [h0a] rfl (RS_one wr h0a) (by have := HPL.out; simp only [List.length_singleton]; omega) (by have := HB.out.size; simp; omega) ?_; intro v3 w3 hown3 hg3 _)
          have HB3 := Lib.hid ((HB.out.alloc HB.out.size _).grown hg3 (by have := HB.out.size; simp; omega) (fun j hj => (HO.out.low j hj).1))
          have HBX := Lib.hid (show Below B wr w3 from (((Below.refl B wr).alloc (by have := HB.out.size; omega) _).grown hg3 (by have := HB.out.size; simp; omega) (fun j hj => Nat.le_trans hB (HO.out.low j hj).1)))
          clear cx hg3
          go_roundw
          case rel =>
            refine ⟨A', [], pre ++ [h0a], step + 1, by go_num, by simp only [List.length_nil] at *; omega, by rw [List.length_append, HPL.out]; rfl, ?_, HT.out.below HBX.out, HRb.out.below HBX.out, fun q hq => HSUBa.out (List.mem_cons_of_mem _ hq), HSUBb.out, hown3, HB3.out⟩
            rw [HW.out, HN.out]; simp
          case measure => simp [intOf]; omega
        | cons h0b Bl' =>
          have HN := Lib.hid (weave_b h0b (h0a :: A') Bl' ts step (.inr (by rw [HTN.out]; decide)))
          obtain ⟨x, hx, hxB, cx⟩ := RC.head HRb.out
          subst hx
          have HT := Lib.hid HRb.out.tail
          obtain ⟨tv, htv⟩ : ∃ tv, tv = sliced (some x) 1 (h0b :: Bl').length cb 1 := ⟨_, rfl⟩
          have hsl : ∀ u : World, (Instr.slice 25 (.slice (some x) (h0b :: Bl').length cb) (some (.int .i64 1)) none none).run Try.prog u = .ok tv u := fun u => by rw [htv]; exact slice_one u x (h0b :: Bl').length cb (by simp)
          rw [← htv] at HT
          clear htv
          have hms : h0b.size ≤ 1048576 := HSZ.out h0b (HSUBb.out (List.mem_cons_self ..))
          have hxw : x.block < wr.heap.size := by have := HB.out.size; omega
          simp only [List.length_cons] at *
          go_wp2_with (at_builtin; refine wpList_append_os _ rfl _ _ 25 rfl w.heap.size i0 Try.underlying25 HI.out HZ0.out HZ1.out HZ2.out _ _ rfl (HO.out.alloc _) _ _ [h0b] rfl (RS_one wr h0b) (by have := HPL.out; simp only [List.length_singleton]; omega) (by have := HB.out.size; simp; omega) ?_; intro v3 w3 hown3 hg3 _)
          have HB3 := Lib.hid ((HB.out.alloc HB.out.size _).grown hg3 (by have := HB.out.size; simp; omega) (fun j hj => (HO.out.low j hj).1))
          have HBX := Lib.hid (show Below B wr w3 from (((Below.refl B wr).alloc (by have := HB.out.size; omega) _).grown hg3 (by have := HB.out.size; simp; omega) (fun j hj => Nat.le_trans hB (HO.out.low j hj).1)))
          clear cx hg3
          go_roundw
          case rel =>
            refine ⟨(h0a :: A'), Bl', pre ++ [h0b], step + 1, by go_num, by simp only [List.length_cons] at *; omega, by rw [List.length_append, HPL.out]; rfl, ?_, HRa.out.below HBX.out, HT.out.below HBX.out, HSUBa.out, fun q hq => HSUBb.out (List.mem_cons_of_mem _ hq), hown3, HB3.out⟩
            rw [HW.out, HN.out]; simp
          case measure => simp [intOf]; omega
    obtain ⟨xt, hxt, _, ct⟩ := HT2.out.at_ hts
    subst hxt
    have htsi : (step : Int) < (ts.length : Int) := by omega
    cases htv : ts[step] with
    | true =>
      have HTN := Lib.hid (show ts.getD step false = true by rw [List.getD, List.getElem?_eq_getElem hts, htv]; rfl)
      rw [htv] at ct
      clear htv
      cases A' with
      | nil =>
        cases Bl' with
        | nil => simp at hmore
        | cons h0b Bl' =>
          have HN := Lib.hid (weave_b h0b [] Bl' ts step (.inl rfl))
          obtain ⟨x, hx, hxB, cx⟩ := RC.head HRb.out
          subst hx
          have HT := Lib.hid HRb.out.tail
          obtain ⟨tv, htv⟩ : ∃ tv, tv = sliced (some x) 1 (h0b :: Bl').length cb 1 := ⟨_, rfl⟩
          have hsl : ∀ u : World, (Instr.slice 25 (.slice (some x) (h0b :: Bl').length cb) (some (.int .i64 1)) none none).run Try.prog u = .ok tv u := fun u => by rw [htv]; exact slice_one u x (h0b :: Bl').length cb (by simp)
          rw [← htv] at HT
          clear htv
          have hms : h0b.size ≤ 1048576 := HSZ.out h0b (HSUBb.out (List.mem_cons_self ..))
          have hxw : x.block < wr.heap.size := by have := HB.out.size; omega
          simp only [List.length_cons] at *
          go_wp2_with (at_builtin; refine wpList_append_os _ rfl _ _ 25 rfl w.heap.size i0 Try.underlying25 HI.out HZ0.out HZ1.out HZ2.out _ _ rfl (HO.out.alloc _) _ _ [h0b] rfl (RS_one wr h0b) (by have := HPL.out; simp only [List.length_singleton]; omega) (by have := HB.out.size; simp; omega) ?_; intro v3 w3 hown3 hg3 _)
          have HB3 := Lib.hid ((HB.out.alloc HB.out.size _).grown hg3 (by have := HB.out.size; simp; omega) (fun j hj => (HO.out.low j hj).1))
          have HBX := Lib.hid (show Below B wr w3 from (((Below.refl B wr).alloc (by have := HB.out.size; omega) _).grown hg3 (by have := HB.out.size; simp; omega) (fun j hj => Nat.le_trans hB (HO.out.low j hj).1)))
          clear cx hg3
          go_roundw
          case rel =>
            refine ⟨[], Bl', pre ++ [h0b], step + 1, by go_num, by simp only [List.length_nil] at *; omega, by rw [List.length_append, HPL.out]; rfl, ?_, HRa.out.below HBX.out, HT.out.below HBX.out, HSUBa.out, fun q hq => HSUBb.out (List.mem_cons_of_mem _ hq), hown3, HB3.out⟩
            rw [HW.out, HN.out]; simp
          case measure => simp [intOf]; omega
      | cons h0a A' =>
        cases Bl' with
        | nil =>
          have HN := Lib.hid (weave_a h0a A' [] ts step (.inl rfl))
          obtain ⟨x, hx, hxB, cx⟩ := RC.head HRa.out
          subst hx
          have HT := Lib.hid HRa.out.tail
          obtain ⟨tv, htv⟩ : ∃ tv, tv = sliced (some x) 1 (h0a :: A').length ca 1 := ⟨_, rfl⟩
          have hsl : ∀ u : World, (Instr.slice 25 (.slice (some x) (h0a :: A').length ca) (some (.int .i64 1)) none none).run Try.prog u = .ok tv u := fun u => by rw [htv]; exact slice_one u x (h0a :: A').length ca (by simp)
          rw [← htv] at HT
          clear htv
          have hms : h0a.size ≤ 1048576 := HSZ.out h0a (HSUBa.out (List.mem_cons_self ..))
          have hxw : x.block < wr.heap.size := by have := HB.out.size; omega
          simp only [List.length_cons] at *
          go_wp2_with (at_builtin; refine wpList_append_os _ rfl _ _ 25 rfl w.heap.size i0 Try.underlying25 HI.out HZ0.out HZ1.out HZ2.out _ _ rfl (HO.out.alloc _) _ _ [h0a] rfl (RS_one wr h0a) (by have := HPL.out; simp only [List.length_singleton]; omega) (by have := HB.out.size; simp; omega) ?_; intro v3 w3 hown3 hg3 _)
          have HB3 := Lib.hid ((HB.out.alloc HB.out.size _).grown hg3 (by have := HB.out.size; simp; omega) (fun j hj => (HO.out.low j hj).1))
          have HBX := Lib.hid (show Below B wr w3 from (((Below.refl B wr).alloc (by have := HB.out.size; omega) _).grown hg3 (by have := HB.out.size; simp; omega) (fun j hj => Nat.le_trans hB (HO.out.low j hj).1)))
          clear cx hg3
          go_roundw
          case rel =>
            refine ⟨A', [], pre ++ [h0a], step + 1, by go_num, by simp only [List.length_nil] at *; omega, by rw [List.length_append, HPL.out]; rfl, ?_, HT.out.below HBX.out, HRb.out.below HBX.out, fun q hq => HSUBa.out (List.mem_cons_of_mem _ hq), HSUBb.out, hown3, HB3.out⟩
            rw [HW.out, HN.out]; simp
          case measure => simp [intOf]; omega
        | cons h0b Bl' =>
          have HN := Lib.hid (weave_a h0a A' (h0b :: Bl') ts step (.inr HTN.out))
          obtain ⟨x, hx, hxB, cx⟩ := RC.head HRa.out
          subst hx
          have HT := Lib.hid HRa.out.tail
          obtain ⟨tv, htv⟩ : ∃ tv, tv = sliced (some x) 1 (h0a :: A').length ca 1 := ⟨_, rfl⟩
          have hsl : ∀ u : World, (Instr.slice 25 (.slice (some x) (h0a :: A').length ca) (some (.int .i64 1)) none none).run Try.prog u = .ok tv u := fun u => by rw [htv]; exact slice_one u x (h0a :: A').length ca (by simp)
          rw [← htv] at HT
          clear htv
          have hms : h0a.size ≤ 1048576 := HSZ.out h0a (HSUBa.out (List.mem_cons_self ..))
          have hxw : x.block < wr.heap.size := by have := HB.out.size; omega
          simp only [List.length_cons] at *
          go_wp2_with (at_builtin; refine wpList_append_os _ rfl _ _ 25 rfl w.heap.size i0 Try.underlying25 HI.out HZ0.out HZ1.out HZ2.out _ _ rfl (HO.out.alloc _) _ _ [h0a] rfl (RS_one wr h0a) (by have := HPL.out; simp only [List.length_singleton]; omega) (by have := HB.out.size; simp; omega) ?_; intro v3 w3 hown3 hg3 _)
          have HB3 := Lib.hid ((HB.out.alloc HB.out.size _).grown hg3 (by have := HB.out.size; simp; omega) (fun j hj => (HO.out.low j hj).1))
          have HBX := Lib.hid (show Below B wr w3 from (((Below.refl B wr).alloc (by have := HB.out.size; omega) _).grown hg3 (by have := HB.out.size; simp; omega) (fun j hj => Nat.le_trans hB (HO.out.low j hj).1)))
          clear cx hg3
          go_roundw
          case rel =>
            refine ⟨A', (h0b :: Bl'), pre ++ [h0a], step + 1, by go_num, by simp only [List.length_cons] at *; omega, by rw [List.length_append, HPL.out]; rfl, ?_, HT.out.below HBX.out, HRb.out.below HBX.out, fun q hq => HSUBa.out (List.mem_cons_of_mem _ hq), HSUBb.out, hown3, HB3.out⟩
            rw [HW.out, HN.out]; simp
          case measure => simp [intOf]; omega
    | false =>
      have HTN := Lib.hid (show ts.getD step false = false by rw [List.getD, List.getElem?_eq_getElem hts, htv]; rfl)
      rw [htv] at ct
      clear htv
      cases A' with
      | nil =>
        cases Bl' with
        | nil => simp at hmore
        | cons h0b Bl' =>
          have HN := Lib.hid (weave_b h0b [] Bl' ts step (.inl rfl))
          obtain ⟨x, hx, hxB, cx⟩ := RC.head HRb.out
          subst hx
          have HT := Lib.hid HRb.out.tail
          obtain ⟨tv, htv⟩ : ∃ tv, tv = sliced (some x) 1 (h0b :: Bl').length cb 1 := ⟨_, rfl⟩
          have hsl : ∀ u : World, (Instr.slice 25 (.slice (some x) (h0b :: Bl').length cb) (some (.int .i64 1)) none none).run Try.prog u = .ok tv u := fun u => by rw [htv]; exact slice_one u x (h0b :: Bl').length cb (by simp)
          rw [← htv] at HT
          clear htv
          have hms : h0b.size ≤ 1048576 := HSZ.out h0b (HSUBb.out (List.mem_cons_self ..))
          have hxw : x.block < wr.heap.size := by have := HB.out.size; omega
          simp only [List.length_cons] at *
          go_wp2_with (at_builtin; refine wpList_append_os _ rfl _ _ 25 rfl w.heap.size i0 Try.underlying25 HI.out HZ0.out HZ1.out HZ2.out _ _ rfl (HO.out.alloc _) _ _ [h0b] rfl (RS_one wr h0b) (by have := HPL.out; simp only [List.length_singleton]; omega) (by have := HB.out.size; simp; omega) ?_; intro v3 w3 hown3 hg3 _)
          have HB3 := Lib.hid ((HB.out.alloc HB.out.size _).grown hg3 (by have := HB.out.size; simp; omega) (fun j hj => (HO.out.low j hj).1))
          have HBX := Lib.hid (show Below B wr w3 from (((Below.refl B wr).alloc (by have := HB.out.size; omega) _).grown hg3 (by have := HB.out.size; simp; omega) (fun j hj => Nat.le_trans hB (HO.out.low j hj).1)))
          clear cx hg3
          go_roundw
          case rel =>
            refine ⟨[], Bl', pre ++ [h0b], step + 1, by go_num, by simp only [List.length_nil] at *; omega, by rw [List.length_append, HPL.out]; rfl, ?_, HRa.out.below HBX.out, HT.out.below HBX.out, HSUBa.out, fun q hq => HSUBb.out (List.mem_cons_of_mem _ hq), hown3, HB3.out⟩
            rw [HW.out, HN.out]; simp
          case measure => simp [intOf]; omega
      | cons h0a A' =>
        cases Bl' with
        | nil =>
          have HN := Lib.hid (weave_a h0a A' [] ts step (.inl rfl))
          obtain ⟨x, hx, hxB, cx⟩ := RC.head HRa.out
          subst hx
          have HT := Lib.hid HRa.out.tail
          obtain ⟨tv, htv⟩ : ∃ tv, tv = sliced (some x) 1 (h0a :: A').length ca 1 := ⟨_, rfl⟩
          have hsl : ∀ u : World, (Instr.slice 25 (.slice (some x) (h0a :: A').length ca) (some (.int .i64 1)) none none).run Try.prog u = .ok tv u := fun u => by rw [htv]; exact slice_one u x (h0a :: A').length ca (by simp)
          rw [← htv] at HT
          clear htv
          have hms : h0a.size ≤ 1048576 := HSZ.out h0a (HSUBa.out (List.mem_cons_self ..))
          have hxw : x.block < wr.heap.size := by have := HB.out.size; omega
          simp only [List.length_cons] at *
          go_wp2_with (at_builtin; refine wpList_append_os _ rfl _ _ 25 rfl w.heap.size i0 Try.underlying25 HI.out HZ0.out HZ1.out HZ2.out _ _ rfl (HO.out.alloc _) _ _ [h0a] rfl (RS_one wr h0a) (by have := HPL.out; simp only [List.length_singleton]; omega) (by have := HB.out.size; simp; omega) ?_; intro v3 w3 hown3 hg3 _)
          have HB3 := Lib.hid ((HB.out.alloc HB.out.size _).grown hg3 (by have := HB.out.size; simp; omega) (fun j hj => (HO.out.low j hj).1))
          have HBX := Lib.hid (show Below B wr w3 from (((Below.refl B wr).alloc (by have := HB.out.size; omega) _).grown hg3 (by have := HB.out.size; simp; omega) (fun j hj => Nat.le_trans hB (HO.out.low j hj).1)))
          clear cx hg3
          go_roundw
          case rel =>
            refine ⟨A', [], pre ++ [h0a], step + 1, by go_num, by simp only [List.length_nil] at *; omega, by rw [List.length_append, HPL.out]; rfl, ?_, HT.out.below HBX.out, HRb.out.below HBX.out, fun q hq => HSUBa.out (List.mem_cons_of_mem _ hq), HSUBb.out, hown3, HB3.out⟩
            rw [HW.out, HN.out]; simp
          case measure => simp [intOf]; omega
        | cons h0b Bl' =>
          have HN := Lib.hid (weave_b h0b (h0a :: A') Bl' ts step (.inr (by rw [HTN.out]; decide)))
          obtain ⟨x, hx, hxB, cx⟩ := RC.head HRb.out
          subst hx
          have HT := Lib.hid HRb.out.tail
          obtain ⟨tv, htv⟩ : ∃ tv, tv = sliced (some x) 1 (h0b :: Bl').length cb 1 := ⟨_, rfl⟩
          have hsl : ∀ u : World, (Instr.slice 25 (.slice (some x) (h0b :: Bl').length cb) (some (.int .i64 1)) none none).run Try.prog u = .ok tv u := fun u => by rw [htv]; exact slice_one u x (h0b :: Bl').length cb (by simp)
          rw [← htv] at HT
          clear htv
          have hms : h0b.size ≤ 1048576 := HSZ.out h0b (HSUBb.out (List.mem_cons_self ..))
          have hxw : x.block < wr.heap.size := by have := HB.out.size; omega
          simp only [List.length_cons] at *
          go_wp2_with (at_builtin; refine wpList_append_os _ rfl _ _ 25 rfl w.heap.size i0 Try.underlying25 HI.out HZ0.out HZ1.out HZ2.out _ _ rfl (HO.out.alloc _) _ _ [h0b] rfl (RS_one wr h0b) (by have := HPL.out; simp only [List.length_singleton]; omega) (by have := HB.out.size; simp; omega) ?_; intro v3 w3 hown3 hg3 _)
          have HB3 := Lib.hid ((HB.out.alloc HB.out.size _).grown hg3 (by have := HB.out.size; simp; omega) (fun j hj => (HO.out.low j hj).1))
          have HBX := Lib.hid (show Below B wr w3 from (((Below.refl B wr).alloc (by have := HB.out.size; omega) _).grown hg3 (by have := HB.out.size; simp; omega) (fun j hj => Nat.le_trans hB (HO.out.low j hj).1)))
          clear cx hg3
          go_roundw
          case rel =>
            refine ⟨(h0a :: A'), Bl', pre ++ [h0b], step + 1, by go_num, by simp only [List.length_cons] at *; omega, by rw [List.length_append, HPL.out]; rfl, ?_, HRa.out.below HBX.out, HT.out.below HBX.out, HSUBa.out, fun q hq => HSUBb.out (List.mem_cons_of_mem _ hq), hown3, HB3.out⟩
            rw [HW.out, HN.out]; simp
          case measure => simp [intOf]; omega
end Go.Proofs.Ytplaagkcamjemaa
