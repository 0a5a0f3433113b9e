/- A session in the model: its box; 'set'. -/
import Derived.Test.YtcegpcggdcgjbaaGreatDoorSesF
import Derived.Test.YtcegpcggdcgjbaaGreatDoorSesE
import Derived.Test.YtcegpcggdcgjbaaGreatDoorKitFindA
namespace Go.Proofs.YtcegpcggdcgjbaaGreatDoor
open Go.ChangeShapes Go.WideShapes Go.ChangeAt Go.RowKit
open Go.Lib (decDigits)
set_option linter.unusedVariables false
/-- the cells of a desk -/
def dbC (s : St) : Array Value := #[.int .i64 s.cf.codec, .int .i64 s.cf.sum, .int .i64 s.cf.most, .int .i64 s.cf.map, .string ⟨s.fd.held.toArray⟩, .bool s.fd.over, .bool (confB s.cf)]
def DB (w : World) (g : Nat) (s : St) : Prop := BK w g (dbC s) 52
def DPost (w : World) (g : Nat) (p : St × List UInt8) (e : Ending) (w' : World) : Prop := e = .returned (.string ⟨(p.2 ++ [10]).toArray⟩) ∧ DB w' g p.1 ∧ w.grownBy w' (some g)
theorem DB.cells {w : World} {g : Nat} {s : St} (h : DB w g s) : w.cell? ⟨g, 0, none⟩ = some (.int .i64 s.cf.codec) ∧ w.cell? ⟨g, 1, none⟩ = some (.int .i64 s.cf.sum) ∧ w.cell? ⟨g, 2, none⟩ = some (.int .i64 s.cf.most) ∧ w.cell? ⟨g, 3, none⟩ = some (.int .i64 s.cf.map) ∧ w.cell? ⟨g, 4, none⟩ = some (.string ⟨s.fd.held.toArray⟩) ∧ w.cell? ⟨g, 5, none⟩ = some (.bool s.fd.over) ∧ w.cell? ⟨g, 6, none⟩ = some (.bool (confB s.cf)) :=
  ⟨h.cell rfl, h.cell rfl, h.cell rfl, h.cell rfl, h.cell rfl, h.cell rfl, h.cell rfl⟩
def codeRow : Array Value := #[.string ⟨#[]⟩, .string ⟨#[101, 115, 99, 97, 112, 101]⟩, .string ⟨#[99, 111, 98, 115]⟩, .string ⟨#[108, 101, 115, 115]⟩]
def codK (k : Nat) (l : List UInt8) : Int := if l = wEscape ∧ 2 ≤ k then 1 else if l = wCobs ∧ 3 ≤ k then 2 else if l = wLess ∧ 4 ≤ k then 3 else 0
theorem codK_all (l : List UInt8) : codK 4 l = codecN l := by
  unfold codK codecN
  simp
theorem codK_none (l : List UInt8) : codK 1 l = 0 := by
  unfold codK
  simp
theorem row_word {wr : World} {r0 : Nat} (h : BK wr r0 codeRow 9) {k : Nat} (hk : 1 ≤ k ∧ k ≤ 3) : ∃ K : ByteArray, wr.cell? ⟨r0, k, none⟩ = some (.string K) ∧ ∀ l, codK (k + 1) l = if K.data.toList = l then (k : Int) else codK k l := by
  have : k = 1 ∨ k = 2 ∨ k = 3 := by omega
  rcases this with rfl | rfl | rfl
  · refine ⟨⟨#[101, 115, 99, 97, 112, 101]⟩, h.cell rfl, fun l => ?_⟩
    by_cases hl : [101, 115, 99, 97, 112, 101] = l
    · subst hl; decide
    · rw [if_neg hl]; unfold codK; rw [if_neg (fun x => hl x.1.symm)]; simp
  · refine ⟨⟨#[99, 111, 98, 115]⟩, h.cell rfl, fun l => ?_⟩
    by_cases hl : [99, 111, 98, 115] = l
    · subst hl; decide
    · rw [if_neg hl]; unfold codK; rw [if_neg (c := l = wCobs ∧ 3 ≤ 2 + 1) (fun x => hl x.1.symm)]; simp
  · refine ⟨⟨#[108, 101, 115, 115]⟩, h.cell rfl, fun l => ?_⟩
    by_cases hl : [108, 101, 115, 115] = l
    · subst hl; decide
    · rw [if_neg hl]; unfold codK; rw [if_neg (c := l = wLess ∧ 4 ≤ 3 + 1) (fun x => hl x.1.symm)]; simp
set_option maxRecDepth 100000 in
set_option maxHeartbeats 2000000 in
theorem dset_any (s : St) (g r cap : Nat) (a b c d : ByteArray) (w : World) (h : DB w g s) (hr : r < w.heap.size) (hc : w.cell? ⟨r, 1, none⟩ = some (.string a) ∧ w.cell? ⟨r, 2, none⟩ = some (.string b) ∧ w.cell? ⟨r, 3, none⟩ = some (.string c) ∧ w.cell? ⟨r, 4, none⟩ = some (.string d)) :
    Calls Tryz.prog 33 #[.pointer (some ⟨g, 0, none⟩), .slice (some ⟨r, 1, none⟩) 4 cap] w (DPost w g (setS s (confW a.data.toList b.data.toList c.data.toList d.data.toList))) := by
  have hzc := zero_confS
  have HNb := Lib.hid (fun u => l1Num_any b u)
  have HNc := Lib.hid (fun u => l1Num_any c u)
  have HNd := Lib.hid (fun u => l1Num_any d u)
  have HDB := Lib.hid h
  have HCA := Lib.hid hc.1
  have hgw := h.lt
  obtain ⟨w3, hw3⟩ : ∃ w3, w3 = w.alloc (.cells codeRow 9) := ⟨_, rfl⟩
  have hB3 : Below w.heap.size w w3 := by rw [hw3]; exact (Below.refl _ _).alloc (Nat.le_refl _) _
  have hs3 : w3.heap.size = w.heap.size + 1 := by rw [hw3]; simp
  have hcell : ∀ wx, Below w3.heap.size w3 wx → (wx.cell? ⟨r, 1, none⟩ = some (.string a) ∧ wx.cell? ⟨r, 2, none⟩ = some (.string b) ∧ wx.cell? ⟨r, 3, none⟩ = some (.string c) ∧ wx.cell? ⟨r, 4, none⟩ = some (.string d)) := fun wx hx => by
    have hb := hB3.trans (hx.mono (by omega))
    exact ⟨(hb.cell (p := ⟨r, 1, none⟩) hr).trans hc.1, (hb.cell (p := ⟨r, 2, none⟩) hr).trans hc.2.1, (hb.cell (p := ⟨r, 3, none⟩) hr).trans hc.2.2.1, (hb.cell (p := ⟨r, 4, none⟩) hr).trans hc.2.2.2⟩
  have HSX := Lib.hid hcell
  have HB3 := Lib.hid hB3
  have HW3 := Lib.hid hw3
  have HS3 := Lib.hid hs3
  have HROW := Lib.hid (show BK w3 w.heap.size codeRow 9 by rw [hw3]; exact BK.new _ _ _)
  clear h hc hB3 hs3 hcell
  go_enter Tryz.func33, Tryz.ntmps33
  go_wp2_with fail
  rw [show w.alloc (.cells #[.string ⟨#[]⟩, .string ⟨#[101, 115, 99, 97, 112, 101]⟩, .string ⟨#[99, 111, 98, 115]⟩, .string ⟨#[108, 101, 115, 115]⟩] 9) = w3 from hw3.symm]
  clear hw3
  go_cut [6] (fun s6 wx => ∃ gq, s6 = .pointer (some ⟨gq, 0, none⟩) ∧ BK wx gq #[.int .i64 0, .int .i64 (numL b.data.toList), .int .i64 (numL c.data.toList), .int .i64 (numL d.data.toList)] 30 ∧ w3.heap.size ≤ gq ∧ Below w3.heap.size w3 wx)
  case first =>
    have hB := (Below.refl w3.heap.size w3).drew
    have hS := HSX.out _ hB
    refine wp_region_held_drew (S := (fun wx => wx.cell? ⟨r, 1, none⟩ = some (.string a) ∧ wx.cell? ⟨r, 2, none⟩ = some (.string b) ∧ wx.cell? ⟨r, 3, none⟩ = some (.string c) ∧ wx.cell? ⟨r, 4, none⟩ = some (.string d))) (by kernel_rfl) hS (fun hHeld => ?_)
    obtain ⟨wd, hwd⟩ : ∃ wd, wd = w3.drew := ⟨_, rfl⟩
    rw [← hwd] at hB hS ⊢
    clear hwd
    refine wpAnyH_take (i := 0) (v := ?_) rfl (by kernel_rfl) (by kernel_rfl) (by kernel_rfl) (fun _ _ _ h => h) (Or.inl ⟨by rfl, ?_⟩) (by assumption) ?_
    rotate_left
    · intro wq hSw
      (try dsimp only at hSw)
      (try simp only [List.getElem_toArray, List.getElem_cons_zero])
      go_simp
      (try with_reducible rfl)
    simp only [Act.put, List.getElem_toArray, List.getElem_cons_zero, List.setIfInBounds_toArray, List.set_cons_zero, List.set_cons_succ]
    refine wpAnyH_take (i := 1) (v := ?_) rfl (by kernel_rfl) (by kernel_rfl) (by kernel_rfl) (fun _ _ _ h => h) (Or.inl ⟨by rfl, ?_⟩) (by assumption) ?_
    rotate_left
    · intro wq hSw
      (try dsimp only at hSw)
      (try simp only [List.getElem_toArray, List.getElem_cons_succ, List.getElem_cons_zero])
      go_simp
      (try with_reducible rfl)
    simp only [Act.put, List.getElem_toArray, List.getElem_cons_succ, List.getElem_cons_zero, List.setIfInBounds_toArray, List.set_cons_zero, List.set_cons_succ]
    refine wpAnyH_take (i := 2) (v := ?_) rfl (by kernel_rfl) (by kernel_rfl) (by kernel_rfl) (fun _ _ _ h => h) (Or.inl ⟨by rfl, ?_⟩) (by assumption) ?_
    rotate_left
    · intro wq hSw
      (try dsimp only at hSw)
      (try simp only [List.getElem_toArray, List.getElem_cons_succ, List.getElem_cons_zero])
      go_simp
      (try with_reducible rfl)
    simp only [Act.put, List.getElem_toArray, List.getElem_cons_succ, List.getElem_cons_zero, List.setIfInBounds_toArray, List.set_cons_zero, List.set_cons_succ]
    refine wpAnyH_take (i := 4) (v := ?_) rfl (by kernel_rfl) (by kernel_rfl) (by kernel_rfl) (fun _ _ _ h => h) (Or.inl ⟨by rfl, ?_⟩) (by assumption) ?_
    rotate_left
    · intro wq hSw
      (try dsimp only at hSw)
      (try simp only [List.getElem_toArray, List.getElem_cons_succ, List.getElem_cons_zero])
      go_simp
      (try with_reducible rfl)
    simp only [Act.put, List.getElem_toArray, List.getElem_cons_succ, List.getElem_cons_zero, List.setIfInBounds_toArray, List.set_cons_zero, List.set_cons_succ]
    refine wpAnyH_take (i := 5) (v := ?_) rfl (by kernel_rfl) (by kernel_rfl) (by kernel_rfl) (fun _ _ _ h => h) (Or.inl ⟨by rfl, ?_⟩) (by assumption) ?_
    rotate_left
    · intro wq hSw
      (try dsimp only at hSw)
      (try simp only [List.getElem_toArray, List.getElem_cons_succ, List.getElem_cons_zero])
      go_simp
      (try with_reducible rfl)
    simp only [Act.put, List.getElem_toArray, List.getElem_cons_succ, List.getElem_cons_zero, List.setIfInBounds_toArray, List.set_cons_zero, List.set_cons_succ]
    refine wpAnyH_take (i := 6) (v := ?_) rfl (by kernel_rfl) (by kernel_rfl) (by kernel_rfl) (fun _ _ _ h => h) (Or.inl ⟨by rfl, ?_⟩) (by assumption) ?_
    rotate_left
    · intro wq hSw
      (try dsimp only at hSw)
      (try simp only [List.getElem_toArray, List.getElem_cons_succ, List.getElem_cons_zero])
      go_simp
      (try with_reducible rfl)
    simp only [Act.put, List.getElem_toArray, List.getElem_cons_succ, List.getElem_cons_zero, List.setIfInBounds_toArray, List.set_cons_zero, List.set_cons_succ]
    refine wpAnyH_take (i := 8) (v := ?_) rfl (by kernel_rfl) (by kernel_rfl) (by kernel_rfl) (fun _ _ _ h => h) (Or.inl ⟨by rfl, ?_⟩) (by assumption) ?_
    rotate_left
    · intro wq hSw
      (try dsimp only at hSw)
      (try simp only [List.getElem_toArray, List.getElem_cons_succ, List.getElem_cons_zero])
      go_simp
      (try with_reducible rfl)
    simp only [Act.put, List.getElem_toArray, List.getElem_cons_succ, List.getElem_cons_zero, List.setIfInBounds_toArray, List.set_cons_zero, List.set_cons_succ]
    refine wpAnyH_take (i := 9) (v := ?_) rfl (by kernel_rfl) (by kernel_rfl) (by kernel_rfl) (fun _ _ _ h => h) (Or.inl ⟨by rfl, ?_⟩) (by assumption) ?_
    rotate_left
    · intro wq hSw
      (try dsimp only at hSw)
      (try simp only [List.getElem_toArray, List.getElem_cons_succ, List.getElem_cons_zero])
      go_simp
      (try with_reducible rfl)
    simp only [Act.put, List.getElem_toArray, List.getElem_cons_succ, List.getElem_cons_zero, List.setIfInBounds_toArray, List.set_cons_zero, List.set_cons_succ]
    refine wpAnyH_take (i := 10) (v := ?_) rfl (by kernel_rfl) (by kernel_rfl) (by kernel_rfl) (fun _ _ _ h => h) (Or.inl ⟨by rfl, ?_⟩) (by assumption) ?_
    rotate_left
    · intro wq hSw
      (try dsimp only at hSw)
      (try simp only [List.getElem_toArray, List.getElem_cons_succ, List.getElem_cons_zero])
      go_simp
      (try with_reducible rfl)
    simp only [Act.put, List.getElem_toArray, List.getElem_cons_succ, List.getElem_cons_zero, List.setIfInBounds_toArray, List.set_cons_zero, List.set_cons_succ]
    refine wpAnyH_ready (rs := [3, 13]) (by kernel_rfl) (by simp) ?_
    refine AllReadyH.cons rfl ?_ (AllReadyH.cons rfl ?_ AllReadyH.nil)
    · intro K hK
      (try simp only [List.getElem_toArray, List.getElem_cons_succ, List.getElem_cons_zero])
      go_simp
      go_at_call 56
      refine (HNb.out _).mono ?_
      rintro e _ ⟨rfl, rfl⟩
      have hS := HSX.out _ hB
      refine hK.out _ _ hS (fun hHeld => ?_)
      clear hK K
      refine wpAnyH_ready (rs := [7, 13]) (by kernel_rfl) (by simp) ?_
      refine AllReadyH.cons rfl ?_ (AllReadyH.cons rfl ?_ AllReadyH.nil)
      · intro K hK
        (try simp only [List.getElem_toArray, List.getElem_cons_succ, List.getElem_cons_zero])
        go_simp
        go_at_call 56
        refine (HNc.out _).mono ?_
        rintro e _ ⟨rfl, rfl⟩
        have hS := HSX.out _ hB
        refine hK.out _ _ hS (fun hHeld => ?_)
        clear hK K
        refine wpAnyH_ready (rs := [11, 13]) (by kernel_rfl) (by simp) ?_
        refine AllReadyH.cons rfl ?_ (AllReadyH.cons rfl ?_ AllReadyH.nil)
        · intro K hK
          (try simp only [List.getElem_toArray, List.getElem_cons_succ, List.getElem_cons_zero])
          go_simp
          go_at_call 56
          refine (HNd.out _).mono ?_
          rintro e _ ⟨rfl, rfl⟩
          have hS := HSX.out _ hB
          refine hK.out _ _ hS (fun hHeld => ?_)
          clear hK K
          refine wpAnyH_take (i := 12) (v := ?_) rfl (by kernel_rfl) (by kernel_rfl) (by kernel_rfl) (fun _ _ _ h => h) (Or.inl ⟨by rfl, ?_⟩) (by assumption) ?_
          rotate_left
          · intro wq hSw
            (try dsimp only at hSw)
            (try simp only [List.getElem_toArray, List.getElem_cons_succ, List.getElem_cons_zero])
            go_simp
            (try with_reducible rfl)
          simp only [Act.put, List.getElem_toArray, List.getElem_cons_succ, List.getElem_cons_zero, List.setIfInBounds_toArray, List.set_cons_zero, List.set_cons_succ]
          have hB2 := hB.alloc hB.size (.cells #[.int .i64 0, .int .i64 0, .int .i64 0, .int .i64 0] 30)
          have hS := HSX.out _ hB2
          refine wpAnyH_ready (rs := [13]) (by kernel_rfl) (by simp) ?_
          refine AllReadyH.cons rfl (fun K hK => ?_) AllReadyH.nil
          (try simp only [List.getElem_toArray, List.getElem_cons_succ, List.getElem_cons_zero])
          skip
          go_simp
          skip
          refine hK.out _ _ hS (fun hHeld => ?_)
          clear hK K
          have hB3 := hB.alloc hB.size (.cells #[.int .i64 0, .int .i64 (numL b.data.toList), .int .i64 (numL c.data.toList), .int .i64 (numL d.data.toList)] 30)
          have hS := HSX.out _ hB3
          refine wpAnyH_ready (rs := [14]) (by kernel_rfl) (by simp) ?_
          refine AllReadyH.cons rfl (fun K hK => ?_) AllReadyH.nil
          (try simp only [List.getElem_toArray, List.getElem_cons_succ, List.getElem_cons_zero])
          skip
          go_simp
          skip
          refine hK.out _ _ hS (fun hHeld => ?_)
          clear hK K
          refine wpAnyH_done (by kernel_rfl) ?_ _
          go_wp2
          go_meet
          exact ⟨_, rfl, BK.new _ _ _, hB.size, hB3⟩
        · intro K hK
          (try simp only [List.getElem_toArray, List.getElem_cons_succ, List.getElem_cons_zero])
          go_simp
          have hB2 := hB.alloc hB.size (.cells #[.int .i64 0, .int .i64 0, .int .i64 0, .int .i64 0] 30)
          refine hK.out _ _ (HSX.out _ hB2) (fun hHeld => ?_)
          clear hK K
          have hS := HSX.out _ hB2
          have hBd := hB
          have hB := hB2
          clear hB2
          refine wpAnyH_ready (rs := [11]) (by kernel_rfl) (by simp) ?_
          refine AllReadyH.cons rfl (fun K hK => ?_) AllReadyH.nil
          (try simp only [List.getElem_toArray, List.getElem_cons_succ, List.getElem_cons_zero])
          go_simp
          go_at_call 56
          refine (HNd.out _).mono ?_
          rintro e _ ⟨rfl, rfl⟩
          have hS := HSX.out _ hB
          refine hK.out _ _ hS (fun hHeld => ?_)
          clear hK K
          refine wpAnyH_take (i := 12) (v := ?_) rfl (by kernel_rfl) (by kernel_rfl) (by kernel_rfl) (fun _ _ _ h => h) (Or.inl ⟨by rfl, ?_⟩) (by assumption) ?_
          rotate_left
          · intro wq hSw
            (try dsimp only at hSw)
            (try simp only [List.getElem_toArray, List.getElem_cons_succ, List.getElem_cons_zero])
            go_simp
            (try with_reducible rfl)
          simp only [Act.put, List.getElem_toArray, List.getElem_cons_succ, List.getElem_cons_zero, List.setIfInBounds_toArray, List.set_cons_zero, List.set_cons_succ]
          have hB3 := hBd.alloc hBd.size (.cells #[.int .i64 0, .int .i64 (numL b.data.toList), .int .i64 (numL c.data.toList), .int .i64 (numL d.data.toList)] 30)
          have hS := HSX.out _ hB3
          refine wpAnyH_ready (rs := [14]) (by kernel_rfl) (by simp) ?_
          refine AllReadyH.cons rfl (fun K hK => ?_) AllReadyH.nil
          (try simp only [List.getElem_toArray, List.getElem_cons_succ, List.getElem_cons_zero])
          skip
          go_simp
          skip
          refine hK.out _ _ hS (fun hHeld => ?_)
          clear hK K
          refine wpAnyH_done (by kernel_rfl) ?_ _
          go_wp2
          go_meet
          exact ⟨_, rfl, BK.new _ _ _, hBd.size, hB3⟩
      · intro K hK
        (try simp only [List.getElem_toArray, List.getElem_cons_succ, List.getElem_cons_zero])
        go_simp
        have hB2 := hB.alloc hB.size (.cells #[.int .i64 0, .int .i64 0, .int .i64 0, .int .i64 0] 30)
        refine hK.out _ _ (HSX.out _ hB2) (fun hHeld => ?_)
        clear hK K
        have hS := HSX.out _ hB2
        have hBd := hB
        have hB := hB2
        clear hB2
        refine wpAnyH_ready (rs := [7]) (by kernel_rfl) (by simp) ?_
        refine AllReadyH.cons rfl (fun K hK => ?_) AllReadyH.nil
        (try simp only [List.getElem_toArray, List.getElem_cons_succ, List.getElem_cons_zero])
        go_simp
        go_at_call 56
        refine (HNc.out _).mono ?_
        rintro e _ ⟨rfl, rfl⟩
        have hS := HSX.out _ hB
        refine hK.out _ _ hS (fun hHeld => ?_)
        clear hK K
        refine wpAnyH_ready (rs := [11]) (by kernel_rfl) (by simp) ?_
        refine AllReadyH.cons rfl (fun K hK => ?_) AllReadyH.nil
        (try simp only [List.getElem_toArray, List.getElem_cons_succ, List.getElem_cons_zero])
        go_simp
        go_at_call 56
        refine (HNd.out _).mono ?_
        rintro e _ ⟨rfl, rfl⟩
        have hS := HSX.out _ hB
        refine hK.out _ _ hS (fun hHeld => ?_)
        clear hK K
        refine wpAnyH_take (i := 12) (v := ?_) rfl (by kernel_rfl) (by kernel_rfl) (by kernel_rfl) (fun _ _ _ h => h) (Or.inl ⟨by rfl, ?_⟩) (by assumption) ?_
        rotate_left
        · intro wq hSw
          (try dsimp only at hSw)
          (try simp only [List.getElem_toArray, List.getElem_cons_succ, List.getElem_cons_zero])
          go_simp
          (try with_reducible rfl)
        simp only [Act.put, List.getElem_toArray, List.getElem_cons_succ, List.getElem_cons_zero, List.setIfInBounds_toArray, List.set_cons_zero, List.set_cons_succ]
        have hB3 := hBd.alloc hBd.size (.cells #[.int .i64 0, .int .i64 (numL b.data.toList), .int .i64 (numL c.data.toList), .int .i64 (numL d.data.toList)] 30)
        have hS := HSX.out _ hB3
        refine wpAnyH_ready (rs := [14]) (by kernel_rfl) (by simp) ?_
        refine AllReadyH.cons rfl (fun K hK => ?_) AllReadyH.nil
        (try simp only [List.getElem_toArray, List.getElem_cons_succ, List.getElem_cons_zero])
        skip
        go_simp
        skip
        refine hK.out _ _ hS (fun hHeld => ?_)
        clear hK K
        refine wpAnyH_done (by kernel_rfl) ?_ _
        go_wp2
        go_meet
        exact ⟨_, rfl, BK.new _ _ _, hBd.size, hB3⟩
    · intro K hK
      (try simp only [List.getElem_toArray, List.getElem_cons_succ, List.getElem_cons_zero])
      go_simp
      have hB2 := hB.alloc hB.size (.cells #[.int .i64 0, .int .i64 0, .int .i64 0, .int .i64 0] 30)
      refine hK.out _ _ (HSX.out _ hB2) (fun hHeld => ?_)
      clear hK K
      have hS := HSX.out _ hB2
      have hBd := hB
      have hB := hB2
      clear hB2
      refine wpAnyH_ready (rs := [3]) (by kernel_rfl) (by simp) ?_
      refine AllReadyH.cons rfl (fun K hK => ?_) AllReadyH.nil
      (try simp only [List.getElem_toArray, List.getElem_cons_succ, List.getElem_cons_zero])
      go_simp
      go_at_call 56
      refine (HNb.out _).mono ?_
      rintro e _ ⟨rfl, rfl⟩
      have hS := HSX.out _ hB
      refine hK.out _ _ hS (fun hHeld => ?_)
      clear hK K
      refine wpAnyH_ready (rs := [7]) (by kernel_rfl) (by simp) ?_
      refine AllReadyH.cons rfl (fun K hK => ?_) AllReadyH.nil
      (try simp only [List.getElem_toArray, List.getElem_cons_succ, List.getElem_cons_zero])
      go_simp
      go_at_call 56
      refine (HNc.out _).mono ?_
      rintro e _ ⟨rfl, rfl⟩
      have hS := HSX.out _ hB
      refine hK.out _ _ hS (fun hHeld => ?_)
      clear hK K
      refine wpAnyH_ready (rs := [11]) (by kernel_rfl) (by simp) ?_
      refine AllReadyH.cons rfl (fun K hK => ?_) AllReadyH.nil
      (try simp only [List.getElem_toArray, List.getElem_cons_succ, List.getElem_cons_zero])
      go_simp
      go_at_call 56
      refine (HNd.out _).mono ?_
      rintro e _ ⟨rfl, rfl⟩
      have hS := HSX.out _ hB
      refine hK.out _ _ hS (fun hHeld => ?_)
      clear hK K
      refine wpAnyH_take (i := 12) (v := ?_) rfl (by kernel_rfl) (by kernel_rfl) (by kernel_rfl) (fun _ _ _ h => h) (Or.inl ⟨by rfl, ?_⟩) (by assumption) ?_
      rotate_left
      · intro wq hSw
        (try dsimp only at hSw)
        (try simp only [List.getElem_toArray, List.getElem_cons_succ, List.getElem_cons_zero])
        go_simp
        (try with_reducible rfl)
      simp only [Act.put, List.getElem_toArray, List.getElem_cons_succ, List.getElem_cons_zero, List.setIfInBounds_toArray, List.set_cons_zero, List.set_cons_succ]
      have hB3 := hBd.alloc hBd.size (.cells #[.int .i64 0, .int .i64 (numL b.data.toList), .int .i64 (numL c.data.toList), .int .i64 (numL d.data.toList)] 30)
      have hS := HSX.out _ hB3
      refine wpAnyH_ready (rs := [14]) (by kernel_rfl) (by simp) ?_
      refine AllReadyH.cons rfl (fun K hK => ?_) AllReadyH.nil
      (try simp only [List.getElem_toArray, List.getElem_cons_succ, List.getElem_cons_zero])
      skip
      go_simp
      skip
      refine hK.out _ _ hS (fun hHeld => ?_)
      clear hK K
      refine wpAnyH_done (by kernel_rfl) ?_ _
      go_wp2
      go_meet
      exact ⟨_, rfl, BK.new _ _ _, hBd.size, hB3⟩
  case rest =>
    obtain ⟨gq, rfl, hbk, hgq, hbl⟩ := hcut
    have hrow := HROW.out.from hbl
    have hbc := HB3.out.trans (hbl.mono (by have := HS3.out; omega))
    have hgw1 : w.heap.size + 1 ≤ gq := by have := HS3.out; omega
    have HBK := Lib.hid hbk
    have HRW := Lib.hid hrow
    have HBC := Lib.hid hbc
    clear hbk hrow hbc hgq hbl
    go_wp2_with fail
    go_loopw [7] (fun i wr => ∃ k : Nat, 1 ≤ k ∧ k ≤ 4 ∧ i = .int .i64 k ∧ BK wr gq #[.int .i64 (codK k a.data.toList), .int .i64 (numL b.data.toList), .int .i64 (numL c.data.toList), .int .i64 (numL d.data.toList)] 30 ∧ BK wr w.heap.size codeRow 9 ∧ Below w.heap.size w wr) (fun i _ => 4 - (intOf i).toNat)
    case atStart => exact ⟨1, Nat.le_refl _, by omega, rfl, by rw [codK_none]; exact HBK.out, HRW.out, HBC.out⟩
    case round =>
      obtain ⟨k, hk1, hk4, rfl, hbk, hrow, hb⟩ := hrel
      have HBK := Lib.hid hbk
      have HRW := Lib.hid hrow
      have HB := Lib.hid hb
      have hwr : w.heap.size ≤ wr.heap.size := hb.size
      have c0 : wr.cell? ⟨r, 1, none⟩ = some (.string a) := (hb.cell (p := ⟨r, 1, none⟩) hr).trans HCA.out
      by_cases hlt : k < 4
      · obtain ⟨K, hKc, hKn⟩ := row_word hrow (k := k) ⟨hk1, by omega⟩
        have HKN := Lib.hid (hKn a.data.toList)
        have hS : wr.drew.cell? ⟨w.heap.size, k, none⟩ = some (.string K) ∧ wr.drew.cell? ⟨r, 1, none⟩ = some (.string a) := ⟨hKc, c0⟩
        have q0 := hbk.cell (i := 0) rfl
        have f0 := hbk.free 0
        clear hKn hbk hrow hb
        by_cases heq : K.data.toList = a.data.toList
        · have hcb : (K.toList == a.toList) = true := by rw [Lib.toList_data, Lib.toList_data]; exact beq_iff_eq.2 heq
          have HE := Lib.hid (HKN.out.trans (if_pos heq))
          clear heq
          go_wp2_with fail
          refine wp_region_held_drew (S := (fun wx => wx.cell? ⟨w.heap.size, k, none⟩ = some (.string K) ∧ wx.cell? ⟨r, 1, none⟩ = some (.string a))) (by kernel_rfl) hS (fun hHeld => ?_)
          refine wpAnyH_take (i := 0) (v := ?_) rfl (by kernel_rfl) (by kernel_rfl) (by kernel_rfl) (fun _ _ _ h => h) (Or.inl ⟨by rfl, ?_⟩) (by assumption) ?_
          rotate_left
          · intro wq hSw
            (try dsimp only at hSw)
            (try simp only [List.getElem_toArray, List.getElem_cons_zero])
            go_simp
            (try with_reducible rfl)
          simp only [Act.put, List.getElem_toArray, List.getElem_cons_zero, List.setIfInBounds_toArray, List.set_cons_zero, List.set_cons_succ]
          refine wpAnyH_take (i := 1) (v := ?_) rfl (by kernel_rfl) (by kernel_rfl) (by kernel_rfl) (fun _ _ _ h => h) (Or.inl ⟨by rfl, ?_⟩) (by assumption) ?_
          rotate_left
          · intro wq hSw
            (try dsimp only at hSw)
            (try simp only [List.getElem_toArray, List.getElem_cons_succ, List.getElem_cons_zero])
            go_simp
            (try with_reducible rfl)
          simp only [Act.put, List.getElem_toArray, List.getElem_cons_succ, List.getElem_cons_zero, List.setIfInBounds_toArray, List.set_cons_zero, List.set_cons_succ]
          refine wpAnyH_take (i := 2) (v := ?_) rfl (by kernel_rfl) (by kernel_rfl) (by kernel_rfl) (fun _ _ _ h => h) (Or.inl ⟨by rfl, ?_⟩) (by assumption) ?_
          rotate_left
          · intro wq hSw
            (try dsimp only at hSw)
            (try simp only [List.getElem_toArray, List.getElem_cons_succ, List.getElem_cons_zero])
            go_simp
            (try with_reducible rfl)
          simp only [Act.put, List.getElem_toArray, List.getElem_cons_succ, List.getElem_cons_zero, List.setIfInBounds_toArray, List.set_cons_zero, List.set_cons_succ]
          refine wpAnyH_take (i := 3) (v := ?_) rfl (by kernel_rfl) (by kernel_rfl) (by kernel_rfl) (fun _ _ _ h => h) (Or.inl ⟨by rfl, ?_⟩) (by assumption) ?_
          rotate_left
          · intro wq hSw
            (try dsimp only at hSw)
            (try simp only [List.getElem_toArray, List.getElem_cons_succ, List.getElem_cons_zero])
            go_simp
            (try with_reducible rfl)
          simp only [Act.put, List.getElem_toArray, List.getElem_cons_succ, List.getElem_cons_zero, List.setIfInBounds_toArray, List.set_cons_zero, List.set_cons_succ]
          refine wpAnyH_take (i := 4) (v := ?_) rfl (by kernel_rfl) (by kernel_rfl) (by kernel_rfl) (fun _ _ _ h => h) (Or.inl ⟨by rfl, ?_⟩) (by assumption) ?_
          rotate_left
          · intro wq hSw
            (try dsimp only at hSw)
            (try simp only [List.getElem_toArray, List.getElem_cons_succ, List.getElem_cons_zero])
            go_simp
            (try with_reducible rfl)
          simp only [Act.put, List.getElem_toArray, List.getElem_cons_succ, List.getElem_cons_zero, List.setIfInBounds_toArray, List.set_cons_zero, List.set_cons_succ]
          refine wpAnyH_take (i := 5) (v := ?_) rfl (by kernel_rfl) (by kernel_rfl) (by kernel_rfl) (fun _ _ _ h => h) (Or.inl ⟨by rfl, ?_⟩) (by assumption) ?_
          rotate_left
          · intro wq hSw
            (try dsimp only at hSw)
            (try simp only [List.getElem_toArray, List.getElem_cons_succ, List.getElem_cons_zero])
            go_simp
            (try with_reducible rfl)
          simp only [Act.put, List.getElem_toArray, List.getElem_cons_succ, List.getElem_cons_zero, List.setIfInBounds_toArray, List.set_cons_zero, List.set_cons_succ]
          refine wpAnyH_take (i := 6) (v := ?_) rfl (by kernel_rfl) (by kernel_rfl) (by kernel_rfl) (fun _ _ _ h => h) (Or.inl ⟨by rfl, ?_⟩) (by assumption) ?_
          rotate_left
          · intro wq hSw
            (try dsimp only at hSw)
            (try simp only [List.getElem_toArray, List.getElem_cons_succ, List.getElem_cons_zero])
            go_simp
            (try with_reducible rfl)
          simp only [Act.put, List.getElem_toArray, List.getElem_cons_succ, List.getElem_cons_zero, List.setIfInBounds_toArray, List.set_cons_zero, List.set_cons_succ]
          refine wpAnyH_take (i := 7) (v := ?_) rfl (by kernel_rfl) (by kernel_rfl) (by kernel_rfl) (fun _ _ _ h => h) (Or.inl ⟨by rfl, ?_⟩) (by assumption) ?_
          rotate_left
          · intro wq hSw
            (try dsimp only at hSw)
            (try simp only [List.getElem_toArray, List.getElem_cons_succ, List.getElem_cons_zero])
            go_simp
            (try with_reducible rfl)
          simp only [Act.put, List.getElem_toArray, List.getElem_cons_succ, List.getElem_cons_zero, List.setIfInBounds_toArray, List.set_cons_zero, List.set_cons_succ]
          refine wpAnyH_done (by kernel_rfl) ?_ _
          go_wp2
          go_roundw
          case rel =>
            refine ⟨k + 1, by omega, by omega, by go_num, ?_, ?_, ?_⟩
            · rw [HE.out]; exact HBK.out.drew.set 0 (.int .i64 (k : Int))
            · exact HRW.out.drew.far (j := gq) (by omega) _
            · exact HB.out.drew.setCell (p := ⟨gq, 0, none⟩) (by show w.heap.size ≤ gq; omega) _
          case measure => simp [intOf]; omega
        · have hcb : (K.toList == a.toList) = false := by rw [Lib.toList_data, Lib.toList_data]; exact beq_eq_false_iff_ne.2 heq
          have HE := Lib.hid (HKN.out.trans (if_neg heq))
          clear heq
          go_wp2_with fail
          refine wp_region_held_drew (S := (fun wx => wx.cell? ⟨w.heap.size, k, none⟩ = some (.string K) ∧ wx.cell? ⟨r, 1, none⟩ = some (.string a))) (by kernel_rfl) hS (fun hHeld => ?_)
          refine wpAnyH_take (i := 0) (v := ?_) rfl (by kernel_rfl) (by kernel_rfl) (by kernel_rfl) (fun _ _ _ h => h) (Or.inl ⟨by rfl, ?_⟩) (by assumption) ?_
          rotate_left
          · intro wq hSw
            (try dsimp only at hSw)
            (try simp only [List.getElem_toArray, List.getElem_cons_zero])
            go_simp
            (try with_reducible rfl)
          simp only [Act.put, List.getElem_toArray, List.getElem_cons_zero, List.setIfInBounds_toArray, List.set_cons_zero, List.set_cons_succ]
          refine wpAnyH_take (i := 1) (v := ?_) rfl (by kernel_rfl) (by kernel_rfl) (by kernel_rfl) (fun _ _ _ h => h) (Or.inl ⟨by rfl, ?_⟩) (by assumption) ?_
          rotate_left
          · intro wq hSw
            (try dsimp only at hSw)
            (try simp only [List.getElem_toArray, List.getElem_cons_succ, List.getElem_cons_zero])
            go_simp
            (try with_reducible rfl)
          simp only [Act.put, List.getElem_toArray, List.getElem_cons_succ, List.getElem_cons_zero, List.setIfInBounds_toArray, List.set_cons_zero, List.set_cons_succ]
          refine wpAnyH_take (i := 2) (v := ?_) rfl (by kernel_rfl) (by kernel_rfl) (by kernel_rfl) (fun _ _ _ h => h) (Or.inl ⟨by rfl, ?_⟩) (by assumption) ?_
          rotate_left
          · intro wq hSw
            (try dsimp only at hSw)
            (try simp only [List.getElem_toArray, List.getElem_cons_succ, List.getElem_cons_zero])
            go_simp
            (try with_reducible rfl)
          simp only [Act.put, List.getElem_toArray, List.getElem_cons_succ, List.getElem_cons_zero, List.setIfInBounds_toArray, List.set_cons_zero, List.set_cons_succ]
          refine wpAnyH_take (i := 3) (v := ?_) rfl (by kernel_rfl) (by kernel_rfl) (by kernel_rfl) (fun _ _ _ h => h) (Or.inl ⟨by rfl, ?_⟩) (by assumption) ?_
          rotate_left
          · intro wq hSw
            (try dsimp only at hSw)
            (try simp only [List.getElem_toArray, List.getElem_cons_succ, List.getElem_cons_zero])
            go_simp
            (try with_reducible rfl)
          simp only [Act.put, List.getElem_toArray, List.getElem_cons_succ, List.getElem_cons_zero, List.setIfInBounds_toArray, List.set_cons_zero, List.set_cons_succ]
          refine wpAnyH_take (i := 4) (v := ?_) rfl (by kernel_rfl) (by kernel_rfl) (by kernel_rfl) (fun _ _ _ h => h) (Or.inl ⟨by rfl, ?_⟩) (by assumption) ?_
          rotate_left
          · intro wq hSw
            (try dsimp only at hSw)
            (try simp only [List.getElem_toArray, List.getElem_cons_succ, List.getElem_cons_zero])
            go_simp
            (try with_reducible rfl)
          simp only [Act.put, List.getElem_toArray, List.getElem_cons_succ, List.getElem_cons_zero, List.setIfInBounds_toArray, List.set_cons_zero, List.set_cons_succ]
          refine wpAnyH_take (i := 5) (v := ?_) rfl (by kernel_rfl) (by kernel_rfl) (by kernel_rfl) (fun _ _ _ h => h) (Or.inl ⟨by rfl, ?_⟩) (by assumption) ?_
          rotate_left
          · intro wq hSw
            (try dsimp only at hSw)
            (try simp only [List.getElem_toArray, List.getElem_cons_succ, List.getElem_cons_zero])
            go_simp
            (try with_reducible rfl)
          simp only [Act.put, List.getElem_toArray, List.getElem_cons_succ, List.getElem_cons_zero, List.setIfInBounds_toArray, List.set_cons_zero, List.set_cons_succ]
          refine wpAnyH_take (i := 6) (v := ?_) rfl (by kernel_rfl) (by kernel_rfl) (by kernel_rfl) (fun _ _ _ h => h) (Or.inl ⟨by rfl, ?_⟩) (by assumption) ?_
          rotate_left
          · intro wq hSw
            (try dsimp only at hSw)
            (try simp only [List.getElem_toArray, List.getElem_cons_succ, List.getElem_cons_zero])
            go_simp
            (try with_reducible rfl)
          simp only [Act.put, List.getElem_toArray, List.getElem_cons_succ, List.getElem_cons_zero, List.setIfInBounds_toArray, List.set_cons_zero, List.set_cons_succ]
          refine wpAnyH_take (i := 7) (v := ?_) rfl (by kernel_rfl) (by kernel_rfl) (by kernel_rfl) (fun _ _ _ h => h) (Or.inl ⟨by rfl, ?_⟩) (by assumption) ?_
          rotate_left
          · intro wq hSw
            (try dsimp only at hSw)
            (try simp only [List.getElem_toArray, List.getElem_cons_succ, List.getElem_cons_zero])
            go_simp
            (try with_reducible rfl)
          simp only [Act.put, List.getElem_toArray, List.getElem_cons_succ, List.getElem_cons_zero, List.setIfInBounds_toArray, List.set_cons_zero, List.set_cons_succ]
          refine wpAnyH_done (by kernel_rfl) ?_ _
          go_wp2
          go_roundw
          case rel =>
            refine ⟨k + 1, by omega, by omega, by go_num, ?_, HRW.out.drew, HB.out.drew⟩
            rw [HE.out]; exact HBK.out.drew
          case measure => simp [intOf]; omega
      · obtain rfl : k = 4 := by omega
        rw [codK_all] at HBK
        clear hbk hrow hb c0
        have HB := Lib.hid HB.out
        obtain ⟨q0, q1, q2, q3⟩ : _ ∧ _ ∧ _ ∧ _ := ⟨HBK.out.cell (i := 0) rfl, HBK.out.cell (i := 1) rfl, HBK.out.cell (i := 2) rfl, HBK.out.cell (i := 3) rfl⟩
        have HCO := Lib.hid (fun u => l7ConfOk_any (codecN a.data.toList) (numL b.data.toList) (numL c.data.toList) (numL d.data.toList) u)
        go_wp2_with fail
        refine (HCO.out _).mono ?_
        rintro e w5 ⟨rfl, hb5⟩
        have hq5 := HBK.out.from hb5
        have hb5w := HB.out.trans (hb5.mono HB.out.size)
        have hs5 := BK.from HDB.out hb5w
        obtain ⟨q0, q1, q2, q3⟩ : _ ∧ _ ∧ _ ∧ _ := ⟨hq5.cell (i := 0) rfl, hq5.cell (i := 1) rfl, hq5.cell (i := 2) rfl, hq5.cell (i := 3) rfl⟩
        have HS5 := Lib.hid hs5
        have HB5 := Lib.hid hb5w
        have HQ5 := Lib.hid hq5
        have hgqg : gq ≠ g := by omega
        clear hb5 hq5 hb5w HCO
        cases hcf : confB ⟨codecN a.data.toList, numL b.data.toList, numL c.data.toList, numL d.data.toList⟩ with
        | false =>
          have HE := Lib.hid (show setS s (confW a.data.toList b.data.toList c.data.toList d.data.toList) = (s, aNo) by unfold setS confW; rw [hcf, if_neg Bool.false_ne_true])
          clear hcf hs5
          go_wp2
          go_ret
          exact ⟨by rw [HE.out]; rfl, by rw [HE.out]; exact HS5.out, grownB HB5.out⟩
        | true =>
          have HCF := Lib.hid (show confB (confW a.data.toList b.data.toList c.data.toList d.data.toList) = true from hcf)
          have HE := Lib.hid (show setS s (confW a.data.toList b.data.toList c.data.toList d.data.toList) = (⟨confW a.data.toList b.data.toList c.data.toList d.data.toList, ⟨[], false⟩⟩, aOk) by unfold setS; rw [HCF.out, if_pos rfl])
          obtain ⟨s0, s1, s2, s3, s4, s5, s6⟩ := DB.cells hs5
          have f0 := hs5.free 0
          have f1 := hs5.free 1
          have f2 := hs5.free 2
          have f3 := hs5.free 3
          have f4 := hs5.free 4
          have f5 := hs5.free 5
          have f6 := hs5.free 6
          have hnew := ((((((hs5.set 0 (.int .i64 (codecN a.data.toList))).set 1 (.int .i64 (numL b.data.toList))).set 2 (.int .i64 (numL c.data.toList))).set 3 (.int .i64 (numL d.data.toList))).set 4 (.string ⟨#[]⟩)).set 5 (.bool false)).set 6 (.bool true)
          have HNEW := Lib.hid hnew
          have HGR := Lib.hid (grownSet (grownSet (grownSet (grownSet (grownSet (grownSet (grownSet (grownB (g := g) HB5.out) (i := 0) (.int .i64 (codecN a.data.toList))) (i := 1) (.int .i64 (numL b.data.toList))) (i := 2) (.int .i64 (numL c.data.toList))) (i := 3) (.int .i64 (numL d.data.toList))) (i := 4) (.string ⟨#[]⟩)) (i := 5) (.bool false)) (i := 6) (.bool true))
          clear hcf hs5 hnew
          go_wp2
          go_ret
          exact ⟨by rw [HE.out]; rfl, by rw [HE.out]; unfold DB dbC; rw [HCF.out]; exact HNEW.out, HGR.out⟩
end Go.Proofs.YtcegpcggdcgjbaaGreatDoor
