/- A session in the program: what words come to; a session. -/
import Derived.Test.YtcegpcggdcgjbaaGreatDoorSesD
import Derived.Test.YtcegpcggdcgjbaaGreatDoorSesW
namespace Go.Proofs.YtcegpcggdcgjbaaGreatDoor
open Go.ChangeShapes Go.WideShapes Go.ChangeAt Go.RowKit
open Go.Lib (decDigits)
set_option linter.unusedVariables false
theorem OS.ne_box {w : World} {base g : Nat} {v : Value} {ss : List ByteArray} {cs : Array Value} {t : TypeId} (h : OS w base v ss) (hb : BK w g cs t) (ht : t ≠ 9) : v.ownBlock = none ∨ v.ownBlock ≠ some g := by
  rcases h.2 with ⟨rfl, _⟩ | ⟨g', cap', cur', rfl, _, hg', _⟩
  · exact .inl rfl
  · refine .inr (fun e => ?_)
    simp [Value.ownBlock] at e
    subst e
    unfold BK at hb
    rw [hg'] at hb
    injection hb with hb
    injection hb with _ h2 _
    exact ht h2.symm
theorem OS.keptg {w w' : World} {base g : Nat} {v : Value} {ss : List ByteArray} {cs : Array Value} {t : TypeId} (h : OS w base v ss) (hb : BK w g cs t) (ht : t ≠ 9) (hg : w.grownBy w' (some g)) : OS w' base v ss := h.kept hg (h.ne_box hb ht)
/-- words that an answer reads -/
def WordsOk (ss : List ByteArray) : Prop := 1 ≤ ss.length ∧ ss.length ≤ 5 ∧ (∀ t ∈ ss, t ≠ ⟨#[]⟩) ∧ ∀ t ∈ ss, t.size ≤ 1048576
def toks (ss : List ByteArray) : List (List UInt8) := ss.map (fun t => t.data.toList)
theorem tok_eq (a : ByteArray) (l : List UInt8) : (a.toList == l) = decide (a.data.toList = l) := by
  rw [Lib.toList_data]
  by_cases h : a.data.toList = l
  · rw [decide_eq_true h]; exact beq_iff_eq.2 h
  · rw [decide_eq_false h]; exact beq_eq_false_iff_ne.2 h
set_option maxRecDepth 100000 in
set_option maxHeartbeats 1000000 in
theorem ans1 (s : St) (hok : s.Ok) (g : Nat) (hg : 7 ≤ g) (a : ByteArray) (v : Value) (w : World) (base : Nat) (hw : SesIs w) (ho : OS w base v [a]) (hk : WordsOk [a]) (h : SB w g s) :
    Calls Tryz.prog 16 #[.pointer (some ⟨g, 0, none⟩), v] w (AnsPost w g (ansS s (toks [a]))) := by
  have HC := Lib.hid (contains_any v [a] w base ho hk.1 (by simp) hk.2.2.1)
  have HSB := Lib.hid h
  have HSI := Lib.hid hw
  have HOS := Lib.hid ho
  have HKO := Lib.hid hk
  obtain ⟨r, cap, rfl, _, hrw⟩ := ho.pos (by simp)
  have k0 : w.cell? ⟨r, 0, none⟩ = some (.string a) := ho.cellAt (k := 0) (by simp)
  clear ho hk hw
  by_cases hs1 : a.data.toList = wSet
  · have e1 : (a.toList == [115, 101, 116]) = true := by rw [tok_eq]; exact decide_eq_true hs1
    have e2 : (a.toList == [104, 101, 108, 100]) = false := by rw [tok_eq]; exact decide_eq_false (by rw [hs1]; decide)
    have HE := Lib.hid (show ansS s (toks [a]) = (s, aWhat) by show (if _ then _ else _) = _; exact if_neg (by show ¬ a.data.toList = wHeld; rw [hs1]; decide))
    clear h hs1
    go_enter Tryz.func16, Tryz.ntmps16
    go_wp2_with fail
    refine HC.out.mono ?_
    rintro e w1 ⟨rfl, rfl⟩
    go_wp2
    go_ret
    exact ⟨by rw [HE.out]; rfl, by rw [HE.out]; exact HSB.out, grownB (Below.refl _ _)⟩
  · have e1 : (a.toList == [115, 101, 116]) = false := by rw [tok_eq]; exact decide_eq_false hs1
    by_cases hh1 : a.data.toList = wHeld
    · have e2 : (a.toList == [104, 101, 108, 100]) = true := by rw [tok_eq]; exact decide_eq_true hh1
      have HE := Lib.hid (show ansS s (toks [a]) = (s, decDigits s.fd.held.length) by show (if _ then _ else _) = _; exact if_pos hh1)
      obtain ⟨s0, s1, s2, s3, s4, s5⟩ := SB.cells h
      obtain ⟨H, hH⟩ : ∃ H : ByteArray, H = ⟨s.fd.held.toArray⟩ := ⟨_, rfl⟩
      have hHs : H.size = s.fd.held.length := by rw [hH]; simp [ByteArray.size]
      rw [← hH] at s4
      have HHS := Lib.hid hHs
      have hhl := hok.held
      have hH92 : H.size ≤ 92 := by omega
      have HI := Lib.hid (fun u hu => itoaN_any H.size (by omega) u hu)
      clear h hs1 hh1 hH hHs s0 s1 s2 s3 s5 hhl
      go_enter Tryz.func16, Tryz.ntmps16
      go_wp2_with fail
      refine HC.out.mono ?_
      rintro e w1 ⟨rfl, rfl⟩
      go_wp2_with fail
      refine (HI.out _ HSI.out.pow).mono ?_
      rintro e w2 ⟨rfl, hb2⟩
      have HB2 := Lib.hid hb2
      clear hb2
      go_wp2
      go_ret
      exact ⟨by rw [HE.out, ← HHS.out]; rfl, by rw [HE.out]; exact BK.from HSB.out HB2.out, grownB HB2.out⟩
    · have e2 : (a.toList == [104, 101, 108, 100]) = false := by rw [tok_eq]; exact decide_eq_false hh1
      have HE := Lib.hid (show ansS s (toks [a]) = (s, aWhat) by show (if _ then _ else _) = _; exact if_neg hh1)
      clear h hs1 hh1
      go_enter Tryz.func16, Tryz.ntmps16
      go_wp2_with fail
      refine HC.out.mono ?_
      rintro e w1 ⟨rfl, rfl⟩
      go_wp2
      go_ret
      exact ⟨by rw [HE.out]; rfl, by rw [HE.out]; exact HSB.out, grownB (Below.refl _ _)⟩
set_option maxRecDepth 100000 in
set_option maxHeartbeats 1000000 in
theorem ans2 (s : St) (hok : s.Ok) (g : Nat) (hg : 7 ≤ g) (a b : ByteArray) (v : Value) (w : World) (base : Nat) (hw : SesIs w) (ho : OS w base v [a, b]) (hk : WordsOk [a, b]) (h : SB w g s) :
    Calls Tryz.prog 16 #[.pointer (some ⟨g, 0, none⟩), v] w (AnsPost w g (ansS s (toks [a, b]))) := by
  have HC := Lib.hid (contains_any v [a, b] w base ho hk.1 (by simp) hk.2.2.1)
  have HSB := Lib.hid h
  have HSI := Lib.hid hw
  have HOS := Lib.hid ho
  have HKO := Lib.hid hk
  obtain ⟨r, cap, rfl, _, hrw⟩ := ho.pos (by simp)
  obtain ⟨k0, k1⟩ : w.cell? ⟨r, 0, none⟩ = some (.string a) ∧ w.cell? ⟨r, 1, none⟩ = some (.string b) := ⟨ho.cellAt (k := 0) (by simp), ho.cellAt (k := 1) (by simp)⟩
  clear ho hk hw
  by_cases hs1 : a.data.toList = wSet
  · have e1 : (a.toList == [115, 101, 116]) = true := by rw [tok_eq]; exact decide_eq_true hs1
    have e2 : (a.toList == [104, 101, 108, 100]) = false := by rw [tok_eq]; exact decide_eq_false (by rw [hs1]; decide)
    obtain ⟨s0, s1, s2, s3, s4, s5⟩ := SB.cells h
    clear h hs1 s0 s1 s2 s3 s4 s5
    go_enter Tryz.func16, Tryz.ntmps16
    go_wp2_with fail
    refine HC.out.mono ?_
    rintro e w1 ⟨rfl, rfl⟩
    go_wp2_with fail
    have hS : w.drew.cell? ⟨r, 0, none⟩ = some (.string a) ∧ w.drew.cell? ⟨r, 1, none⟩ = some (.string b) := ⟨k0, k1⟩
    refine wp_region_held_drew (S := (fun wx => wx.cell? ⟨r, 0, none⟩ = some (.string a) ∧ wx.cell? ⟨r, 1, none⟩ = some (.string b))) (by kernel_rfl) hS (fun hHeld => ?_)
    refine wpAnyH_take (i := 0) (v := ?_) rfl (by kernel_rfl) (by kernel_rfl) (by kernel_rfl) (fun _ _ _ h => h) (Or.inl ⟨by rfl, ?_⟩) (by assumption) ?_
    rotate_left
    · intro wq hSw
      (try dsimp only at hSw)
      (try simp only [List.getElem_toArray, List.getElem_cons_zero])
      go_simp
      (try with_reducible rfl)
    simp only [Act.put, List.getElem_toArray, List.getElem_cons_zero, List.setIfInBounds_toArray, List.set_cons_zero, List.set_cons_succ]
    refine wpAnyH_take (i := 1) (v := ?_) rfl (by kernel_rfl) (by kernel_rfl) (by kernel_rfl) (fun _ _ _ h => h) (Or.inl ⟨by rfl, ?_⟩) (by assumption) ?_
    rotate_left
    · intro wq hSw
      (try dsimp only at hSw)
      (try simp only [List.getElem_toArray, List.getElem_cons_succ, List.getElem_cons_zero])
      go_simp
      (try with_reducible rfl)
    simp only [Act.put, List.getElem_toArray, List.getElem_cons_succ, List.getElem_cons_zero, List.setIfInBounds_toArray, List.set_cons_zero, List.set_cons_succ]
    refine wpAnyH_take (i := 2) (v := ?_) rfl (by kernel_rfl) (by kernel_rfl) (by kernel_rfl) (fun _ _ _ h => h) (Or.inl ⟨by rfl, ?_⟩) (by assumption) ?_
    rotate_left
    · intro wq hSw
      (try dsimp only at hSw)
      (try simp only [List.getElem_toArray, List.getElem_cons_succ, List.getElem_cons_zero])
      go_simp
      (try with_reducible rfl)
    simp only [Act.put, List.getElem_toArray, List.getElem_cons_succ, List.getElem_cons_zero, List.setIfInBounds_toArray, List.set_cons_zero, List.set_cons_succ]
    refine wpAnyH_take (i := 3) (v := ?_) rfl (by kernel_rfl) (by kernel_rfl) (by kernel_rfl) (fun _ _ _ h => h) (Or.inl ⟨by rfl, ?_⟩) (by assumption) ?_
    rotate_left
    · intro wq hSw
      (try dsimp only at hSw)
      (try simp only [List.getElem_toArray, List.getElem_cons_succ, List.getElem_cons_zero])
      go_simp
      (try with_reducible rfl)
    simp only [Act.put, List.getElem_toArray, List.getElem_cons_succ, List.getElem_cons_zero, List.setIfInBounds_toArray, List.set_cons_zero, List.set_cons_succ]
    refine wpAnyH_take (i := 4) (v := ?_) rfl (by kernel_rfl) (by kernel_rfl) (by kernel_rfl) (fun _ _ _ h => h) (Or.inl ⟨by rfl, ?_⟩) (by assumption) ?_
    rotate_left
    · intro wq hSw
      (try dsimp only at hSw)
      (try simp only [List.getElem_toArray, List.getElem_cons_succ, List.getElem_cons_zero])
      go_simp
      (try with_reducible rfl)
    simp only [Act.put, List.getElem_toArray, List.getElem_cons_succ, List.getElem_cons_zero, List.setIfInBounds_toArray, List.set_cons_zero, List.set_cons_succ]
    refine wpAnyH_take (i := 5) (v := ?_) rfl (by kernel_rfl) (by kernel_rfl) (by kernel_rfl) (fun _ _ _ h => h) (Or.inl ⟨by rfl, ?_⟩) (by assumption) ?_
    rotate_left
    · intro wq hSw
      (try dsimp only at hSw)
      (try simp only [List.getElem_toArray, List.getElem_cons_succ, List.getElem_cons_zero])
      go_simp
      (try with_reducible rfl)
    simp only [Act.put, List.getElem_toArray, List.getElem_cons_succ, List.getElem_cons_zero, List.setIfInBounds_toArray, List.set_cons_zero, List.set_cons_succ]
    refine wpAnyH_take (i := 6) (v := ?_) rfl (by kernel_rfl) (by kernel_rfl) (by kernel_rfl) (fun _ _ _ h => h) (Or.inl ⟨by rfl, ?_⟩) (by assumption) ?_
    rotate_left
    · intro wq hSw
      (try dsimp only at hSw)
      (try simp only [List.getElem_toArray, List.getElem_cons_succ, List.getElem_cons_zero])
      go_simp
      (try with_reducible rfl)
    simp only [Act.put, List.getElem_toArray, List.getElem_cons_succ, List.getElem_cons_zero, List.setIfInBounds_toArray, List.set_cons_zero, List.set_cons_succ]
    refine wpAnyH_ready (rs := [7]) (by kernel_rfl) (by simp) ?_
    refine AllReadyH.cons rfl (fun K hK => ?_) AllReadyH.nil
    (try simp only [List.getElem_toArray, List.getElem_cons_succ, List.getElem_cons_zero])
    go_simp
    go_at_call 30
    refine (answerBytes_any s hok g hg a b _ HSI.out.drew HSB.out.drew (HKO.out.2.2.2 a (by simp)) (HKO.out.2.2.2 b (by simp))).mono ?_
    rintro e w2 ⟨rfl, hsb2, hg2⟩
    have hos2 := HOS.out.drew.keptg HSB.out.drew (by decide) hg2
    have hS : w2.cell? ⟨r, 0, none⟩ = some (.string a) ∧ w2.cell? ⟨r, 1, none⟩ = some (.string b) := ⟨hos2.cellAt (k := 0) (by simp), hos2.cellAt (k := 1) (by simp)⟩
    refine hK.out _ _ hS (fun hHeld => ?_)
    clear hK K
    refine wpAnyH_take (i := 8) (v := ?_) rfl (by kernel_rfl) (by kernel_rfl) (by kernel_rfl) (fun _ _ _ h => h) (Or.inl ⟨by rfl, ?_⟩) (by assumption) ?_
    rotate_left
    · intro wq hSw
      (try dsimp only at hSw)
      (try simp only [List.getElem_toArray, List.getElem_cons_succ, List.getElem_cons_zero])
      go_simp
      (try with_reducible rfl)
    simp only [Act.put, List.getElem_toArray, List.getElem_cons_succ, List.getElem_cons_zero, List.setIfInBounds_toArray, List.set_cons_zero, List.set_cons_succ]
    refine wpAnyH_done (by kernel_rfl) ?_ _
    have HSB2 := Lib.hid hsb2
    have HG2 := Lib.hid hg2
    clear hsb2 hg2 hos2
    go_wp2
    go_ret
    exact ⟨rfl, HSB2.out, grown_trans (grownB (g := g) (Below.refl _ _).drew) HG2.out⟩
  · have e1 : (a.toList == [115, 101, 116]) = false := by rw [tok_eq]; exact decide_eq_false hs1
    by_cases hh1 : a.data.toList = wHeld
    · have e2 : (a.toList == [104, 101, 108, 100]) = true := by rw [tok_eq]; exact decide_eq_true hh1
      obtain ⟨s0, s1, s2, s3, s4, s5⟩ := SB.cells h
      clear h hs1 hh1 s0 s1 s2 s3 s4 s5
      go_enter Tryz.func16, Tryz.ntmps16
      go_wp2_with fail
      refine HC.out.mono ?_
      rintro e w1 ⟨rfl, rfl⟩
      go_wp2_with fail
      have hS : w.drew.cell? ⟨r, 0, none⟩ = some (.string a) ∧ w.drew.cell? ⟨r, 1, none⟩ = some (.string b) := ⟨k0, k1⟩
      refine wp_region_held_drew (S := (fun wx => wx.cell? ⟨r, 0, none⟩ = some (.string a) ∧ wx.cell? ⟨r, 1, none⟩ = some (.string b))) (by kernel_rfl) hS (fun hHeld => ?_)
      refine wpAnyH_take (i := 0) (v := ?_) rfl (by kernel_rfl) (by kernel_rfl) (by kernel_rfl) (fun _ _ _ h => h) (Or.inl ⟨by rfl, ?_⟩) (by assumption) ?_
      rotate_left
      · intro wq hSw
        (try dsimp only at hSw)
        (try simp only [List.getElem_toArray, List.getElem_cons_zero])
        go_simp
        (try with_reducible rfl)
      simp only [Act.put, List.getElem_toArray, List.getElem_cons_zero, List.setIfInBounds_toArray, List.set_cons_zero, List.set_cons_succ]
      refine wpAnyH_take (i := 1) (v := ?_) rfl (by kernel_rfl) (by kernel_rfl) (by kernel_rfl) (fun _ _ _ h => h) (Or.inl ⟨by rfl, ?_⟩) (by assumption) ?_
      rotate_left
      · intro wq hSw
        (try dsimp only at hSw)
        (try simp only [List.getElem_toArray, List.getElem_cons_succ, List.getElem_cons_zero])
        go_simp
        (try with_reducible rfl)
      simp only [Act.put, List.getElem_toArray, List.getElem_cons_succ, List.getElem_cons_zero, List.setIfInBounds_toArray, List.set_cons_zero, List.set_cons_succ]
      refine wpAnyH_take (i := 2) (v := ?_) rfl (by kernel_rfl) (by kernel_rfl) (by kernel_rfl) (fun _ _ _ h => h) (Or.inl ⟨by rfl, ?_⟩) (by assumption) ?_
      rotate_left
      · intro wq hSw
        (try dsimp only at hSw)
        (try simp only [List.getElem_toArray, List.getElem_cons_succ, List.getElem_cons_zero])
        go_simp
        (try with_reducible rfl)
      simp only [Act.put, List.getElem_toArray, List.getElem_cons_succ, List.getElem_cons_zero, List.setIfInBounds_toArray, List.set_cons_zero, List.set_cons_succ]
      refine wpAnyH_take (i := 3) (v := ?_) rfl (by kernel_rfl) (by kernel_rfl) (by kernel_rfl) (fun _ _ _ h => h) (Or.inl ⟨by rfl, ?_⟩) (by assumption) ?_
      rotate_left
      · intro wq hSw
        (try dsimp only at hSw)
        (try simp only [List.getElem_toArray, List.getElem_cons_succ, List.getElem_cons_zero])
        go_simp
        (try with_reducible rfl)
      simp only [Act.put, List.getElem_toArray, List.getElem_cons_succ, List.getElem_cons_zero, List.setIfInBounds_toArray, List.set_cons_zero, List.set_cons_succ]
      refine wpAnyH_take (i := 4) (v := ?_) rfl (by kernel_rfl) (by kernel_rfl) (by kernel_rfl) (fun _ _ _ h => h) (Or.inl ⟨by rfl, ?_⟩) (by assumption) ?_
      rotate_left
      · intro wq hSw
        (try dsimp only at hSw)
        (try simp only [List.getElem_toArray, List.getElem_cons_succ, List.getElem_cons_zero])
        go_simp
        (try with_reducible rfl)
      simp only [Act.put, List.getElem_toArray, List.getElem_cons_succ, List.getElem_cons_zero, List.setIfInBounds_toArray, List.set_cons_zero, List.set_cons_succ]
      refine wpAnyH_take (i := 5) (v := ?_) rfl (by kernel_rfl) (by kernel_rfl) (by kernel_rfl) (fun _ _ _ h => h) (Or.inl ⟨by rfl, ?_⟩) (by assumption) ?_
      rotate_left
      · intro wq hSw
        (try dsimp only at hSw)
        (try simp only [List.getElem_toArray, List.getElem_cons_succ, List.getElem_cons_zero])
        go_simp
        (try with_reducible rfl)
      simp only [Act.put, List.getElem_toArray, List.getElem_cons_succ, List.getElem_cons_zero, List.setIfInBounds_toArray, List.set_cons_zero, List.set_cons_succ]
      refine wpAnyH_take (i := 6) (v := ?_) rfl (by kernel_rfl) (by kernel_rfl) (by kernel_rfl) (fun _ _ _ h => h) (Or.inl ⟨by rfl, ?_⟩) (by assumption) ?_
      rotate_left
      · intro wq hSw
        (try dsimp only at hSw)
        (try simp only [List.getElem_toArray, List.getElem_cons_succ, List.getElem_cons_zero])
        go_simp
        (try with_reducible rfl)
      simp only [Act.put, List.getElem_toArray, List.getElem_cons_succ, List.getElem_cons_zero, List.setIfInBounds_toArray, List.set_cons_zero, List.set_cons_succ]
      refine wpAnyH_ready (rs := [7]) (by kernel_rfl) (by simp) ?_
      refine AllReadyH.cons rfl (fun K hK => ?_) AllReadyH.nil
      (try simp only [List.getElem_toArray, List.getElem_cons_succ, List.getElem_cons_zero])
      go_simp
      go_at_call 30
      refine (answerBytes_any s hok g hg a b _ HSI.out.drew HSB.out.drew (HKO.out.2.2.2 a (by simp)) (HKO.out.2.2.2 b (by simp))).mono ?_
      rintro e w2 ⟨rfl, hsb2, hg2⟩
      have hos2 := HOS.out.drew.keptg HSB.out.drew (by decide) hg2
      have hS : w2.cell? ⟨r, 0, none⟩ = some (.string a) ∧ w2.cell? ⟨r, 1, none⟩ = some (.string b) := ⟨hos2.cellAt (k := 0) (by simp), hos2.cellAt (k := 1) (by simp)⟩
      refine hK.out _ _ hS (fun hHeld => ?_)
      clear hK K
      refine wpAnyH_take (i := 8) (v := ?_) rfl (by kernel_rfl) (by kernel_rfl) (by kernel_rfl) (fun _ _ _ h => h) (Or.inl ⟨by rfl, ?_⟩) (by assumption) ?_
      rotate_left
      · intro wq hSw
        (try dsimp only at hSw)
        (try simp only [List.getElem_toArray, List.getElem_cons_succ, List.getElem_cons_zero])
        go_simp
        (try with_reducible rfl)
      simp only [Act.put, List.getElem_toArray, List.getElem_cons_succ, List.getElem_cons_zero, List.setIfInBounds_toArray, List.set_cons_zero, List.set_cons_succ]
      refine wpAnyH_done (by kernel_rfl) ?_ _
      have HSB2 := Lib.hid hsb2
      have HG2 := Lib.hid hg2
      clear hsb2 hg2 hos2
      go_wp2
      go_ret
      exact ⟨rfl, HSB2.out, grown_trans (grownB (g := g) (Below.refl _ _).drew) HG2.out⟩
    · have e2 : (a.toList == [104, 101, 108, 100]) = false := by rw [tok_eq]; exact decide_eq_false hh1
      obtain ⟨s0, s1, s2, s3, s4, s5⟩ := SB.cells h
      clear h hs1 hh1 s0 s1 s2 s3 s4 s5
      go_enter Tryz.func16, Tryz.ntmps16
      go_wp2_with fail
      refine HC.out.mono ?_
      rintro e w1 ⟨rfl, rfl⟩
      go_wp2_with fail
      have hS : w.drew.cell? ⟨r, 0, none⟩ = some (.string a) ∧ w.drew.cell? ⟨r, 1, none⟩ = some (.string b) := ⟨k0, k1⟩
      refine wp_region_held_drew (S := (fun wx => wx.cell? ⟨r, 0, none⟩ = some (.string a) ∧ wx.cell? ⟨r, 1, none⟩ = some (.string b))) (by kernel_rfl) hS (fun hHeld => ?_)
      refine wpAnyH_take (i := 0) (v := ?_) rfl (by kernel_rfl) (by kernel_rfl) (by kernel_rfl) (fun _ _ _ h => h) (Or.inl ⟨by rfl, ?_⟩) (by assumption) ?_
      rotate_left
      · intro wq hSw
        (try dsimp only at hSw)
        (try simp only [List.getElem_toArray, List.getElem_cons_zero])
        go_simp
        (try with_reducible rfl)
      simp only [Act.put, List.getElem_toArray, List.getElem_cons_zero, List.setIfInBounds_toArray, List.set_cons_zero, List.set_cons_succ]
      refine wpAnyH_take (i := 1) (v := ?_) rfl (by kernel_rfl) (by kernel_rfl) (by kernel_rfl) (fun _ _ _ h => h) (Or.inl ⟨by rfl, ?_⟩) (by assumption) ?_
      rotate_left
      · intro wq hSw
        (try dsimp only at hSw)
        (try simp only [List.getElem_toArray, List.getElem_cons_succ, List.getElem_cons_zero])
        go_simp
        (try with_reducible rfl)
      simp only [Act.put, List.getElem_toArray, List.getElem_cons_succ, List.getElem_cons_zero, List.setIfInBounds_toArray, List.set_cons_zero, List.set_cons_succ]
      refine wpAnyH_take (i := 2) (v := ?_) rfl (by kernel_rfl) (by kernel_rfl) (by kernel_rfl) (fun _ _ _ h => h) (Or.inl ⟨by rfl, ?_⟩) (by assumption) ?_
      rotate_left
      · intro wq hSw
        (try dsimp only at hSw)
        (try simp only [List.getElem_toArray, List.getElem_cons_succ, List.getElem_cons_zero])
        go_simp
        (try with_reducible rfl)
      simp only [Act.put, List.getElem_toArray, List.getElem_cons_succ, List.getElem_cons_zero, List.setIfInBounds_toArray, List.set_cons_zero, List.set_cons_succ]
      refine wpAnyH_take (i := 3) (v := ?_) rfl (by kernel_rfl) (by kernel_rfl) (by kernel_rfl) (fun _ _ _ h => h) (Or.inl ⟨by rfl, ?_⟩) (by assumption) ?_
      rotate_left
      · intro wq hSw
        (try dsimp only at hSw)
        (try simp only [List.getElem_toArray, List.getElem_cons_succ, List.getElem_cons_zero])
        go_simp
        (try with_reducible rfl)
      simp only [Act.put, List.getElem_toArray, List.getElem_cons_succ, List.getElem_cons_zero, List.setIfInBounds_toArray, List.set_cons_zero, List.set_cons_succ]
      refine wpAnyH_take (i := 4) (v := ?_) rfl (by kernel_rfl) (by kernel_rfl) (by kernel_rfl) (fun _ _ _ h => h) (Or.inl ⟨by rfl, ?_⟩) (by assumption) ?_
      rotate_left
      · intro wq hSw
        (try dsimp only at hSw)
        (try simp only [List.getElem_toArray, List.getElem_cons_succ, List.getElem_cons_zero])
        go_simp
        (try with_reducible rfl)
      simp only [Act.put, List.getElem_toArray, List.getElem_cons_succ, List.getElem_cons_zero, List.setIfInBounds_toArray, List.set_cons_zero, List.set_cons_succ]
      refine wpAnyH_take (i := 5) (v := ?_) rfl (by kernel_rfl) (by kernel_rfl) (by kernel_rfl) (fun _ _ _ h => h) (Or.inl ⟨by rfl, ?_⟩) (by assumption) ?_
      rotate_left
      · intro wq hSw
        (try dsimp only at hSw)
        (try simp only [List.getElem_toArray, List.getElem_cons_succ, List.getElem_cons_zero])
        go_simp
        (try with_reducible rfl)
      simp only [Act.put, List.getElem_toArray, List.getElem_cons_succ, List.getElem_cons_zero, List.setIfInBounds_toArray, List.set_cons_zero, List.set_cons_succ]
      refine wpAnyH_take (i := 6) (v := ?_) rfl (by kernel_rfl) (by kernel_rfl) (by kernel_rfl) (fun _ _ _ h => h) (Or.inl ⟨by rfl, ?_⟩) (by assumption) ?_
      rotate_left
      · intro wq hSw
        (try dsimp only at hSw)
        (try simp only [List.getElem_toArray, List.getElem_cons_succ, List.getElem_cons_zero])
        go_simp
        (try with_reducible rfl)
      simp only [Act.put, List.getElem_toArray, List.getElem_cons_succ, List.getElem_cons_zero, List.setIfInBounds_toArray, List.set_cons_zero, List.set_cons_succ]
      refine wpAnyH_ready (rs := [7]) (by kernel_rfl) (by simp) ?_
      refine AllReadyH.cons rfl (fun K hK => ?_) AllReadyH.nil
      (try simp only [List.getElem_toArray, List.getElem_cons_succ, List.getElem_cons_zero])
      go_simp
      go_at_call 30
      refine (answerBytes_any s hok g hg a b _ HSI.out.drew HSB.out.drew (HKO.out.2.2.2 a (by simp)) (HKO.out.2.2.2 b (by simp))).mono ?_
      rintro e w2 ⟨rfl, hsb2, hg2⟩
      have hos2 := HOS.out.drew.keptg HSB.out.drew (by decide) hg2
      have hS : w2.cell? ⟨r, 0, none⟩ = some (.string a) ∧ w2.cell? ⟨r, 1, none⟩ = some (.string b) := ⟨hos2.cellAt (k := 0) (by simp), hos2.cellAt (k := 1) (by simp)⟩
      refine hK.out _ _ hS (fun hHeld => ?_)
      clear hK K
      refine wpAnyH_take (i := 8) (v := ?_) rfl (by kernel_rfl) (by kernel_rfl) (by kernel_rfl) (fun _ _ _ h => h) (Or.inl ⟨by rfl, ?_⟩) (by assumption) ?_
      rotate_left
      · intro wq hSw
        (try dsimp only at hSw)
        (try simp only [List.getElem_toArray, List.getElem_cons_succ, List.getElem_cons_zero])
        go_simp
        (try with_reducible rfl)
      simp only [Act.put, List.getElem_toArray, List.getElem_cons_succ, List.getElem_cons_zero, List.setIfInBounds_toArray, List.set_cons_zero, List.set_cons_succ]
      refine wpAnyH_done (by kernel_rfl) ?_ _
      have HSB2 := Lib.hid hsb2
      have HG2 := Lib.hid hg2
      clear hsb2 hg2 hos2
      go_wp2
      go_ret
      exact ⟨rfl, HSB2.out, grown_trans (grownB (g := g) (Below.refl _ _).drew) HG2.out⟩
set_option maxRecDepth 100000 in
set_option maxHeartbeats 1000000 in
theorem ans3 (s : St) (hok : s.Ok) (g : Nat) (hg : 7 ≤ g) (a b c : ByteArray) (v : Value) (w : World) (base : Nat) (hw : SesIs w) (ho : OS w base v [a, b, c]) (hk : WordsOk [a, b, c]) (h : SB w g s) :
    Calls Tryz.prog 16 #[.pointer (some ⟨g, 0, none⟩), v] w (AnsPost w g (ansS s (toks [a, b, c]))) := by
  have HC := Lib.hid (contains_any v [a, b, c] w base ho hk.1 (by simp) hk.2.2.1)
  have HSB := Lib.hid h
  have HSI := Lib.hid hw
  have HOS := Lib.hid ho
  have HKO := Lib.hid hk
  obtain ⟨r, cap, rfl, _, hrw⟩ := ho.pos (by simp)
  obtain ⟨k0, k1, k2⟩ : w.cell? ⟨r, 0, none⟩ = some (.string a) ∧ w.cell? ⟨r, 1, none⟩ = some (.string b) ∧ w.cell? ⟨r, 2, none⟩ = some (.string c) := ⟨ho.cellAt (k := 0) (by simp), ho.cellAt (k := 1) (by simp), ho.cellAt (k := 2) (by simp)⟩
  clear ho hk hw
  by_cases hs1 : a.data.toList = wSet
  · have e1 : (a.toList == [115, 101, 116]) = true := by rw [tok_eq]; exact decide_eq_true hs1
    have e2 : (a.toList == [104, 101, 108, 100]) = false := by rw [tok_eq]; exact decide_eq_false (by rw [hs1]; decide)
    have HE := Lib.hid (show ansS s (toks [a, b, c]) = (s, aWhat) by rfl)
    clear h hs1
    go_enter Tryz.func16, Tryz.ntmps16
    go_wp2_with fail
    refine HC.out.mono ?_
    rintro e w1 ⟨rfl, rfl⟩
    go_wp2
    go_ret
    exact ⟨by rw [HE.out]; rfl, by rw [HE.out]; exact HSB.out, grownB (Below.refl _ _)⟩
  · have e1 : (a.toList == [115, 101, 116]) = false := by rw [tok_eq]; exact decide_eq_false hs1
    by_cases hh1 : a.data.toList = wHeld
    · have e2 : (a.toList == [104, 101, 108, 100]) = true := by rw [tok_eq]; exact decide_eq_true hh1
      have HE := Lib.hid (show ansS s (toks [a, b, c]) = (s, aWhat) by rfl)
      clear h hs1 hh1
      go_enter Tryz.func16, Tryz.ntmps16
      go_wp2_with fail
      refine HC.out.mono ?_
      rintro e w1 ⟨rfl, rfl⟩
      go_wp2
      go_ret
      exact ⟨by rw [HE.out]; rfl, by rw [HE.out]; exact HSB.out, grownB (Below.refl _ _)⟩
    · have e2 : (a.toList == [104, 101, 108, 100]) = false := by rw [tok_eq]; exact decide_eq_false hh1
      have HE := Lib.hid (show ansS s (toks [a, b, c]) = (s, aWhat) by rfl)
      clear h hs1 hh1
      go_enter Tryz.func16, Tryz.ntmps16
      go_wp2_with fail
      refine HC.out.mono ?_
      rintro e w1 ⟨rfl, rfl⟩
      go_wp2
      go_ret
      exact ⟨by rw [HE.out]; rfl, by rw [HE.out]; exact HSB.out, grownB (Below.refl _ _)⟩
set_option maxRecDepth 100000 in
set_option maxHeartbeats 1000000 in
theorem ans4 (s : St) (hok : s.Ok) (g : Nat) (hg : 7 ≤ g) (a b c d : ByteArray) (v : Value) (w : World) (base : Nat) (hw : SesIs w) (ho : OS w base v [a, b, c, d]) (hk : WordsOk [a, b, c, d]) (h : SB w g s) :
    Calls Tryz.prog 16 #[.pointer (some ⟨g, 0, none⟩), v] w (AnsPost w g (ansS s (toks [a, b, c, d]))) := by
  have HC := Lib.hid (contains_any v [a, b, c, d] w base ho hk.1 (by simp) hk.2.2.1)
  have HSB := Lib.hid h
  have HSI := Lib.hid hw
  have HOS := Lib.hid ho
  have HKO := Lib.hid hk
  obtain ⟨r, cap, rfl, _, hrw⟩ := ho.pos (by simp)
  obtain ⟨k0, k1, k2, k3⟩ : w.cell? ⟨r, 0, none⟩ = some (.string a) ∧ w.cell? ⟨r, 1, none⟩ = some (.string b) ∧ w.cell? ⟨r, 2, none⟩ = some (.string c) ∧ w.cell? ⟨r, 3, none⟩ = some (.string d) := ⟨ho.cellAt (k := 0) (by simp), ho.cellAt (k := 1) (by simp), ho.cellAt (k := 2) (by simp), ho.cellAt (k := 3) (by simp)⟩
  clear ho hk hw
  by_cases hs1 : a.data.toList = wSet
  · have e1 : (a.toList == [115, 101, 116]) = true := by rw [tok_eq]; exact decide_eq_true hs1
    have e2 : (a.toList == [104, 101, 108, 100]) = false := by rw [tok_eq]; exact decide_eq_false (by rw [hs1]; decide)
    have HE := Lib.hid (show ansS s (toks [a, b, c, d]) = (s, aWhat) by rfl)
    clear h hs1
    go_enter Tryz.func16, Tryz.ntmps16
    go_wp2_with fail
    refine HC.out.mono ?_
    rintro e w1 ⟨rfl, rfl⟩
    go_wp2
    go_ret
    exact ⟨by rw [HE.out]; rfl, by rw [HE.out]; exact HSB.out, grownB (Below.refl _ _)⟩
  · have e1 : (a.toList == [115, 101, 116]) = false := by rw [tok_eq]; exact decide_eq_false hs1
    by_cases hh1 : a.data.toList = wHeld
    · have e2 : (a.toList == [104, 101, 108, 100]) = true := by rw [tok_eq]; exact decide_eq_true hh1
      have HE := Lib.hid (show ansS s (toks [a, b, c, d]) = (s, aWhat) by rfl)
      clear h hs1 hh1
      go_enter Tryz.func16, Tryz.ntmps16
      go_wp2_with fail
      refine HC.out.mono ?_
      rintro e w1 ⟨rfl, rfl⟩
      go_wp2
      go_ret
      exact ⟨by rw [HE.out]; rfl, by rw [HE.out]; exact HSB.out, grownB (Below.refl _ _)⟩
    · have e2 : (a.toList == [104, 101, 108, 100]) = false := by rw [tok_eq]; exact decide_eq_false hh1
      have HE := Lib.hid (show ansS s (toks [a, b, c, d]) = (s, aWhat) by rfl)
      clear h hs1 hh1
      go_enter Tryz.func16, Tryz.ntmps16
      go_wp2_with fail
      refine HC.out.mono ?_
      rintro e w1 ⟨rfl, rfl⟩
      go_wp2
      go_ret
      exact ⟨by rw [HE.out]; rfl, by rw [HE.out]; exact HSB.out, grownB (Below.refl _ _)⟩
set_option maxRecDepth 100000 in
set_option maxHeartbeats 1000000 in
theorem ans5 (s : St) (hok : s.Ok) (g : Nat) (hg : 7 ≤ g) (a b c d e : ByteArray) (v : Value) (w : World) (base : Nat) (hw : SesIs w) (ho : OS w base v [a, b, c, d, e]) (hk : WordsOk [a, b, c, d, e]) (h : SB w g s) :
    Calls Tryz.prog 16 #[.pointer (some ⟨g, 0, none⟩), v] w (AnsPost w g (ansS s (toks [a, b, c, d, e]))) := by
  have HC := Lib.hid (contains_any v [a, b, c, d, e] w base ho hk.1 (by simp) hk.2.2.1)
  have HSB := Lib.hid h
  have HSI := Lib.hid hw
  have HOS := Lib.hid ho
  have HKO := Lib.hid hk
  obtain ⟨r, cap, rfl, _, hrw⟩ := ho.pos (by simp)
  obtain ⟨k0, k1, k2, k3, k4⟩ : w.cell? ⟨r, 0, none⟩ = some (.string a) ∧ w.cell? ⟨r, 1, none⟩ = some (.string b) ∧ w.cell? ⟨r, 2, none⟩ = some (.string c) ∧ w.cell? ⟨r, 3, none⟩ = some (.string d) ∧ w.cell? ⟨r, 4, none⟩ = some (.string e) := ⟨ho.cellAt (k := 0) (by simp), ho.cellAt (k := 1) (by simp), ho.cellAt (k := 2) (by simp), ho.cellAt (k := 3) (by simp), ho.cellAt (k := 4) (by simp)⟩
  clear ho hk hw
  by_cases hs1 : a.data.toList = wSet
  · have e1 : (a.toList == [115, 101, 116]) = true := by rw [tok_eq]; exact decide_eq_true hs1
    have e2 : (a.toList == [104, 101, 108, 100]) = false := by rw [tok_eq]; exact decide_eq_false (by rw [hs1]; decide)
    have HE := Lib.hid (show ansS s (toks [a, b, c, d, e]) = setS s (confW b.data.toList c.data.toList d.data.toList e.data.toList) by show (if _ then _ else _) = _; exact if_pos hs1)
    clear h hs1
    go_enter Tryz.func16, Tryz.ntmps16
    go_wp2_with fail
    refine HC.out.mono ?_
    rintro ee w1 ⟨rfl, rfl⟩
    go_wp2_with fail
    have hS : w.drew.cell? ⟨r, 1, none⟩ = some (.string b) ∧ w.drew.cell? ⟨r, 2, none⟩ = some (.string c) ∧ w.drew.cell? ⟨r, 3, none⟩ = some (.string d) ∧ w.drew.cell? ⟨r, 4, none⟩ = some (.string e) := ⟨k1, k2, k3, k4⟩
    refine wp_region_held_drew (S := (fun wx => wx.cell? ⟨r, 1, none⟩ = some (.string b) ∧ wx.cell? ⟨r, 2, none⟩ = some (.string c) ∧ wx.cell? ⟨r, 3, none⟩ = some (.string d) ∧ wx.cell? ⟨r, 4, none⟩ = some (.string e))) (by kernel_rfl) hS (fun hHeld => ?_)
    refine wpAnyH_take (i := 0) (v := ?_) rfl (by kernel_rfl) (by kernel_rfl) (by kernel_rfl) (fun _ _ _ h => h) (Or.inl ⟨by rfl, ?_⟩) (by assumption) ?_
    rotate_left
    · intro wq hSw
      (try dsimp only at hSw)
      (try simp only [List.getElem_toArray, List.getElem_cons_zero])
      go_simp
      (try with_reducible rfl)
    simp only [Act.put, List.getElem_toArray, List.getElem_cons_zero, List.setIfInBounds_toArray, List.set_cons_zero, List.set_cons_succ]
    refine wpAnyH_take (i := 1) (v := ?_) rfl (by kernel_rfl) (by kernel_rfl) (by kernel_rfl) (fun _ _ _ h => h) (Or.inl ⟨by rfl, ?_⟩) (by assumption) ?_
    rotate_left
    · intro wq hSw
      (try dsimp only at hSw)
      (try simp only [List.getElem_toArray, List.getElem_cons_succ, List.getElem_cons_zero])
      go_simp
      (try with_reducible rfl)
    simp only [Act.put, List.getElem_toArray, List.getElem_cons_succ, List.getElem_cons_zero, List.setIfInBounds_toArray, List.set_cons_zero, List.set_cons_succ]
    refine wpAnyH_take (i := 2) (v := ?_) rfl (by kernel_rfl) (by kernel_rfl) (by kernel_rfl) (fun _ _ _ h => h) (Or.inl ⟨by rfl, ?_⟩) (by assumption) ?_
    rotate_left
    · intro wq hSw
      (try dsimp only at hSw)
      (try simp only [List.getElem_toArray, List.getElem_cons_succ, List.getElem_cons_zero])
      go_simp
      (try with_reducible rfl)
    simp only [Act.put, List.getElem_toArray, List.getElem_cons_succ, List.getElem_cons_zero, List.setIfInBounds_toArray, List.set_cons_zero, List.set_cons_succ]
    refine wpAnyH_take (i := 3) (v := ?_) rfl (by kernel_rfl) (by kernel_rfl) (by kernel_rfl) (fun _ _ _ h => h) (Or.inl ⟨by rfl, ?_⟩) (by assumption) ?_
    rotate_left
    · intro wq hSw
      (try dsimp only at hSw)
      (try simp only [List.getElem_toArray, List.getElem_cons_succ, List.getElem_cons_zero])
      go_simp
      (try with_reducible rfl)
    simp only [Act.put, List.getElem_toArray, List.getElem_cons_succ, List.getElem_cons_zero, List.setIfInBounds_toArray, List.set_cons_zero, List.set_cons_succ]
    refine wpAnyH_take (i := 4) (v := ?_) rfl (by kernel_rfl) (by kernel_rfl) (by kernel_rfl) (fun _ _ _ h => h) (Or.inl ⟨by rfl, ?_⟩) (by assumption) ?_
    rotate_left
    · intro wq hSw
      (try dsimp only at hSw)
      (try simp only [List.getElem_toArray, List.getElem_cons_succ, List.getElem_cons_zero])
      go_simp
      (try with_reducible rfl)
    simp only [Act.put, List.getElem_toArray, List.getElem_cons_succ, List.getElem_cons_zero, List.setIfInBounds_toArray, List.set_cons_zero, List.set_cons_succ]
    refine wpAnyH_take (i := 5) (v := ?_) rfl (by kernel_rfl) (by kernel_rfl) (by kernel_rfl) (fun _ _ _ h => h) (Or.inl ⟨by rfl, ?_⟩) (by assumption) ?_
    rotate_left
    · intro wq hSw
      (try dsimp only at hSw)
      (try simp only [List.getElem_toArray, List.getElem_cons_succ, List.getElem_cons_zero])
      go_simp
      (try with_reducible rfl)
    simp only [Act.put, List.getElem_toArray, List.getElem_cons_succ, List.getElem_cons_zero, List.setIfInBounds_toArray, List.set_cons_zero, List.set_cons_succ]
    refine wpAnyH_take (i := 6) (v := ?_) rfl (by kernel_rfl) (by kernel_rfl) (by kernel_rfl) (fun _ _ _ h => h) (Or.inl ⟨by rfl, ?_⟩) (by assumption) ?_
    rotate_left
    · intro wq hSw
      (try dsimp only at hSw)
      (try simp only [List.getElem_toArray, List.getElem_cons_succ, List.getElem_cons_zero])
      go_simp
      (try with_reducible rfl)
    simp only [Act.put, List.getElem_toArray, List.getElem_cons_succ, List.getElem_cons_zero, List.setIfInBounds_toArray, List.set_cons_zero, List.set_cons_succ]
    refine wpAnyH_take (i := 7) (v := ?_) rfl (by kernel_rfl) (by kernel_rfl) (by kernel_rfl) (fun _ _ _ h => h) (Or.inl ⟨by rfl, ?_⟩) (by assumption) ?_
    rotate_left
    · intro wq hSw
      (try dsimp only at hSw)
      (try simp only [List.getElem_toArray, List.getElem_cons_succ, List.getElem_cons_zero])
      go_simp
      (try with_reducible rfl)
    simp only [Act.put, List.getElem_toArray, List.getElem_cons_succ, List.getElem_cons_zero, List.setIfInBounds_toArray, List.set_cons_zero, List.set_cons_succ]
    refine wpAnyH_take (i := 8) (v := ?_) rfl (by kernel_rfl) (by kernel_rfl) (by kernel_rfl) (fun _ _ _ h => h) (Or.inl ⟨by rfl, ?_⟩) (by assumption) ?_
    rotate_left
    · intro wq hSw
      (try dsimp only at hSw)
      (try simp only [List.getElem_toArray, List.getElem_cons_succ, List.getElem_cons_zero])
      go_simp
      (try with_reducible rfl)
    simp only [Act.put, List.getElem_toArray, List.getElem_cons_succ, List.getElem_cons_zero, List.setIfInBounds_toArray, List.set_cons_zero, List.set_cons_succ]
    refine wpAnyH_take (i := 9) (v := ?_) rfl (by kernel_rfl) (by kernel_rfl) (by kernel_rfl) (fun _ _ _ h => h) (Or.inl ⟨by rfl, ?_⟩) (by assumption) ?_
    rotate_left
    · intro wq hSw
      (try dsimp only at hSw)
      (try simp only [List.getElem_toArray, List.getElem_cons_succ, List.getElem_cons_zero])
      go_simp
      (try with_reducible rfl)
    simp only [Act.put, List.getElem_toArray, List.getElem_cons_succ, List.getElem_cons_zero, List.setIfInBounds_toArray, List.set_cons_zero, List.set_cons_succ]
    refine wpAnyH_take (i := 10) (v := ?_) rfl (by kernel_rfl) (by kernel_rfl) (by kernel_rfl) (fun _ _ _ h => h) (Or.inl ⟨by rfl, ?_⟩) (by assumption) ?_
    rotate_left
    · intro wq hSw
      (try dsimp only at hSw)
      (try simp only [List.getElem_toArray, List.getElem_cons_succ, List.getElem_cons_zero])
      go_simp
      (try with_reducible rfl)
    simp only [Act.put, List.getElem_toArray, List.getElem_cons_succ, List.getElem_cons_zero, List.setIfInBounds_toArray, List.set_cons_zero, List.set_cons_succ]
    refine wpAnyH_take (i := 11) (v := ?_) rfl (by kernel_rfl) (by kernel_rfl) (by kernel_rfl) (fun _ _ _ h => h) (Or.inl ⟨by rfl, ?_⟩) (by assumption) ?_
    rotate_left
    · intro wq hSw
      (try dsimp only at hSw)
      (try simp only [List.getElem_toArray, List.getElem_cons_succ, List.getElem_cons_zero])
      go_simp
      (try with_reducible rfl)
    simp only [Act.put, List.getElem_toArray, List.getElem_cons_succ, List.getElem_cons_zero, List.setIfInBounds_toArray, List.set_cons_zero, List.set_cons_succ]
    refine wpAnyH_take (i := 12) (v := ?_) rfl (by kernel_rfl) (by kernel_rfl) (by kernel_rfl) (fun _ _ _ h => h) (Or.inl ⟨by rfl, ?_⟩) (by assumption) ?_
    rotate_left
    · intro wq hSw
      (try dsimp only at hSw)
      (try simp only [List.getElem_toArray, List.getElem_cons_succ, List.getElem_cons_zero])
      go_simp
      (try with_reducible rfl)
    simp only [Act.put, List.getElem_toArray, List.getElem_cons_succ, List.getElem_cons_zero, List.setIfInBounds_toArray, List.set_cons_zero, List.set_cons_succ]
    refine wpAnyH_ready (rs := [13]) (by kernel_rfl) (by simp) ?_
    refine AllReadyH.cons rfl (fun K hK => ?_) AllReadyH.nil
    (try simp only [List.getElem_toArray, List.getElem_cons_succ, List.getElem_cons_zero])
    go_simp
    go_at_call 28
    refine (set_any s g b c d e _ HSI.out.drew HSB.out.drew hg (HKO.out.2.2.2 b (by simp)) (HKO.out.2.2.2 c (by simp)) (HKO.out.2.2.2 d (by simp)) (HKO.out.2.2.2 e (by simp))).mono ?_
    rintro ee w2 ⟨rfl, hsb2, hg2⟩
    have hos2 := HOS.out.drew.keptg HSB.out.drew (by decide) hg2
    have hS : w2.cell? ⟨r, 1, none⟩ = some (.string b) ∧ w2.cell? ⟨r, 2, none⟩ = some (.string c) ∧ w2.cell? ⟨r, 3, none⟩ = some (.string d) ∧ w2.cell? ⟨r, 4, none⟩ = some (.string e) := ⟨hos2.cellAt (k := 1) (by simp), hos2.cellAt (k := 2) (by simp), hos2.cellAt (k := 3) (by simp), hos2.cellAt (k := 4) (by simp)⟩
    refine hK.out _ _ hS (fun hHeld => ?_)
    clear hK K
    refine wpAnyH_take (i := 14) (v := ?_) rfl (by kernel_rfl) (by kernel_rfl) (by kernel_rfl) (fun _ _ _ h => h) (Or.inl ⟨by rfl, ?_⟩) (by assumption) ?_
    rotate_left
    · intro wq hSw
      (try dsimp only at hSw)
      (try simp only [List.getElem_toArray, List.getElem_cons_succ, List.getElem_cons_zero])
      go_simp
      (try with_reducible rfl)
    simp only [Act.put, List.getElem_toArray, List.getElem_cons_succ, List.getElem_cons_zero, List.setIfInBounds_toArray, List.set_cons_zero, List.set_cons_succ]
    refine wpAnyH_done (by kernel_rfl) ?_ _
    have HSB2 := Lib.hid hsb2
    have HG2 := Lib.hid hg2
    clear hsb2 hg2 hos2
    go_wp2
    go_ret
    exact ⟨by rw [HE.out]; rfl, by rw [HE.out]; exact HSB2.out, grown_trans (grownB (g := g) (Below.refl _ _).drew) HG2.out⟩
  · have e1 : (a.toList == [115, 101, 116]) = false := by rw [tok_eq]; exact decide_eq_false hs1
    by_cases hh1 : a.data.toList = wHeld
    · have e2 : (a.toList == [104, 101, 108, 100]) = true := by rw [tok_eq]; exact decide_eq_true hh1
      have HE := Lib.hid (show ansS s (toks [a, b, c, d, e]) = (s, aWhat) by show (if _ then _ else _) = _; exact if_neg hs1)
      clear h hs1 hh1
      go_enter Tryz.func16, Tryz.ntmps16
      go_wp2_with fail
      refine HC.out.mono ?_
      rintro e w1 ⟨rfl, rfl⟩
      go_wp2
      go_ret
      exact ⟨by rw [HE.out]; rfl, by rw [HE.out]; exact HSB.out, grownB (Below.refl _ _)⟩
    · have e2 : (a.toList == [104, 101, 108, 100]) = false := by rw [tok_eq]; exact decide_eq_false hh1
      have HE := Lib.hid (show ansS s (toks [a, b, c, d, e]) = (s, aWhat) by show (if _ then _ else _) = _; exact if_neg hs1)
      clear h hs1 hh1
      go_enter Tryz.func16, Tryz.ntmps16
      go_wp2_with fail
      refine HC.out.mono ?_
      rintro e w1 ⟨rfl, rfl⟩
      go_wp2
      go_ret
      exact ⟨by rw [HE.out]; rfl, by rw [HE.out]; exact HSB.out, grownB (Below.refl _ _)⟩
theorem answer_any (s : St) (hok : s.Ok) (g : Nat) (hg : 7 ≤ g) (ss : List ByteArray) (v : Value) (w : World) (base : Nat) (hw : SesIs w) (ho : OS w base v ss) (hk : WordsOk ss) (h : SB w g s) :
    Calls Tryz.prog 16 #[.pointer (some ⟨g, 0, none⟩), v] w (AnsPost w g (ansS s (toks ss))) := by
  match ss, hk with
  | [], hk => exact absurd hk.1 (by simp)
  | [a], hk => exact ans1 s hok g hg a v w base hw ho hk h
  | [a, b], hk => exact ans2 s hok g hg a b v w base hw ho hk h
  | [a, b, c], hk => exact ans3 s hok g hg a b c v w base hw ho hk h
  | [a, b, c, d], hk => exact ans4 s hok g hg a b c d v w base hw ho hk h
  | [a, b, c, d, e], hk => exact ans5 s hok g hg a b c d e v w base hw ho hk h
  | a :: b :: c :: d :: e :: f :: r, hk => exact absurd hk.2.1 (by simp)
theorem BU.grown {w w' : World} {B b g : Nat} {l : List UInt8} (h : BU w B b l) (hg : w.grownBy w' (some g)) (hgB : g < B) : BU w' B b l := by
  obtain ⟨hB, p, v, hbb, hp, hrb⟩ := h
  refine ⟨hB, p, v, (hg.block b (Array.getElem?_eq_some_iff.1 hbb).1 (fun e => by injection e with e; omega)).trans hbb, hp, ?_, hrb.2⟩
  refine hrb.1.kept hg ?_
  cases hv : v.ownBlock with
  | none => exact .inl rfl
  | some k => exact .inr (fun e => by injection e with e; have := (World.ownsRow.lt hrb.1 k hv).1; omega)
theorem zero_session (w : World) : (zeroValue 39).run Tryz.prog w = .ok (.agg (sbC St.fresh)) w := by kernel_rfl
theorem words_ok {l : List UInt8} {ss : List ByteArray} (h : lineOk l) (hs : toks ss = wordsL l) : WordsOk ss := by
  obtain ⟨h1, h2, h3⟩ := h
  have hl : ss.length = (wordsL l).length := by rw [← hs]; simp [toks]
  have hw : (wordsL l).length = (cutS 32 l).1.length + 1 := by simp [wordsL]
  refine ⟨by omega, by omega, fun t ht e => ?_, fun t ht => ?_⟩
  · refine h3 [] ?_ rfl
    rw [← hs]
    exact List.mem_map.2 ⟨t, ht, by rw [e]⟩
  · have hm : t.data.toList ∈ wordsL l := by rw [← hs]; exact List.mem_map.2 ⟨t, ht, rfl⟩
    have := word_len hm
    rw [size_list] at this
    omega
theorem sess_take (ss : List ByteArray) (k : Nat) (h : k < ss.length) : sessS (toks (ss.take (k + 1))) = goS (sessS (toks (ss.take k))) ss[k].data.toList := by
  rw [List.take_succ_eq_append_getElem h]
  unfold toks
  rw [List.map_append]
  exact sessS_snoc _ _
set_option maxRecDepth 100000 in
set_option maxHeartbeats 2000000 in
theorem implSession_any (ss : List ByteArray) (r cap : Nat) (w : World) (base : Nat) (hw : SesIs w) (h : OS w base (.slice (some ⟨r, 0, none⟩) ss.length cap) ss) (hlen : ss.length ≤ 40) (hl : ∀ t ∈ ss, lineOk t.data.toList) :
    Calls Tryz.prog 6 #[.slice (some ⟨r, 0, none⟩) ss.length cap] w fun e w' => e = .returned (.string ⟨(sessS (toks ss)).2.toArray⟩) ∧ Below w.heap.size w w' := by
  have hzs := zero_session
  have hzb := zero_builder
  have HOS := Lib.hid h
  have HSI := Lib.hid hw
  have HL := Lib.hid hl
  have h7 := hw.size
  have hcap : ss.length ≤ cap := by
    rcases h.2 with ⟨e, _⟩ | ⟨g', cap', cur', e, _, _, hc, _⟩
    · cases e
    · injection e with _ _ e3; rw [e3]; exact hc
  have hrw : r < w.heap.size := (h.low r rfl).2
  clear hw h hl
  go_enter Tryz.func6, Tryz.ntmps6
  have hm1 : min (ss.length : Int) 40 = (ss.length : Int) := by omega
  have hm2 : max (ss.length : Int) 0 = (ss.length : Int) := by omega
  go_wp2_with fail
  clear hm1 hm2
  have hb0 : SB ((w.alloc (.cells (sbC St.fresh) 39)).alloc (.cells #[.pointer none, .slice none 0 0] 42)) w.heap.size St.fresh := (BK.new w _ _).alloc _
  have hu0 := BU.fresh (w.alloc (.cells (sbC St.fresh) 39))
  rw [World.size_alloc] at hu0
  go_loopw [13] (fun i wr => ∃ k : Nat, k ≤ ss.length ∧ i = .int .i64 k ∧ SB wr w.heap.size (sessS (toks (ss.take k))).1 ∧ BU wr (w.heap.size + 1) (w.heap.size + 1) (sessS (toks (ss.take k))).2 ∧ Below w.heap.size w wr) (fun i _ => ss.length - (intOf i).toNat)
  case atStart => exact ⟨0, Nat.zero_le _, rfl, hb0, hu0, below2 _ _ _⟩
  case round =>
    clear hb0 hu0
    obtain ⟨k, hk, rfl, hsb, hbu, hb⟩ := hrel
    have HSB := Lib.hid hsb
    have HBU := Lib.hid hbu
    have HB := Lib.hid hb
    have hsr : w.heap.size + 1 < wr.heap.size := hbu.lt
    have hsl := sessS_len (toks (ss.take k))
    have htl : (toks (ss.take k)).length ≤ 40 := by unfold toks; rw [List.length_map]; have := List.length_take_le k ss; omega
    by_cases hlt : k < ss.length
    · have c0 := (HOS.out.below hb).cellAt hlt
      have hlk := HL.out ss[k] (List.getElem_mem hlt)
      have HT := Lib.hid (sess_take ss k hlt)
      have hok := sessS_ok (toks (ss.take k))
      generalize sessS (toks (ss.take k)) = p at *
      obtain ⟨s, L⟩ := p
      simp only at hsl hok
      obtain ⟨t, ht⟩ : ∃ t, t = ss[k] := ⟨_, rfl⟩
      rw [← ht] at c0 hlk HT
      have hts : t.size ≤ 200 := by rw [← size_list]; exact hlk.1
      have HLK := Lib.hid hlk
      have hal := ansS_len s (wordsL t.data.toList) hok
      have HOK := Lib.hid hok
      clear ht hsb hbu hb hlk hok
      go_wp2_with fail
      refine (split_any t _ (by omega)).mono ?_
      rintro e w2 ⟨v2, ws, rfl, hos2, hws, hb2⟩
      have hwk := words_ok HLK.out hws
      have hb2w := HB.out.trans (hb2.mono HB.out.size)
      have HB2 := Lib.hid hb2w
      have HSB2 := Lib.hid (show SB w2 w.heap.size s from BK.from HSB.out hb2)
      have HBU2 := Lib.hid (HBU.out.from hb2)
      have HSI2 := Lib.hid (HSI.out.from hb2w)
      have HWS := Lib.hid (show toks ws = wordsL t.data.toList from hws)
      have HWK := Lib.hid hwk
      have hs2 : wr.heap.size ≤ w2.heap.size := hb2.size
      have HO2 := Lib.hid hos2
      clear hos2 hws hb2 hwk hb2w
      go_wp2_with fail
      refine (answer_any s HOK.out w.heap.size h7 ws v2 w2 wr.heap.size HSI2.out HO2.out HWK.out HSB2.out).mono ?_
      rintro e w3 ⟨rfl, hsb3, hg3⟩
      rw [HWS.out] at hsb3 ⊢
      obtain ⟨T, hT⟩ : ∃ T : ByteArray, T = ⟨(ansS s (wordsL t.data.toList)).2.toArray⟩ := ⟨_, rfl⟩
      have HTd := Lib.hid (show T.data.toList = (ansS s (wordsL t.data.toList)).2 by rw [hT])
      have hTs : T.size ≤ 4000 := by rw [← size_list, HTd.out]; exact hal
      rw [← hT]
      have HB3 := Lib.hid (HB2.out.grown hg3 HB2.out.size (fun j hj => by injection hj with hj; omega))
      have HBU3 := Lib.hid (HBU2.out.grown hg3 (by omega))
      have HSB3 := Lib.hid hsb3
      have hs3 : w.heap.size + 1 ≤ w3.heap.size := by have := hg3.size; omega
      clear hsb3 hg3 hT hal
      go_wp2_with fail
      refine (writeString_any (w.heap.size + 1) (w.heap.size + 1) L T _ HBU3.out (by omega) hs3).mono ?_
      rintro e w4 ⟨rfl, hbu4, hb4, _⟩
      have HBU4 := Lib.hid hbu4
      have HB4 := Lib.hid (HB3.out.trans (hb4.mono (by omega)))
      have HSB4 := Lib.hid (show SB w4 w.heap.size _ from BK.below HSB3.out hb4 (by omega))
      have hs4 : w.heap.size + 1 ≤ w4.heap.size := Nat.le_trans hs3 hb4.size
      clear hbu4 hb4
      go_wp2_with fail
      refine (writeByte_any (w.heap.size + 1) (w.heap.size + 1) (L ++ T.data.toList) 10 _ HBU4.out (by rw [List.length_append, size_list]; omega) hs4).mono ?_
      rintro e w5 ⟨rfl, hbu5, hb5, _⟩
      have HBU5 := Lib.hid hbu5
      have HB5 := Lib.hid (HB4.out.trans (hb5.mono (by omega)))
      have HSB5 := Lib.hid (show SB w5 w.heap.size _ from BK.below HSB4.out hb5 (by omega))
      clear hbu5 hb5
      go_wp2
      go_roundw
      case rel =>
        refine ⟨k + 1, by omega, by go_num, ?_, ?_, HB5.out⟩
        · rw [HT.out]; exact HSB5.out
        · rw [HT.out]
          have := HBU5.out
          rw [HTd.out, List.append_assoc] at this
          exact this
      case measure => simp [intOf]; omega
    · have HALL := Lib.hid (show ss.take k = ss from List.take_of_length_le (by omega))
      rw [HALL.out] at HBU hsl htl
      clear hsb hbu hb
      go_wp2_with fail
      refine (string_any (w.heap.size + 1) (w.heap.size + 1) _ _ HBU.out (by omega)).mono ?_
      rintro e w2 ⟨rfl, hb2⟩
      have HB2 := Lib.hid (HB.out.trans (hb2.mono (by omega)))
      clear hb2
      go_wp2
      go_ret
      exact ⟨rfl, HB2.out⟩
end Go.Proofs.YtcegpcggdcgjbaaGreatDoor
