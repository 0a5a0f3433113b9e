/- Whether a finder is ok, in the program and in the model. -/
import Derived.Test.YtcegpcggdcgjbaaGreatDoorKitFindA
import Derived.Deep.QuietTactic
import Derived.BigQuiet
namespace Go.Proofs.YtcegpcggdcgjbaaGreatDoor
open Go.ChangeShapes Go.WideShapes Go.ChangeAt Go.RowKit
theorem endOf_nat (c : Cf) : (endOf c).toNat = if c.codec = 1 then 126 else 0 := by unfold endOf; split <;> rfl
theorem l7End_any (a b d m : Int) (w : World) :
    Calls Tryz.prog 85 #[cfV a b d m] w fun e w' => e = .returned (.int .u8 (endOf ⟨a, b, d, m⟩).toNat) ∧ Below w.heap.size w w' := by
  by_cases h : a = 1
  · subst h
    go_enter Tryz.func85, Tryz.ntmps85
    go_wp2
    go_ret
    exact ⟨rfl, (Below.refl _ _).alloc (Nat.le_refl _) _⟩
  · have HE := Lib.hid (show (endOf ⟨a, b, d, m⟩).toNat = 0 by rw [endOf_nat, if_neg h])
    have hb : (a == 1) = false := by simpa using h
    go_enter Tryz.func85, Tryz.ntmps85
    go_wp2
    go_ret
    exact ⟨by rw [HE.out]; rfl, (Below.refl _ _).alloc (Nat.le_refl _) _⟩
theorem bufSize_any (a b d m : Int) (w : World) (hb : 0 ≤ b ∧ b ≤ 4) (hd : 0 ≤ d ∧ d ≤ 40) :
    Calls Tryz.prog 128 #[cfV a b d m] w fun e w' => e = .returned (.int .i64 (holdN ⟨a, b, d, m⟩)) ∧ Below w.heap.size w w' := by
  obtain ⟨hb1, hb2⟩ := hb
  obtain ⟨hd1, hd2⟩ := hd
  go_enter Tryz.func128, Tryz.ntmps128
  go_wp2
  go_ret
  exact ⟨rfl, (Below.refl _ _).alloc (Nat.le_refl _) _⟩
theorem l7Hold_any (a b d m : Int) (w : World) (hb : 0 ≤ b ∧ b ≤ 4) (hd : 0 ≤ d ∧ d ≤ 40) :
    Calls Tryz.prog 114 #[cfV a b d m] w fun e w' => e = .returned (.int .i64 (holdN ⟨a, b, d, m⟩)) ∧ Below w.heap.size w w' := by
  obtain ⟨hb1, hb2⟩ := hb
  obtain ⟨hd1, hd2⟩ := hd
  go_enter Tryz.func114, Tryz.ntmps114
  go_wp2
  go_ret
  exact ⟨rfl, (Below.refl _ _).alloc (Nat.le_refl _) _⟩
/-- the boxes of a configuration and of a finder, g and g + 1 -/
def CB (w : World) (g : Nat) (a b d m : Int) : Prop := w.cell? ⟨g, 0, none⟩ = some (.int .i64 a) ∧ w.cell? ⟨g, 1, none⟩ = some (.int .i64 b) ∧ w.cell? ⟨g, 2, none⟩ = some (.int .i64 d) ∧ w.cell? ⟨g, 3, none⟩ = some (.int .i64 m)
def FB (w : World) (g : Nat) (s : ByteArray) (o : Bool) : Prop := w.cell? ⟨g, 0, none⟩ = some (.string s) ∧ w.cell? ⟨g, 1, none⟩ = some (.bool o)
theorem CB.below {w w' : World} {g : Nat} {a b d m : Int} (h : CB w g a b d m) {B : Nat} (hb : Below B w w') (hg : g < B) : CB w' g a b d m :=
  ⟨(hb.cell (p := ⟨g, 0, none⟩) hg).trans h.1, (hb.cell (p := ⟨g, 1, none⟩) hg).trans h.2.1, (hb.cell (p := ⟨g, 2, none⟩) hg).trans h.2.2.1, (hb.cell (p := ⟨g, 3, none⟩) hg).trans h.2.2.2⟩
theorem FB.below {w w' : World} {g : Nat} {s : ByteArray} {o : Bool} (h : FB w g s o) {B : Nat} (hb : Below B w w') (hg : g < B) : FB w' g s o :=
  ⟨(hb.cell (p := ⟨g, 0, none⟩) hg).trans h.1, (hb.cell (p := ⟨g, 1, none⟩) hg).trans h.2⟩
theorem CB_new (w : World) (a b d m : Int) (t : TypeId) : CB (w.alloc (.cells #[.int .i64 a, .int .i64 b, .int .i64 d, .int .i64 m] t)) w.heap.size a b d m := ⟨by simp, by simp, by simp, by simp⟩
theorem FB_new (w : World) (s : ByteArray) (o : Bool) (t : TypeId) : FB (w.alloc (.cells #[.string s, .bool o] t)) w.heap.size s o := ⟨by simp, by simp⟩
/-- both boxes, and nothing old turned -/
def Bx (w0 w : World) (a b d m : Int) (s : ByteArray) (o : Bool) : Prop := CB w w0.heap.size a b d m ∧ FB w (w0.heap.size + 1) s o ∧ Below w0.heap.size w0 w ∧ w0.heap.size + 2 ≤ w.heap.size
theorem Bx.new (w : World) (a b d m : Int) (s : ByteArray) (o : Bool) (t t2 : TypeId) : Bx w ((w.alloc (.cells #[.int .i64 a, .int .i64 b, .int .i64 d, .int .i64 m] t)).alloc (.cells #[.string s, .bool o] t2)) a b d m s o := by
  have hs : (w.alloc (.cells #[.int .i64 a, .int .i64 b, .int .i64 d, .int .i64 m] t)).heap.size = w.heap.size + 1 := by simp
  refine ⟨(CB_new w a b d m t).below ((Below.refl _ _).alloc (Nat.le_refl _) _) (by rw [hs]; omega), ?_, below2 _ _ _, by simp⟩
  have := FB_new (w.alloc (.cells #[.int .i64 a, .int .i64 b, .int .i64 d, .int .i64 m] t)) s o t2
  rwa [hs] at this
theorem Bx.next {w0 w w' : World} {a b d m : Int} {s : ByteArray} {o : Bool} (h : Bx w0 w a b d m s o) (hb : Below w.heap.size w w') : Bx w0 w' a b d m s o := by
  obtain ⟨h1, h2, h3, h4⟩ := h
  exact ⟨h1.below hb (by omega), h2.below hb (by omega), h3.trans (hb.mono (by omega)), by have := hb.size; omega⟩
theorem Bx.cells {w0 w : World} {a b d m : Int} {s : ByteArray} {o : Bool} (h : Bx w0 w a b d m s o) :
    (w.cell? ⟨w0.heap.size, 0, none⟩ = some (.int .i64 a) ∧ w.cell? ⟨w0.heap.size, 1, none⟩ = some (.int .i64 b) ∧ w.cell? ⟨w0.heap.size, 2, none⟩ = some (.int .i64 d) ∧ w.cell? ⟨w0.heap.size, 3, none⟩ = some (.int .i64 m)) ∧
    (w.cell? ⟨w0.heap.size + 1, 0, none⟩ = some (.string s) ∧ w.cell? ⟨w0.heap.size + 1, 1, none⟩ = some (.bool o)) := ⟨h.1, h.2.1⟩
theorem Bx.drew {w0 w : World} {a b d m : Int} {s : ByteArray} {o : Bool} (h : Bx w0 w a b d m s o) : Bx w0 w.drew a b d m s o := ⟨h.1, h.2.1, h.2.2.1.drew, h.2.2.2⟩
theorem Bx.flat {w0 w : World} {a b d m : Int} {s : ByteArray} {o : Bool} (h : Bx w0 w a b d m s o) :
    (w.cell? ⟨w0.heap.size, 0, none⟩ = some (.int .i64 a) ∧ w.cell? ⟨w0.heap.size, 1, none⟩ = some (.int .i64 b) ∧ w.cell? ⟨w0.heap.size, 2, none⟩ = some (.int .i64 d) ∧ w.cell? ⟨w0.heap.size, 3, none⟩ = some (.int .i64 m)) ∧ (w.cell? ⟨w0.heap.size + 1, 0, none⟩ = some (.string s) ∧ w.cell? ⟨w0.heap.size + 1, 1, none⟩ = some (.bool o)) := ⟨h.1, h.2.1⟩
theorem kind_ge {b : Int} (h : kindB b = true) : 0 ≤ b ∧ b ≤ 4 := by have := kind_or h; omega
theorem idx_split {l : List UInt8} {c : UInt8} (h : c ∈ l) : ∃ k : Nat, Lib.indexByte l c = k ∧ k < l.length ∧ l = l.take k ++ c :: l.drop (k + 1) ∧ c ∉ l.take k := by
  induction l with
  | nil => simp at h
  | cons b l ih =>
    by_cases hb : b = c
    · subst hb; exact ⟨0, by simp [Lib.indexByte], by simp, by simp, by simp⟩
    · have h1 : (b == c) = false := beq_eq_false_iff_ne.2 hb
      have hl : c ∈ l := by
        rcases List.mem_cons.1 h with h | h
        · exact absurd h.symm hb
        · exact h
      obtain ⟨k, e, hk, hs, hn⟩ := ih hl
      refine ⟨k + 1, ?_, by simp; omega, ?_, ?_⟩
      · have h2 : ((k : Int) == -1) = false := beq_eq_false_iff_ne.2 (by omega)
        simp [Lib.indexByte, h1, e, h2]
      · rw [List.take_succ_cons, List.drop_succ_cons, List.cons_append, ← hs]
      · rw [List.take_succ_cons, List.mem_cons, not_or]
        exact ⟨fun e => hb e.symm, hn⟩
theorem u8_back (c : UInt8) : ((c.toNat : Int)).toNat.toUInt8 = c := by simp
theorem sz0 {s : ByteArray} (h : s.size = 0) : s = ⟨#[]⟩ := by
  have : s.data = #[] := Array.eq_empty_of_size_eq_zero h
  cases s; simp at this; subst this; rfl
set_option maxRecDepth 100000 in
set_option maxHeartbeats 2000000 in
theorem implFindOk_any (a b d m : Int) (s : ByteArray) (o : Bool) (w : World) (wa : (Lit.int .i64 a).wf = true) (hs : s.size ≤ maxLen) :
    Calls Tryz.prog 102 #[cfV a b d m, .agg #[.string s, .bool o]] w fun e w' => e = .returned (.bool (okF ⟨a, b, d, m⟩ ⟨s.data.toList, o⟩)) ∧ Below w.heap.size w w' := by
  unfold maxLen at hs
  have HSL := Lib.hid (size_list s)
  cases hc : confB ⟨a, b, d, m⟩ with
  | false =>
    have HE := Lib.hid (show okF ⟨a, b, d, m⟩ ⟨s.data.toList, o⟩ = false by simp [okF, hc])
    have HC := Lib.hid hc
    clear hc
    go_enter Tryz.func102, Tryz.ntmps102
    go_wp2_with fail
    refine (codecOf_any a b d m _ wa).mono ?_
    rintro e w1 ⟨rfl, hb1⟩
    have HBX := Lib.hid ((Bx.new w a b d m s o _ _).next hb1)
    rw [HC.out]
    clear hb1
    go_wp2
    go_ret
    exact ⟨by rw [HE.out]; rfl, HBX.out.2.2.1⟩
  | true =>
    obtain ⟨hcd, hkb, hd, hmm, hcm⟩ := confB_yes hc
    simp only at hcd hkb hd hmm hcm
    have hkb2 := kind_ge hkb
    have HP := Lib.hid (hold_pos hc)
    obtain ⟨t, v, fd, fw, fr, rd, rw_, rr, hway, HW⟩ := way_of hc
    have HWV := Lib.hid hway
    have HC := Lib.hid hc
    clear hc hway hcd hmm hcm hkb
    cases o with
    | true =>
      by_cases h0 : s.size = 0
      · obtain rfl := sz0 h0
        have HE := Lib.hid (show okF ⟨a, b, d, m⟩ ⟨(⟨#[]⟩ : ByteArray).data.toList, true⟩ = true by
          have := HP.out; simp [okF, HC.out]; omega)
        go_enter Tryz.func102, Tryz.ntmps102
        go_wp2_with fail
        refine (codecOf_any a b d m _ wa).mono ?_
        rintro e w1 ⟨rfl, hb1⟩
        have hbx := (Bx.new w a b d m ⟨#[]⟩ true _ _).next hb1
        obtain ⟨_, e0, e1⟩ := hbx.cells
        have HBX := Lib.hid hbx
        rw [HC.out]
        clear hb1 hbx
        go_wp2
        go_ret
        exact ⟨by rw [HE.out]; rfl, HBX.out.2.2.1⟩
      · have HE := Lib.hid (show okF ⟨a, b, d, m⟩ ⟨s.data.toList, true⟩ = false by
          simp [okF]; intros; intro e; exact h0 (by rw [← HSL.out, e]; rfl))
        have h1 : s.toList ≠ [] := by rw [Lib.toList_data]; intro e; exact h0 (by rw [← HSL.out, e]; rfl)
        have h2 : s.toList.isEmpty = false := by cases hh : s.toList with | nil => exact absurd hh h1 | cons x l => rfl
        go_enter Tryz.func102, Tryz.ntmps102
        go_wp2_with fail
        refine (codecOf_any a b d m _ wa).mono ?_
        rintro e w1 ⟨rfl, hb1⟩
        have hbx := (Bx.new w a b d m s true _ _).next hb1
        obtain ⟨_, e0, e1⟩ := hbx.cells
        have HBX := Lib.hid hbx
        rw [HC.out]
        clear hb1 hbx
        go_wp2
        go_ret
        exact ⟨by rw [HE.out]; rfl, HBX.out.2.2.1⟩
    | false =>
      by_cases hle : (s.size : Int) ≤ holdN ⟨a, b, d, m⟩
      · have HE := Lib.hid (show okF ⟨a, b, d, m⟩ ⟨s.data.toList, false⟩ = !s.data.toList.contains (endOf ⟨a, b, d, m⟩) by
          simp [okF, HC.out, HSL.out, hle])
        have hq := HW.dm
        have hq2 := HW.de
        have hdc := Lib.hid HW.dc
        clear HW
        generalize hold : holdN ⟨a, b, d, m⟩ = hn at *
        have HO := Lib.hid hold
        obtain ⟨x, hx, hxr⟩ : ∃ x : Int, Lib.indexByte s.data.toList (((endOf ⟨a, b, d, m⟩).toNat : Int).toNat.toUInt8) = x ∧ decide (x < 0) = !s.data.toList.contains (endOf ⟨a, b, d, m⟩) := by
          refine ⟨_, rfl, ?_⟩
          rw [u8_back]
          by_cases hmem : endOf ⟨a, b, d, m⟩ ∈ s.data.toList
          · obtain ⟨k, e, _⟩ := idx_split hmem
            rw [e]; simp [hmem]
          · rw [idx_none hmem]; simp [hmem]
        have HX := Lib.hid hx
        have HXR := Lib.hid hxr
        clear hold hx hxr
        go_enter Tryz.func102, Tryz.ntmps102
        go_wp2_with fail
        refine (codecOf_any a b d m _ wa).mono ?_
        rintro e w1 ⟨rfl, hb1⟩
        have hbx := (Bx.new w a b d m s false _ _).next hb1
        obtain ⟨⟨c0, c1, c2, c3⟩, e0, e1⟩ := hbx.cells
        rw [HC.out, HWV.out]
        clear hb1
        go_wp2_with fail
        have hS := hbx.drew
        clear c0 c1 c2 c3 e0 e1 hbx
        go_region_held3 (fun wx => (wx.cell? ⟨w.heap.size, 0, none⟩ = some (.int .i64 a) ∧ wx.cell? ⟨w.heap.size, 1, none⟩ = some (.int .i64 b) ∧ wx.cell? ⟨w.heap.size, 2, none⟩ = some (.int .i64 d) ∧ wx.cell? ⟨w.heap.size, 3, none⟩ = some (.int .i64 m)) ∧ (wx.cell? ⟨w.heap.size + 1, 0, none⟩ = some (.string s) ∧ wx.cell? ⟨w.heap.size + 1, 1, none⟩ = some (.bool false))) (first | exact hS.flat) (first | (go_at_call 128; refine (bufSize_any a b d m _ hkb2 hd).mono ?_; rintro e w2 ⟨rfl, hb2⟩; have hS := hS.next hb2; rw [HO.out]) | (go_at_call 75; refine (idx_any s _ _).mono ?_; rintro e w4 ⟨rfl, rfl⟩; rw [HX.out]) | (refine (hdc.out _).mono ?_; rintro e w3 ⟨rfl, hb3⟩; have hS := hS.next hb3))
        go_wp2
        go_ret
        exact ⟨by rw [HE.out, ← HXR.out]; rfl, hS.2.2.1⟩
      · have HE := Lib.hid (show okF ⟨a, b, d, m⟩ ⟨s.data.toList, false⟩ = false by
          simp [okF, HC.out, HSL.out]; omega)
        clear HW
        generalize hold : holdN ⟨a, b, d, m⟩ = hn at *
        have HO := Lib.hid hold
        have hdl : decide ((s.size : Int) ≤ hn) = false := by simpa using hle
        clear hold
        go_enter Tryz.func102, Tryz.ntmps102
        go_wp2_with fail
        refine (codecOf_any a b d m _ wa).mono ?_
        rintro e w1 ⟨rfl, hb1⟩
        have hbx := (Bx.new w a b d m s false _ _).next hb1
        obtain ⟨⟨c0, c1, c2, c3⟩, e0, e1⟩ := hbx.cells
        rw [HC.out, HWV.out]
        clear hb1
        go_wp2_with fail
        have hB := hbx.drew
        have hS := hB.flat
        clear hbx
        refine wp_region_held_drew (S := (fun wx => (wx.cell? ⟨w.heap.size, 0, none⟩ = some (.int .i64 a) ∧ wx.cell? ⟨w.heap.size, 1, none⟩ = some (.int .i64 b) ∧ wx.cell? ⟨w.heap.size, 2, none⟩ = some (.int .i64 d) ∧ wx.cell? ⟨w.heap.size, 3, none⟩ = some (.int .i64 m)) ∧ (wx.cell? ⟨w.heap.size + 1, 0, none⟩ = some (.string s) ∧ wx.cell? ⟨w.heap.size + 1, 1, none⟩ = some (.bool false)))) (by kernel_rfl) hS (fun hHeld => ?_)
        refine wpAnyH_take (i := 0) (v := ?_) rfl (by kernel_rfl) (by kernel_rfl) (by kernel_rfl) (fun _ _ _ h => h) (Or.inl ⟨by rfl, ?_⟩) (by assumption) ?_
        rotate_left
        · intro wq hSw
          (try dsimp only at hSw)
          (try simp only [List.getElem_toArray, List.getElem_cons_zero])
          go_simp
          (try with_reducible rfl)
        simp only [Act.put, List.getElem_toArray, List.getElem_cons_zero, List.setIfInBounds_toArray, List.set_cons_zero, List.set_cons_succ]
        refine wpAnyH_take (i := 1) (v := ?_) rfl (by kernel_rfl) (by kernel_rfl) (by kernel_rfl) (fun _ _ _ h => h) (Or.inl ⟨by rfl, ?_⟩) (by assumption) ?_
        rotate_left
        · intro wq hSw
          (try dsimp only at hSw)
          (try simp only [List.getElem_toArray, List.getElem_cons_succ, List.getElem_cons_zero])
          go_simp
          (try with_reducible rfl)
        simp only [Act.put, List.getElem_toArray, List.getElem_cons_succ, List.getElem_cons_zero, List.setIfInBounds_toArray, List.set_cons_zero, List.set_cons_succ]
        refine wpAnyH_take (i := 2) (v := ?_) rfl (by kernel_rfl) (by kernel_rfl) (by kernel_rfl) (fun _ _ _ h => h) (Or.inl ⟨by rfl, ?_⟩) (by assumption) ?_
        rotate_left
        · intro wq hSw
          (try dsimp only at hSw)
          (try simp only [List.getElem_toArray, List.getElem_cons_succ, List.getElem_cons_zero])
          go_simp
          (try with_reducible rfl)
        simp only [Act.put, List.getElem_toArray, List.getElem_cons_succ, List.getElem_cons_zero, List.setIfInBounds_toArray, List.set_cons_zero, List.set_cons_succ]
        refine wpAnyH_take (i := 3) (v := ?_) rfl (by kernel_rfl) (by kernel_rfl) (by kernel_rfl) (fun _ _ _ h => h) (Or.inl ⟨by rfl, ?_⟩) (by assumption) ?_
        rotate_left
        · intro wq hSw
          (try dsimp only at hSw)
          (try simp only [List.getElem_toArray, List.getElem_cons_succ, List.getElem_cons_zero])
          go_simp
          (try with_reducible rfl)
        simp only [Act.put, List.getElem_toArray, List.getElem_cons_succ, List.getElem_cons_zero, List.setIfInBounds_toArray, List.set_cons_zero, List.set_cons_succ]
        refine wpAnyH_ready (rs := [4]) (by kernel_rfl) (by simp) ?_
        refine AllReadyH.cons rfl (fun K hK => ?_) AllReadyH.nil
        (try simp only [List.getElem_toArray, List.getElem_cons_succ, List.getElem_cons_zero])
        go_simp
        go_at_call 128
        refine (bufSize_any a b d m _ hkb2 hd).mono ?_
        rintro e w2 ⟨rfl, hb2⟩
        have hB := hB.next hb2
        have hS := hB.flat
        rw [HO.out]
        refine hK.out _ _ hS (fun hHeld => ?_)
        clear hK K
        refine wpAnyH_take (i := 5) (v := ?_) rfl (by kernel_rfl) (by kernel_rfl) (by kernel_rfl) (fun _ _ _ h => h) (Or.inl ⟨by rfl, ?_⟩) (by assumption) ?_
        rotate_left
        · intro wq hSw
          (try dsimp only at hSw)
          (try simp only [List.getElem_toArray, List.getElem_cons_succ, List.getElem_cons_zero])
          go_simp
          (try with_reducible rfl)
        simp only [Act.put, List.getElem_toArray, List.getElem_cons_succ, List.getElem_cons_zero, List.setIfInBounds_toArray, List.set_cons_zero, List.set_cons_succ]
        refine wpAnyH_take (i := 6) (v := ?_) rfl (by kernel_rfl) (by kernel_rfl) (by kernel_rfl) (fun _ _ _ h => h) (Or.inl ⟨by rfl, ?_⟩) (by assumption) ?_
        rotate_left
        · intro wq hSw
          (try dsimp only at hSw)
          (try simp only [List.getElem_toArray, List.getElem_cons_succ, List.getElem_cons_zero])
          go_simp
          (try with_reducible rfl)
        simp only [Act.put, List.getElem_toArray, List.getElem_cons_succ, List.getElem_cons_zero, List.setIfInBounds_toArray, List.set_cons_zero, List.set_cons_succ]
        refine wpAnyH_take (i := 7) (v := undef) rfl (by kernel_rfl) (by kernel_rfl) (by kernel_rfl) (fun _ _ _ h => h) (Or.inr ⟨by rfl, rfl⟩) (by assumption) ?_
        simp only [Act.put, List.getElem_toArray, List.getElem_cons_succ, List.getElem_cons_zero, List.setIfInBounds_toArray, List.set_cons_zero, List.set_cons_succ]
        refine wpAnyH_take (i := 8) (v := undef) rfl (by kernel_rfl) (by kernel_rfl) (by kernel_rfl) (fun _ _ _ h => h) (Or.inr ⟨by rfl, rfl⟩) (by assumption) ?_
        simp only [Act.put, List.getElem_toArray, List.getElem_cons_succ, List.getElem_cons_zero, List.setIfInBounds_toArray, List.set_cons_zero, List.set_cons_succ]
        refine wpAnyH_take (i := 9) (v := undef) rfl (by kernel_rfl) (by kernel_rfl) (by kernel_rfl) (fun _ _ _ h => h) (Or.inr ⟨by rfl, rfl⟩) (by assumption) ?_
        simp only [Act.put, List.getElem_toArray, List.getElem_cons_succ, List.getElem_cons_zero, List.setIfInBounds_toArray, List.set_cons_zero, List.set_cons_succ]
        refine wpAnyH_take (i := 10) (v := undef) rfl (by kernel_rfl) (by kernel_rfl) (by kernel_rfl) (fun _ _ _ h => h) (Or.inr ⟨by rfl, rfl⟩) (by assumption) ?_
        simp only [Act.put, List.getElem_toArray, List.getElem_cons_succ, List.getElem_cons_zero, List.setIfInBounds_toArray, List.set_cons_zero, List.set_cons_succ]
        refine wpAnyH_take (i := 11) (v := undef) rfl (by kernel_rfl) (by kernel_rfl) (by kernel_rfl) (fun _ _ _ h => h) (Or.inr ⟨by rfl, rfl⟩) (by assumption) ?_
        simp only [Act.put, List.getElem_toArray, List.getElem_cons_succ, List.getElem_cons_zero, List.setIfInBounds_toArray, List.set_cons_zero, List.set_cons_succ]
        refine wpAnyH_take (i := 12) (v := undef) rfl (by kernel_rfl) (by kernel_rfl) (by kernel_rfl) (fun _ _ _ h => h) (Or.inr ⟨by rfl, rfl⟩) (by assumption) ?_
        simp only [Act.put, List.getElem_toArray, List.getElem_cons_succ, List.getElem_cons_zero, List.setIfInBounds_toArray, List.set_cons_zero, List.set_cons_succ]
        refine wpAnyH_take (i := 13) (v := ?_) rfl (by kernel_rfl) (by kernel_rfl) (by kernel_rfl) (fun _ _ _ h => h) (Or.inl ⟨by rfl, ?_⟩) (by assumption) ?_
        rotate_left
        · intro wq hSw
          (try dsimp only at hSw)
          (try simp only [List.getElem_toArray, List.getElem_cons_succ, List.getElem_cons_zero])
          go_simp
          (try with_reducible rfl)
        simp only [Act.put, List.getElem_toArray, List.getElem_cons_succ, List.getElem_cons_zero, List.setIfInBounds_toArray, List.set_cons_zero, List.set_cons_succ]
        refine wpAnyH_take (i := 14) (v := ?_) rfl (by kernel_rfl) (by kernel_rfl) (by kernel_rfl) (fun _ _ _ h => h) (Or.inl ⟨by rfl, ?_⟩) (by assumption) ?_
        rotate_left
        · intro wq hSw
          (try dsimp only at hSw)
          (try simp only [List.getElem_toArray, List.getElem_cons_succ, List.getElem_cons_zero])
          go_simp
          (try with_reducible rfl)
        simp only [Act.put, List.getElem_toArray, List.getElem_cons_succ, List.getElem_cons_zero, List.setIfInBounds_toArray, List.set_cons_zero, List.set_cons_succ]
        refine wpAnyH_done (by kernel_rfl) ?_ _
        go_wp2
        go_ret
        exact ⟨by rw [HE.out]; rfl, hB.2.2.1⟩
end Go.Proofs.YtcegpcggdcgjbaaGreatDoor
/- Whether a finder is ok, in the model. -/
namespace Go.Proofs.YtcegpcggdcgjbaaGreatDoor
open Go.ChangeShapes Go.WideShapes Go.ChangeAt Go.RowKit
theorem take_mem_snoc {s : ByteArray} {k : Nat} (h : k < s.size) {c : UInt8} (h1 : c ∉ s.data.toList.take k) (h2 : s[k] ≠ c) : c ∉ s.data.toList.take (k + 1) := by
  rw [snoc_take s k h, List.mem_append, List.mem_singleton, not_or]
  exact ⟨h1, fun e => h2 e.symm⟩
end Go.Proofs.YtcegpcggdcgjbaaGreatDoor
/- A frame's bytes, in the program and in the model. -/
namespace Go.Proofs.YtcegpcggdcgjbaaGreatDoor
open Go.ChangeShapes Go.WideShapes Go.ChangeAt Go.RowKit
theorem putL_len (kd : Int) (l : List UInt8) : (putL kd l).length = l.length + kd.toNat := by simp [putL, leB_length]
theorem writeL_len (c : Cf) (l : List UInt8) (h : l.length ≤ 600) : (writeL c l).length ≤ 2 * l.length + 4 := by
  unfold writeL
  split
  · have := escR_len c.map.toNat l; omega
  · have h1 := cob_size l
    split
    · omega
    · have h2 := less_size l; omega
def boxC (a b d m : Int) : Obj := .cells #[.int .i64 a, .int .i64 b, .int .i64 d, .int .i64 m] 30
theorem own_one (s : ByteArray) (c : UInt8) : (⟨(s.data.toList ++ [c]).toArray⟩ : ByteArray).data.toList = s.data.toList ++ [c] := rfl
set_option maxRecDepth 100000 in
set_option maxHeartbeats 4000000 in
theorem implFindSend_any (a b d m : Int) (s : ByteArray) (w : World) (wa : (Lit.int .i64 a).wf = true) (hs : s.size ≤ maxLen) :
    Calls Tryz.prog 9 #[cfV a b d m, .string s] w fun e w' => e = .returned (.string ⟨(sendA ⟨a, b, d, m⟩ s.data.toList).toArray⟩) ∧ Below w.heap.size w w' := by
  unfold maxLen at hs
  have HSL := Lib.hid (size_list s)
  cases hc : confB ⟨a, b, d, m⟩ with
  | false =>
    have HE := Lib.hid (show sendA ⟨a, b, d, m⟩ s.data.toList = [] by simp [sendA, sendOk, hc])
    have HC := Lib.hid hc
    clear hc
    go_enter Tryz.func9, Tryz.ntmps9
    go_wp2_with fail
    refine (codecOf_any a b d m _ wa).mono ?_
    rintro e w1 ⟨rfl, hb1⟩
    have HB := Lib.hid (alloc_below hb1)
    rw [HC.out]
    clear hb1
    go_wp2
    go_ret
    exact ⟨by rw [HE.out]; rfl, HB.out⟩
  | true =>
    obtain ⟨_, hkb, hd, _, _⟩ := confB_yes hc
    simp only at hkb hd
    have hkb2 := kind_ge hkb
    have HKB := Lib.hid hkb
    obtain ⟨t, v, fd, fw, fr, rd, rw_, rr, hway, HW⟩ := way_of hc
    have HWV := Lib.hid hway
    have HC := Lib.hid hc
    clear hc hway hkb
    by_cases hle : (s.size : Int) ≤ d
    · have HE := Lib.hid (show sendA ⟨a, b, d, m⟩ s.data.toList = writeL ⟨a, b, d, m⟩ (putL b s.data.toList) ++ [endOf ⟨a, b, d, m⟩] by
        simp [sendA, sendOk, HC.out, HSL.out, hle, sendL])
      obtain ⟨P, hP⟩ : ∃ P : ByteArray, (⟨(putL b s.data.toList).toArray⟩ : ByteArray) = P := ⟨_, rfl⟩
      obtain ⟨X, hX⟩ : ∃ X : ByteArray, (⟨(writeL ⟨a, b, d, m⟩ (putL b s.data.toList)).toArray⟩ : ByteArray) = X := ⟨_, rfl⟩
      have hPs : P.size ≤ 44 := by
        rw [← size_list, ← hP]; show (putL b s.data.toList).length ≤ 44
        rw [putL_len, HSL.out]; omega
      have hPd : P.data.toList = putL b s.data.toList := by rw [← hP]
      have hXd : X.data.toList = writeL ⟨a, b, d, m⟩ (putL b s.data.toList) := by rw [← hX]
      have hXs : X.size ≤ 100 := by
        have h1 := writeL_len ⟨a, b, d, m⟩ (putL b s.data.toList) (by rw [← hPd, size_list]; omega)
        rw [← hXd, ← hPd, size_list, size_list] at h1; omega
      have HP := Lib.hid hP
      have HX := Lib.hid hX
      have HPd := Lib.hid hPd
      have HXd := Lib.hid hXd
      have HSP := Lib.hid (fun w => implPut_yes b s w HKB.out (by omega))
      have q1 := HW.dm
      have q2 := HW.de
      have q3 := HW.wn
      have q4 := HW.wm
      have q5 := HW.we
      have HDC := Lib.hid HW.dc
      have HWC := Lib.hid HW.wc
      obtain ⟨i0, hi, hz0, hz1, hz2⟩ := info_parts info_u8
      have HI := Lib.hid hi
      have HZ0 := Lib.hid hz0
      have HZ1 := Lib.hid hz1
      have HZ2 := Lib.hid hz2
      have hmf : ∀ (fn : Fn) (first cap : Array Value) (w : World), (Instr.makeFunc fn first cap).run Tryz.prog w = .ok (.func fn first cap) w := fun _ _ _ _ => rfl
      clear hP hX hPd hXd HW hi hz0 hz1 hz2
      go_enter Tryz.func9, Tryz.ntmps9
      go_wp2_with fail
      refine (codecOf_any a b d m _ wa).mono ?_
      rintro e w1 ⟨rfl, hb1⟩
      obtain ⟨c0, c1, c2, c3⟩ := four_cells hb1
      have HB := Lib.hid (alloc_below hb1)
      have hw1 : w.heap.size < w1.heap.size := by have := hb1.size; simp at this; omega
      rw [HC.out, HWV.out]
      clear hb1
      go_wp2_with fail
      have hS : w1.drew.cell? ⟨w.heap.size, 1, none⟩ = some (.int .i64 b) := c1
      refine wp_region_held_drew (S := (fun wx => wx.cell? ⟨w.heap.size, 1, none⟩ = some (.int .i64 b))) (by kernel_rfl) hS (fun hHeld => ?_)
      refine wpAnyH_take (i := 0) (v := ?_) rfl (by kernel_rfl) (by kernel_rfl) (by kernel_rfl) (fun _ _ _ h => h) (Or.inl ⟨by rfl, ?_⟩) (by assumption) ?_
      rotate_left
      · intro wq hSw
        (try dsimp only at hSw)
        (try simp only [List.getElem_toArray, List.getElem_cons_zero])
        go_simp
        (try with_reducible rfl)
      simp only [Act.put, List.getElem_toArray, List.getElem_cons_zero, List.setIfInBounds_toArray, List.set_cons_zero, List.set_cons_succ]
      refine wpAnyH_take (i := 1) (v := ?_) rfl (by kernel_rfl) (by kernel_rfl) (by kernel_rfl) (fun _ _ _ h => h) (Or.inl ⟨by rfl, ?_⟩) (by assumption) ?_
      rotate_left
      · intro wq hSw
        (try dsimp only at hSw)
        (try simp only [List.getElem_toArray, List.getElem_cons_succ, List.getElem_cons_zero])
        go_simp
        (try with_reducible rfl)
      simp only [Act.put, List.getElem_toArray, List.getElem_cons_succ, List.getElem_cons_zero, List.setIfInBounds_toArray, List.set_cons_zero, List.set_cons_succ]
      refine wpAnyH_take (i := 2) (v := ?_) rfl (by kernel_rfl) (by kernel_rfl) (by kernel_rfl) (fun _ _ _ h => h) (Or.inl ⟨by rfl, ?_⟩) (by assumption) ?_
      rotate_left
      · intro wq hSw
        (try dsimp only at hSw)
        (try simp only [List.getElem_toArray, List.getElem_cons_succ, List.getElem_cons_zero])
        go_simp
        (try with_reducible rfl)
      simp only [Act.put, List.getElem_toArray, List.getElem_cons_succ, List.getElem_cons_zero, List.setIfInBounds_toArray, List.set_cons_zero, List.set_cons_succ]
      refine wpAnyH_take (i := 3) (v := ?_) rfl (by kernel_rfl) (by kernel_rfl) (by kernel_rfl) (fun _ _ _ h => h) (Or.inl ⟨by rfl, ?_⟩) (by assumption) ?_
      rotate_left
      · intro wq hSw
        (try dsimp only at hSw)
        (try simp only [List.getElem_toArray, List.getElem_cons_succ, List.getElem_cons_zero])
        go_simp
        (try with_reducible rfl)
      simp only [Act.put, List.getElem_toArray, List.getElem_cons_succ, List.getElem_cons_zero, List.setIfInBounds_toArray, List.set_cons_zero, List.set_cons_succ]
      refine wpAnyH_take (i := 5) (v := ?_) rfl (by kernel_rfl) (by kernel_rfl) (by kernel_rfl) (fun _ _ _ h => h) (Or.inl ⟨by rfl, ?_⟩) (by assumption) ?_
      rotate_left
      · intro wq hSw
        (try dsimp only at hSw)
        (try simp only [List.getElem_toArray, List.getElem_cons_succ, List.getElem_cons_zero])
        go_simp
        (try with_reducible rfl)
      simp only [Act.put, List.getElem_toArray, List.getElem_cons_succ, List.getElem_cons_zero, List.setIfInBounds_toArray, List.set_cons_zero, List.set_cons_succ]
      refine wpAnyH_take (i := 6) (v := ?_) rfl (by kernel_rfl) (by kernel_rfl) (by kernel_rfl) (fun _ _ _ h => h) (Or.inl ⟨by rfl, ?_⟩) (by assumption) ?_
      rotate_left
      · intro wq hSw
        (try dsimp only at hSw)
        (try simp only [List.getElem_toArray, List.getElem_cons_succ, List.getElem_cons_zero])
        go_simp
        (try with_reducible rfl)
      simp only [Act.put, List.getElem_toArray, List.getElem_cons_succ, List.getElem_cons_zero, List.setIfInBounds_toArray, List.set_cons_zero, List.set_cons_succ]
      refine wpAnyH_take (i := 7) (v := ?_) rfl (by kernel_rfl) (by kernel_rfl) (by kernel_rfl) (fun _ _ _ h => h) (Or.inl ⟨by rfl, ?_⟩) (by assumption) ?_
      rotate_left
      · intro wq hSw
        (try dsimp only at hSw)
        (try simp only [List.getElem_toArray, List.getElem_cons_succ, List.getElem_cons_zero])
        go_simp
        (try with_reducible rfl)
      simp only [Act.put, List.getElem_toArray, List.getElem_cons_succ, List.getElem_cons_zero, List.setIfInBounds_toArray, List.set_cons_zero, List.set_cons_succ]
      refine wpAnyH_ready (rs := [4]) (by kernel_rfl) (by simp) ?_
      refine AllReadyH.cons rfl (fun K hK => ?_) AllReadyH.nil
      (try simp only [List.getElem_toArray, List.getElem_cons_succ, List.getElem_cons_zero])
      go_simp
      go_at_call 23
      refine (HSP.out _).mono ?_
      rintro e w2 ⟨rfl, hb2⟩
      have hS := (hb2.cell (p := ⟨w.heap.size, 1, none⟩) hw1).trans hS
      rw [show (⟨(s.data.toList ++ leB (sumN b s.data.toList) b.toNat).toArray⟩ : ByteArray) = P from HP.out]
      refine hK.out _ _ hS (fun hHeld => ?_)
      clear hK K
      refine wpAnyH_ready (rs := [8]) (by kernel_rfl) (by simp) ?_
      refine AllReadyH.cons rfl (fun K hK => ?_) AllReadyH.nil
      (try simp only [List.getElem_toArray, List.getElem_cons_succ, List.getElem_cons_zero])
      go_simp
      refine (HWC.out _ P (by omega)).mono ?_
      rintro e w3 ⟨rfl, hb3⟩
      have hS := (hb3.cell (p := ⟨w.heap.size, 1, none⟩) (Nat.lt_of_lt_of_le hw1 hb2.size)).trans hS
      rw [HPd.out, HX.out]
      refine hK.out _ _ hS (fun hHeld => ?_)
      clear hK K
      refine wpAnyH_ready (rs := [9]) (by kernel_rfl) (by simp) ?_
      refine AllReadyH.cons rfl (fun K hK => ?_) AllReadyH.nil
      (try simp only [List.getElem_toArray, List.getElem_cons_succ, List.getElem_cons_zero])
      have hr := run_bytes_of_string (P := Tryz.prog) w3 9 22 5 X Tryz.underlying9 Tryz.underlying22 Tryz.underlying5
      have hob := OB_of_string 5 w3 X (by unfold maxLen; omega) w.heap.size (by have := HB.out.size; have h2 := hb2.size; have h3 := hb3.size; simp at h2; omega)
      generalize (Obj.cells (bytesRow X (grownCap w3 X.size 0 5)) 5 ((bytesRow X (grownCap w3 X.size 0 5)).size, (bytesRow X (grownCap w3 X.size 0 5)).size + 1)) = O at hr hob
      generalize grownCap w3 X.size 0 5 = gc at hr hob
      go_simp
      have hb4 := Below.of_marked w3 O
      have hS := (hb4.cell (p := ⟨w.heap.size, 1, none⟩) (Nat.lt_of_lt_of_le (Nat.lt_of_lt_of_le hw1 hb2.size) hb3.size)).trans hS
      refine hK.out _ _ hS (fun hHeld => ?_)
      clear hK K
      refine wpAnyH_take (i := 10) (v := ?_) rfl (by kernel_rfl) (by kernel_rfl) (by kernel_rfl) (fun _ _ _ h => h) (Or.inl ⟨by rfl, ?_⟩) (by assumption) ?_
      rotate_left
      · intro wq hSw
        (try dsimp only at hSw)
        (try simp only [List.getElem_toArray, List.getElem_cons_succ, List.getElem_cons_zero])
        go_simp
        (try with_reducible rfl)
      simp only [Act.put, List.getElem_toArray, List.getElem_cons_succ, List.getElem_cons_zero, List.setIfInBounds_toArray, List.set_cons_zero, List.set_cons_succ]
      refine wpAnyH_done (by kernel_rfl) ?_ _
      have hb44 := (HB.out.drew.trans (hb2.mono HB.out.size)).trans ((hb3.mono (Nat.le_trans HB.out.size hb2.size)).trans (hb4.mono (Nat.le_trans HB.out.size (Nat.le_trans hb2.size hb3.size))))
      clear hb2 hb3 hb4 hr hS c0 c1 c2 c3
      rw [show w3.drew.alloc O = (w3.alloc O).drew from rfl] at hob hb44
      generalize (w3.alloc O).drew = w4 at *
      generalize (Value.slice (some ⟨w3.heap.size, 0, none⟩) X.size gc) = v4 at *
      have HOB := Lib.hid hob
      have HB4 := Lib.hid hb44
      clear hob hb44
      go_wp2_with fail
      refine (HDC.out _).mono ?_
      rintro e w5 ⟨rfl, hb5⟩
      have HOB5 := Lib.hid (HOB.out.below hb5 (Nat.le_refl _))
      have HB5 := Lib.hid (HB4.out.trans (hb5.mono HB4.out.size))
      clear hb5
      go_wp2_with (first | (at_builtin; refine wpList_append_OB _ rfl _ _ 22 rfl w.heap.size 5 i0 Tryz.underlying22 HI.out HZ0.out HZ1.out HZ2.out _ X.data.toList rfl (HOB5.out.alloc _) ⟨w5.heap.size, 0, none⟩ 1 1 [endOf ⟨a, b, d, m⟩] rfl rfl (one_new w5 _ _ _ rfl) (by rw [size_list]; simp; omega) (by have := HB5.out.size; simp; omega) ?_; intro v6 w6 hown6 hg6; have HO6 := Lib.hid hown6; have HB6 := Lib.hid ((HB5.out.alloc HB5.out.size (.cells #[.int .u8 (endOf ⟨a, b, d, m⟩).toNat] 5)).grown hg6 (by have := HB5.out.size; simp; omega) (fun k hk => (HOB5.out.lt k hk).1)); clear hown6 hg6) | (refine wpList_string_of_OB _ rfl 22 9 5 _ rfl w.heap.size _ _ rfl Tryz.underlying22 Tryz.underlying5 Tryz.underlying9 HO6.out ?_))
      go_ret
      exact ⟨by rw [HE.out, ← HXd.out]; rfl, HB6.out⟩
    · have HE := Lib.hid (show sendA ⟨a, b, d, m⟩ s.data.toList = [] by
        simp [sendA, sendOk, HSL.out]; omega)
      clear HW
      go_enter Tryz.func9, Tryz.ntmps9
      go_wp2_with fail
      refine (codecOf_any a b d m _ wa).mono ?_
      rintro e w1 ⟨rfl, hb1⟩
      obtain ⟨c0, c1, c2, c3⟩ := four_cells hb1
      have HB := Lib.hid (alloc_below hb1)
      rw [HC.out, HWV.out]
      clear hb1
      go_wp2
      go_ret
      exact ⟨by rw [HE.out]; rfl, HB.out⟩
end Go.Proofs.YtcegpcggdcgjbaaGreatDoor
