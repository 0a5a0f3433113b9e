/- Whether a finder is ok, in the program and in the model. -/
import Derived.Test.YtfojlpnnhghcbaaFindC
import Derived.Deep.QuietTactic
import Derived.BigQuiet
namespace Go.Proofs.Ytfojlpnnhghcbaa
open Go.ChangeShapes Go.WideShapes Go.ChangeAt Go.RowKit
theorem endOf_nat (c : Cf) : (endOf c).toNat = if c.codec = 1 then 126 else 0 := by unfold endOf; split <;> rfl
theorem l7End_any (a b d m : Int) (w : World) :
    Calls Try.prog 57 #[cfV a b d m] w fun e w' => e = .returned (.int .u8 (endOf ⟨a, b, d, m⟩).toNat) ∧ Below w.heap.size w w' := by
  by_cases h : a = 1
  · subst h
    go_enter Try.func57, Try.ntmps57
    go_wp2
    go_ret
    exact ⟨rfl, (Below.refl _ _).alloc (Nat.le_refl _) _⟩
  · have HE := Lib.hid (show (endOf ⟨a, b, d, m⟩).toNat = 0 by rw [endOf_nat, if_neg h])
    have hb : (a == 1) = false := by simpa using h
    go_enter Try.func57, Try.ntmps57
    go_wp2
    go_ret
    exact ⟨by rw [HE.out]; rfl, (Below.refl _ _).alloc (Nat.le_refl _) _⟩
theorem bufSize_any (a b d m : Int) (w : World) (hb : 0 ≤ b ∧ b ≤ 4) (hd : 0 ≤ d ∧ d ≤ 40) :
    Calls Try.prog 52 #[cfV a b d m] w fun e w' => e = .returned (.int .i64 (holdN ⟨a, b, d, m⟩)) ∧ Below w.heap.size w w' := by
  obtain ⟨hb1, hb2⟩ := hb
  obtain ⟨hd1, hd2⟩ := hd
  go_enter Try.func52, Try.ntmps52
  go_wp2
  go_ret
  exact ⟨rfl, (Below.refl _ _).alloc (Nat.le_refl _) _⟩
theorem l7Hold_any (a b d m : Int) (w : World) (hb : 0 ≤ b ∧ b ≤ 4) (hd : 0 ≤ d ∧ d ≤ 40) :
    Calls Try.prog 58 #[cfV a b d m] w fun e w' => e = .returned (.int .i64 (holdN ⟨a, b, d, m⟩)) ∧ Below w.heap.size w w' := by
  obtain ⟨hb1, hb2⟩ := hb
  obtain ⟨hd1, hd2⟩ := hd
  go_enter Try.func58, Try.ntmps58
  go_wp2
  go_ret
  exact ⟨rfl, (Below.refl _ _).alloc (Nat.le_refl _) _⟩
/-- the boxes of a configuration and of a finder, g and g + 1 -/
def CB (w : World) (g : Nat) (a b d m : Int) : Prop := w.cell? ⟨g, 0, none⟩ = some (.int .i64 a) ∧ w.cell? ⟨g, 1, none⟩ = some (.int .i64 b) ∧ w.cell? ⟨g, 2, none⟩ = some (.int .i64 d) ∧ w.cell? ⟨g, 3, none⟩ = some (.int .i64 m)
def FB (w : World) (g : Nat) (s : ByteArray) (o : Bool) : Prop := w.cell? ⟨g, 0, none⟩ = some (.string s) ∧ w.cell? ⟨g, 1, none⟩ = some (.bool o)
theorem CB.below {w w' : World} {g : Nat} {a b d m : Int} (h : CB w g a b d m) {B : Nat} (hb : Below B w w') (hg : g < B) : CB w' g a b d m :=
  ⟨(hb.cell (p := ⟨g, 0, none⟩) hg).trans h.1, (hb.cell (p := ⟨g, 1, none⟩) hg).trans h.2.1, (hb.cell (p := ⟨g, 2, none⟩) hg).trans h.2.2.1, (hb.cell (p := ⟨g, 3, none⟩) hg).trans h.2.2.2⟩
theorem FB.below {w w' : World} {g : Nat} {s : ByteArray} {o : Bool} (h : FB w g s o) {B : Nat} (hb : Below B w w') (hg : g < B) : FB w' g s o :=
  ⟨(hb.cell (p := ⟨g, 0, none⟩) hg).trans h.1, (hb.cell (p := ⟨g, 1, none⟩) hg).trans h.2⟩
theorem CB_new (w : World) (a b d m : Int) (t : TypeId) : CB (w.alloc (.cells #[.int .i64 a, .int .i64 b, .int .i64 d, .int .i64 m] t)) w.heap.size a b d m := ⟨by simp, by simp, by simp, by simp⟩
theorem FB_new (w : World) (s : ByteArray) (o : Bool) (t : TypeId) : FB (w.alloc (.cells #[.string s, .bool o] t)) w.heap.size s o := ⟨by simp, by simp⟩
/-- both boxes, and nothing old turned -/
def Bx (w0 w : World) (a b d m : Int) (s : ByteArray) (o : Bool) : Prop := CB w w0.heap.size a b d m ∧ FB w (w0.heap.size + 1) s o ∧ Below w0.heap.size w0 w ∧ w0.heap.size + 2 ≤ w.heap.size
theorem Bx.new (w : World) (a b d m : Int) (s : ByteArray) (o : Bool) (t t2 : TypeId) : Bx w ((w.alloc (.cells #[.int .i64 a, .int .i64 b, .int .i64 d, .int .i64 m] t)).alloc (.cells #[.string s, .bool o] t2)) a b d m s o := by
  have hs : (w.alloc (.cells #[.int .i64 a, .int .i64 b, .int .i64 d, .int .i64 m] t)).heap.size = w.heap.size + 1 := by simp
  refine ⟨(CB_new w a b d m t).below ((Below.refl _ _).alloc (Nat.le_refl _) _) (by rw [hs]; omega), ?_, below2 _ _ _, by simp⟩
  have := FB_new (w.alloc (.cells #[.int .i64 a, .int .i64 b, .int .i64 d, .int .i64 m] t)) s o t2
  rwa [hs] at this
theorem Bx.next {w0 w w' : World} {a b d m : Int} {s : ByteArray} {o : Bool} (h : Bx w0 w a b d m s o) (hb : Below w.heap.size w w') : Bx w0 w' a b d m s o := by
  obtain ⟨h1, h2, h3, h4⟩ := h
  exact ⟨h1.below hb (by omega), h2.below hb (by omega), h3.trans (hb.mono (by omega)), by have := hb.size; omega⟩
theorem Bx.cells {w0 w : World} {a b d m : Int} {s : ByteArray} {o : Bool} (h : Bx w0 w a b d m s o) :
    (w.cell? ⟨w0.heap.size, 0, none⟩ = some (.int .i64 a) ∧ w.cell? ⟨w0.heap.size, 1, none⟩ = some (.int .i64 b) ∧ w.cell? ⟨w0.heap.size, 2, none⟩ = some (.int .i64 d) ∧ w.cell? ⟨w0.heap.size, 3, none⟩ = some (.int .i64 m)) ∧
    (w.cell? ⟨w0.heap.size + 1, 0, none⟩ = some (.string s) ∧ w.cell? ⟨w0.heap.size + 1, 1, none⟩ = some (.bool o)) := ⟨h.1, h.2.1⟩
theorem Bx.drew {w0 w : World} {a b d m : Int} {s : ByteArray} {o : Bool} (h : Bx w0 w a b d m s o) : Bx w0 w.drew a b d m s o := ⟨h.1, h.2.1, h.2.2.1.drew, h.2.2.2⟩
theorem Bx.flat {w0 w : World} {a b d m : Int} {s : ByteArray} {o : Bool} (h : Bx w0 w a b d m s o) :
    (w.cell? ⟨w0.heap.size, 0, none⟩ = some (.int .i64 a) ∧ w.cell? ⟨w0.heap.size, 1, none⟩ = some (.int .i64 b) ∧ w.cell? ⟨w0.heap.size, 2, none⟩ = some (.int .i64 d) ∧ w.cell? ⟨w0.heap.size, 3, none⟩ = some (.int .i64 m)) ∧ (w.cell? ⟨w0.heap.size + 1, 0, none⟩ = some (.string s) ∧ w.cell? ⟨w0.heap.size + 1, 1, none⟩ = some (.bool o)) := ⟨h.1, h.2.1⟩
theorem kind_ge {b : Int} (h : kindB b = true) : 0 ≤ b ∧ b ≤ 4 := by have := kind_or h; omega
theorem idx_split {l : List UInt8} {c : UInt8} (h : c ∈ l) : ∃ k : Nat, Lib.indexByte l c = k ∧ k < l.length ∧ l = l.take k ++ c :: l.drop (k + 1) ∧ c ∉ l.take k := by
  induction l with
  | nil => simp at h
  | cons b l ih =>
    by_cases hb : b = c
    · subst hb; exact ⟨0, by simp [Lib.indexByte], by simp, by simp, by simp⟩
    · have h1 : (b == c) = false := beq_eq_false_iff_ne.2 hb
      have hl : c ∈ l := by
        rcases List.mem_cons.1 h with h | h
        · exact absurd h.symm hb
        · exact h
      obtain ⟨k, e, hk, hs, hn⟩ := ih hl
      refine ⟨k + 1, ?_, by simp; omega, ?_, ?_⟩
      · have h2 : ((k : Int) == -1) = false := beq_eq_false_iff_ne.2 (by omega)
        simp [Lib.indexByte, h1, e, h2]
      · rw [List.take_succ_cons, List.drop_succ_cons, List.cons_append, ← hs]
      · rw [List.take_succ_cons, List.mem_cons, not_or]
        exact ⟨fun e => hb e.symm, hn⟩
theorem u8_back (c : UInt8) : ((c.toNat : Int)).toNat.toUInt8 = c := by simp
theorem sz0 {s : ByteArray} (h : s.size = 0) : s = ⟨#[]⟩ := by
  have : s.data = #[] := Array.eq_empty_of_size_eq_zero h
  cases s; simp at this; subst this; rfl
set_option maxRecDepth 100000 in
set_option maxHeartbeats 2000000 in
theorem implFindOk_any (a b d m : Int) (s : ByteArray) (o : Bool) (w : World) (wa : (Lit.int .i64 a).wf = true) (hs : s.size ≤ maxLen) :
    Calls Try.prog 23 #[cfV a b d m, .agg #[.string s, .bool o]] w fun e w' => e = .returned (.bool (okF ⟨a, b, d, m⟩ ⟨s.data.toList, o⟩)) ∧ Below w.heap.size w w' := by
  unfold maxLen at hs
  have HSL := Lib.hid (size_list s)
  cases hc : confB ⟨a, b, d, m⟩ with
  | false =>
    have HE := Lib.hid (show okF ⟨a, b, d, m⟩ ⟨s.data.toList, o⟩ = false by simp [okF, hc])
    have HC := Lib.hid hc
    clear hc
    go_enter Try.func23, Try.ntmps23
    go_wp2_with fail
    refine (codecOf_any a b d m _ wa).mono ?_
    rintro e w1 ⟨rfl, hb1⟩
    have HBX := Lib.hid ((Bx.new w a b d m s o _ _).next hb1)
    rw [HC.out]
    clear hb1
    go_wp2
    go_ret
    exact ⟨by rw [HE.out]; rfl, HBX.out.2.2.1⟩
  | true =>
    obtain ⟨hcd, hkb, hd, hmm, hcm⟩ := confB_yes hc
    simp only at hcd hkb hd hmm hcm
    have hkb2 := kind_ge hkb
    have HP := Lib.hid (hold_pos hc)
    obtain ⟨t, v, fd, fw, fr, rd, rw_, rr, hway, HW⟩ := way_of hc
    have HWV := Lib.hid hway
    have HC := Lib.hid hc
    clear hc hway hcd hmm hcm hkb
    cases o with
    | true =>
      by_cases h0 : s.size = 0
      · obtain rfl := sz0 h0
        have HE := Lib.hid (show okF ⟨a, b, d, m⟩ ⟨(⟨#[]⟩ : ByteArray).data.toList, true⟩ = true by
          have := HP.out; simp [okF, HC.out]; omega)
        go_enter Try.func23, Try.ntmps23
        go_wp2_with fail
        refine (codecOf_any a b d m _ wa).mono ?_
        rintro e w1 ⟨rfl, hb1⟩
        have hbx := (Bx.new w a b d m ⟨#[]⟩ true _ _).next hb1
        obtain ⟨_, e0, e1⟩ := hbx.cells
        have HBX := Lib.hid hbx
        rw [HC.out]
        clear hb1 hbx
        go_wp2
        go_ret
        exact ⟨by rw [HE.out]; rfl, HBX.out.2.2.1⟩
      · have HE := Lib.hid (show okF ⟨a, b, d, m⟩ ⟨s.data.toList, true⟩ = false by
          simp [okF]; intros; intro e; exact h0 (by rw [← HSL.out, e]; rfl))
        have h1 : s.toList ≠ [] := by rw [Lib.toList_data]; intro e; exact h0 (by rw [← HSL.out, e]; rfl)
        have h2 : s.toList.isEmpty = false := by cases hh : s.toList with | nil => exact absurd hh h1 | cons x l => rfl
        go_enter Try.func23, Try.ntmps23
        go_wp2_with fail
        refine (codecOf_any a b d m _ wa).mono ?_
        rintro e w1 ⟨rfl, hb1⟩
        have hbx := (Bx.new w a b d m s true _ _).next hb1
        obtain ⟨_, e0, e1⟩ := hbx.cells
        have HBX := Lib.hid hbx
        rw [HC.out]
        clear hb1 hbx
        go_wp2
        go_ret
        exact ⟨by rw [HE.out]; rfl, HBX.out.2.2.1⟩
    | false =>
      by_cases hle : (s.size : Int) ≤ holdN ⟨a, b, d, m⟩
      · have HE := Lib.hid (show okF ⟨a, b, d, m⟩ ⟨s.data.toList, false⟩ = !s.data.toList.contains (endOf ⟨a, b, d, m⟩) by
          simp [okF, HC.out, HSL.out, hle])
        have hq := HW.dm
        have hq2 := HW.de
        have hdc := Lib.hid HW.dc
        clear HW
        generalize hold : holdN ⟨a, b, d, m⟩ = hn at *
        have HO := Lib.hid hold
        obtain ⟨x, hx, hxr⟩ : ∃ x : Int, Lib.indexByte s.data.toList (((endOf ⟨a, b, d, m⟩).toNat : Int).toNat.toUInt8) = x ∧ decide (x < 0) = !s.data.toList.contains (endOf ⟨a, b, d, m⟩) := by
          refine ⟨_, rfl, ?_⟩
          rw [u8_back]
          by_cases hmem : endOf ⟨a, b, d, m⟩ ∈ s.data.toList
          · obtain ⟨k, e, _⟩ := idx_split hmem
            rw [e]; simp [hmem]
          · rw [idx_none hmem]; simp [hmem]
        have HX := Lib.hid hx
        have HXR := Lib.hid hxr
        clear hold hx hxr
        go_enter Try.func23, Try.ntmps23
        go_wp2_with fail
        refine (codecOf_any a b d m _ wa).mono ?_
        rintro e w1 ⟨rfl, hb1⟩
        have hbx := (Bx.new w a b d m s false _ _).next hb1
        obtain ⟨⟨c0, c1, c2, c3⟩, e0, e1⟩ := hbx.cells
        rw [HC.out, HWV.out]
        clear hb1
        go_wp2_with fail
        have hS := hbx.drew
        clear c0 c1 c2 c3 e0 e1 hbx
        go_region_held3 (fun wx => (wx.cell? ⟨w.heap.size, 0, none⟩ = some (.int .i64 a) ∧ wx.cell? ⟨w.heap.size, 1, none⟩ = some (.int .i64 b) ∧ wx.cell? ⟨w.heap.size, 2, none⟩ = some (.int .i64 d) ∧ wx.cell? ⟨w.heap.size, 3, none⟩ = some (.int .i64 m)) ∧ (wx.cell? ⟨w.heap.size + 1, 0, none⟩ = some (.string s) ∧ wx.cell? ⟨w.heap.size + 1, 1, none⟩ = some (.bool false))) (first | exact hS.flat) (first | (go_at_call 52; refine (bufSize_any a b d m _ hkb2 hd).mono ?_; rintro e w2 ⟨rfl, hb2⟩; have hS := hS.next hb2; rw [HO.out]) | (go_at_call 53; refine (idx_any s _ _).mono ?_; rintro e w4 ⟨rfl, rfl⟩; rw [HX.out]) | (refine (hdc.out _).mono ?_; rintro e w3 ⟨rfl, hb3⟩; have hS := hS.next hb3))
        go_wp2
        go_ret
        exact ⟨by rw [HE.out, ← HXR.out]; rfl, hS.2.2.1⟩
      · have HE := Lib.hid (show okF ⟨a, b, d, m⟩ ⟨s.data.toList, false⟩ = false by
          simp [okF, HC.out, HSL.out]; omega)
        clear HW
        generalize hold : holdN ⟨a, b, d, m⟩ = hn at *
        have HO := Lib.hid hold
        have hdl : decide ((s.size : Int) ≤ hn) = false := by simpa using hle
        clear hold
        go_enter Try.func23, Try.ntmps23
        go_wp2_with fail
        refine (codecOf_any a b d m _ wa).mono ?_
        rintro e w1 ⟨rfl, hb1⟩
        have hbx := (Bx.new w a b d m s false _ _).next hb1
        obtain ⟨⟨c0, c1, c2, c3⟩, e0, e1⟩ := hbx.cells
        rw [HC.out, HWV.out]
        clear hb1
        go_wp2_with fail
        have hB := hbx.drew
        have hS := hB.flat
        clear hbx
        refine wp_region_held_drew (S := (fun wx => (wx.cell? ⟨w.heap.size, 0, none⟩ = some (.int .i64 a) ∧ wx.cell? ⟨w.heap.size, 1, none⟩ = some (.int .i64 b) ∧ wx.cell? ⟨w.heap.size, 2, none⟩ = some (.int .i64 d) ∧ wx.cell? ⟨w.heap.size, 3, none⟩ = some (.int .i64 m)) ∧ (wx.cell? ⟨w.heap.size + 1, 0, none⟩ = some (.string s) ∧ wx.cell? ⟨w.heap.size + 1, 1, none⟩ = some (.bool false)))) (by kernel_rfl) hS (fun hHeld => ?_)
        refine wpAnyH_take (i := 0) (v := ?_) rfl (by kernel_rfl) (by kernel_rfl) (by kernel_rfl) (fun _ _ _ h => h) (Or.inl ⟨by rfl, ?_⟩) (by assumption) ?_
        rotate_left
        · intro wq hSw
          (try dsimp only at hSw)
          (try simp only [List.getElem_toArray, List.getElem_cons_zero])
          go_simp
          (try with_reducible rfl)
        simp only [Act.put, List.getElem_toArray, List.getElem_cons_zero, List.setIfInBounds_toArray, List.set_cons_zero, List.set_cons_succ]
        refine wpAnyH_take (i := 1) (v := ?_) rfl (by kernel_rfl) (by kernel_rfl) (by kernel_rfl) (fun _ _ _ h => h) (Or.inl ⟨by rfl, ?_⟩) (by assumption) ?_
        rotate_left
        · intro wq hSw
          (try dsimp only at hSw)
          (try simp only [List.getElem_toArray, List.getElem_cons_succ, List.getElem_cons_zero])
          go_simp
          (try with_reducible rfl)
        simp only [Act.put, List.getElem_toArray, List.getElem_cons_succ, List.getElem_cons_zero, List.setIfInBounds_toArray, List.set_cons_zero, List.set_cons_succ]
        refine wpAnyH_take (i := 2) (v := ?_) rfl (by kernel_rfl) (by kernel_rfl) (by kernel_rfl) (fun _ _ _ h => h) (Or.inl ⟨by rfl, ?_⟩) (by assumption) ?_
        rotate_left
        · intro wq hSw
          (try dsimp only at hSw)
          (try simp only [List.getElem_toArray, List.getElem_cons_succ, List.getElem_cons_zero])
          go_simp
          (try with_reducible rfl)
        simp only [Act.put, List.getElem_toArray, List.getElem_cons_succ, List.getElem_cons_zero, List.setIfInBounds_toArray, List.set_cons_zero, List.set_cons_succ]
        refine wpAnyH_take (i := 3) (v := ?_) rfl (by kernel_rfl) (by kernel_rfl) (by kernel_rfl) (fun _ _ _ h => h) (Or.inl ⟨by rfl, ?_⟩) (by assumption) ?_
        rotate_left
        · intro wq hSw
          (try dsimp only at hSw)
          (try simp only [List.getElem_toArray, List.getElem_cons_succ, List.getElem_cons_zero])
          go_simp
          (try with_reducible rfl)
        simp only [Act.put, List.getElem_toArray, List.getElem_cons_succ, List.getElem_cons_zero, List.setIfInBounds_toArray, List.set_cons_zero, List.set_cons_succ]
        refine wpAnyH_ready (rs := [4]) (by kernel_rfl) (by simp) ?_
        refine AllReadyH.cons rfl (fun K hK => ?_) AllReadyH.nil
        (try simp only [List.getElem_toArray, List.getElem_cons_succ, List.getElem_cons_zero])
        go_simp
        go_at_call 52
        refine (bufSize_any a b d m _ hkb2 hd).mono ?_
        rintro e w2 ⟨rfl, hb2⟩
        have hB := hB.next hb2
        have hS := hB.flat
        rw [HO.out]
        refine hK.out _ _ hS (fun hHeld => ?_)
        clear hK K
        refine wpAnyH_take (i := 5) (v := ?_) rfl (by kernel_rfl) (by kernel_rfl) (by kernel_rfl) (fun _ _ _ h => h) (Or.inl ⟨by rfl, ?_⟩) (by assumption) ?_
        rotate_left
        · intro wq hSw
          (try dsimp only at hSw)
          (try simp only [List.getElem_toArray, List.getElem_cons_succ, List.getElem_cons_zero])
          go_simp
          (try with_reducible rfl)
        simp only [Act.put, List.getElem_toArray, List.getElem_cons_succ, List.getElem_cons_zero, List.setIfInBounds_toArray, List.set_cons_zero, List.set_cons_succ]
        refine wpAnyH_take (i := 6) (v := ?_) rfl (by kernel_rfl) (by kernel_rfl) (by kernel_rfl) (fun _ _ _ h => h) (Or.inl ⟨by rfl, ?_⟩) (by assumption) ?_
        rotate_left
        · intro wq hSw
          (try dsimp only at hSw)
          (try simp only [List.getElem_toArray, List.getElem_cons_succ, List.getElem_cons_zero])
          go_simp
          (try with_reducible rfl)
        simp only [Act.put, List.getElem_toArray, List.getElem_cons_succ, List.getElem_cons_zero, List.setIfInBounds_toArray, List.set_cons_zero, List.set_cons_succ]
        refine wpAnyH_take (i := 7) (v := undef) rfl (by kernel_rfl) (by kernel_rfl) (by kernel_rfl) (fun _ _ _ h => h) (Or.inr ⟨by rfl, rfl⟩) (by assumption) ?_
        simp only [Act.put, List.getElem_toArray, List.getElem_cons_succ, List.getElem_cons_zero, List.setIfInBounds_toArray, List.set_cons_zero, List.set_cons_succ]
        refine wpAnyH_take (i := 8) (v := undef) rfl (by kernel_rfl) (by kernel_rfl) (by kernel_rfl) (fun _ _ _ h => h) (Or.inr ⟨by rfl, rfl⟩) (by assumption) ?_
        simp only [Act.put, List.getElem_toArray, List.getElem_cons_succ, List.getElem_cons_zero, List.setIfInBounds_toArray, List.set_cons_zero, List.set_cons_succ]
        refine wpAnyH_take (i := 9) (v := undef) rfl (by kernel_rfl) (by kernel_rfl) (by kernel_rfl) (fun _ _ _ h => h) (Or.inr ⟨by rfl, rfl⟩) (by assumption) ?_
        simp only [Act.put, List.getElem_toArray, List.getElem_cons_succ, List.getElem_cons_zero, List.setIfInBounds_toArray, List.set_cons_zero, List.set_cons_succ]
        refine wpAnyH_take (i := 10) (v := undef) rfl (by kernel_rfl) (by kernel_rfl) (by kernel_rfl) (fun _ _ _ h => h) (Or.inr ⟨by rfl, rfl⟩) (by assumption) ?_
        simp only [Act.put, List.getElem_toArray, List.getElem_cons_succ, List.getElem_cons_zero, List.setIfInBounds_toArray, List.set_cons_zero, List.set_cons_succ]
        refine wpAnyH_take (i := 11) (v := undef) rfl (by kernel_rfl) (by kernel_rfl) (by kernel_rfl) (fun _ _ _ h => h) (Or.inr ⟨by rfl, rfl⟩) (by assumption) ?_
        simp only [Act.put, List.getElem_toArray, List.getElem_cons_succ, List.getElem_cons_zero, List.setIfInBounds_toArray, List.set_cons_zero, List.set_cons_succ]
        refine wpAnyH_take (i := 12) (v := undef) rfl (by kernel_rfl) (by kernel_rfl) (by kernel_rfl) (fun _ _ _ h => h) (Or.inr ⟨by rfl, rfl⟩) (by assumption) ?_
        simp only [Act.put, List.getElem_toArray, List.getElem_cons_succ, List.getElem_cons_zero, List.setIfInBounds_toArray, List.set_cons_zero, List.set_cons_succ]
        refine wpAnyH_take (i := 13) (v := ?_) rfl (by kernel_rfl) (by kernel_rfl) (by kernel_rfl) (fun _ _ _ h => h) (Or.inl ⟨by rfl, ?_⟩) (by assumption) ?_
        rotate_left
        · intro wq hSw
          (try dsimp only at hSw)
          (try simp only [List.getElem_toArray, List.getElem_cons_succ, List.getElem_cons_zero])
          go_simp
          (try with_reducible rfl)
        simp only [Act.put, List.getElem_toArray, List.getElem_cons_succ, List.getElem_cons_zero, List.setIfInBounds_toArray, List.set_cons_zero, List.set_cons_succ]
        refine wpAnyH_take (i := 14) (v := ?_) rfl (by kernel_rfl) (by kernel_rfl) (by kernel_rfl) (fun _ _ _ h => h) (Or.inl ⟨by rfl, ?_⟩) (by assumption) ?_
        rotate_left
        · intro wq hSw
          (try dsimp only at hSw)
          (try simp only [List.getElem_toArray, List.getElem_cons_succ, List.getElem_cons_zero])
          go_simp
          (try with_reducible rfl)
        simp only [Act.put, List.getElem_toArray, List.getElem_cons_succ, List.getElem_cons_zero, List.setIfInBounds_toArray, List.set_cons_zero, List.set_cons_succ]
        refine wpAnyH_done (by kernel_rfl) ?_ _
        go_wp2
        go_ret
        exact ⟨by rw [HE.out]; rfl, hB.2.2.1⟩
end Go.Proofs.Ytfojlpnnhghcbaa
