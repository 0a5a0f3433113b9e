/- FindOk of the program, where the seat has no more of a codec than its delimiter. -/
import Derived.Test.YtdnedoafgfpnfaaKitFindB
namespace Go.Proofs.Ytdnedoafgfpnfaa
open Go.ChangeShapes Go.WideShapes Go.ChangeAt Go.RowKit
structure WayD (c : Cf) (t : TypeId) (v : Value) (fd : Nat) (rd : Value) : Prop where
  dm : ∀ w : World, (method 223 t v "loop.example/cotterpin/impl.delimiter").run Try.prog w = .ok (fd, rd) w
  de : ∀ w : World, (callFunc fd #[rd]).run Try.prog w = .ok (.enter fd #[rd]) w
  dc : ∀ w : World, Calls Try.prog fd #[rd] w fun e w' => e = .returned (.int .u8 (endOf c).toNat) ∧ Below w.heap.size w w'
theorem wayD_of {a b d m : Int} (h : confB ⟨a, b, d, m⟩ = true) : ∃ t v fd rd, wayV a m = .iface t v ∧ WayD ⟨a, b, d, m⟩ t v fd rd := by
  obtain ⟨h1, _, _, h4, h5⟩ := confB_yes h
  simp only at h1 h4 h5
  rcases h1 with rfl | rfl | rfl
  · obtain ⟨k, rfl, hk, hk2⟩ := toNat_map h4
    exact ⟨93, .agg #[.int .i64 k], 83, .agg #[.int .i64 k], rfl, ⟨fun w => by kernel_rfl, fun w => by kernel_rfl, fun w => escDel _ w⟩⟩
  · have hm : m = 0 := by omega
    subst hm
    exact ⟨97, .agg #[], 86, .agg #[], rfl, ⟨fun w => by kernel_rfl, fun w => by kernel_rfl, fun w => zeroDel w⟩⟩
  · have hm : m = 0 := by omega
    subst hm
    exact ⟨98, .agg #[], 86, .agg #[], rfl, ⟨fun w => by kernel_rfl, fun w => by kernel_rfl, fun w => zeroDel w⟩⟩
set_option maxRecDepth 100000 in
set_option maxHeartbeats 2000000 in
theorem implFindOkD_any (a b d m : Int) (s : ByteArray) (o : Bool) (w : World) (wa : (Lit.int .i64 a).wf = true) (hs : s.size ≤ maxLen) :
    Calls Try.prog 36 #[cfV a b d m, .agg #[.string s, .bool o]] w fun e w' => e = .returned (.bool (okF ⟨a, b, d, m⟩ ⟨s.data.toList, o⟩)) ∧ Below w.heap.size w w' := by
  unfold maxLen at hs
  have HSL := Lib.hid (size_list s)
  cases hc : confB ⟨a, b, d, m⟩ with
  | false =>
    have HE := Lib.hid (show okF ⟨a, b, d, m⟩ ⟨s.data.toList, o⟩ = false by simp [okF, hc])
    have HC := Lib.hid hc
    clear hc
    go_enter Try.func36, Try.ntmps36
    go_wp2_with fail
    refine (codecOf_any a b d m _ wa).mono ?_
    rintro e w1 ⟨rfl, hb1⟩
    have HBX := Lib.hid ((Bx.new w a b d m s o _ _).next hb1)
    rw [HC.out]
    clear hb1
    go_wp2
    go_ret
    exact ⟨by rw [HE.out]; rfl, HBX.out.2.2.1⟩
  | true =>
    obtain ⟨hcd, hkb, hd, hmm, hcm⟩ := confB_yes hc
    simp only at hcd hkb hd hmm hcm
    have hkb2 := kind_ge hkb
    have HP := Lib.hid (hold_pos hc)
    obtain ⟨t, v, fd, rd, hway, HW⟩ := wayD_of hc
    have HWV := Lib.hid hway
    have HC := Lib.hid hc
    clear hc hway hcd hmm hcm hkb
    cases o with
    | true =>
      by_cases h0 : s.size = 0
      · obtain rfl := sz0 h0
        have HE := Lib.hid (show okF ⟨a, b, d, m⟩ ⟨(⟨#[]⟩ : ByteArray).data.toList, true⟩ = true by
          have := HP.out; simp [okF, HC.out]; omega)
        go_enter Try.func36, Try.ntmps36
        go_wp2_with fail
        refine (codecOf_any a b d m _ wa).mono ?_
        rintro e w1 ⟨rfl, hb1⟩
        have hbx := (Bx.new w a b d m ⟨#[]⟩ true _ _).next hb1
        obtain ⟨_, e0, e1⟩ := hbx.cells
        have HBX := Lib.hid hbx
        rw [HC.out]
        clear hb1 hbx
        go_wp2
        go_ret
        exact ⟨by rw [HE.out]; rfl, HBX.out.2.2.1⟩
      · have HE := Lib.hid (show okF ⟨a, b, d, m⟩ ⟨s.data.toList, true⟩ = false by
          simp [okF]; intros; intro e; exact h0 (by rw [← HSL.out, e]; rfl))
        have h1 : s.toList ≠ [] := by rw [Lib.toList_data]; intro e; exact h0 (by rw [← HSL.out, e]; rfl)
        have h2 : s.toList.isEmpty = false := by cases hh : s.toList with | nil => exact absurd hh h1 | cons x l => rfl
        go_enter Try.func36, Try.ntmps36
        go_wp2_with fail
        refine (codecOf_any a b d m _ wa).mono ?_
        rintro e w1 ⟨rfl, hb1⟩
        have hbx := (Bx.new w a b d m s true _ _).next hb1
        obtain ⟨_, e0, e1⟩ := hbx.cells
        have HBX := Lib.hid hbx
        rw [HC.out]
        clear hb1 hbx
        go_wp2
        go_ret
        exact ⟨by rw [HE.out]; rfl, HBX.out.2.2.1⟩
    | false =>
      by_cases hle : (s.size : Int) ≤ holdN ⟨a, b, d, m⟩
      · have HE := Lib.hid (show okF ⟨a, b, d, m⟩ ⟨s.data.toList, false⟩ = !s.data.toList.contains (endOf ⟨a, b, d, m⟩) by
          simp [okF, HC.out, HSL.out, hle])
        have hq := HW.dm
        have hq2 := HW.de
        have hdc := Lib.hid HW.dc
        clear HW
        generalize hold : holdN ⟨a, b, d, m⟩ = hn at *
        have HO := Lib.hid hold
        obtain ⟨x, hx, hxr⟩ : ∃ x : Int, Lib.indexByte s.data.toList (((endOf ⟨a, b, d, m⟩).toNat : Int).toNat.toUInt8) = x ∧ decide (x < 0) = !s.data.toList.contains (endOf ⟨a, b, d, m⟩) := by
          refine ⟨_, rfl, ?_⟩
          rw [u8_back]
          by_cases hmem : endOf ⟨a, b, d, m⟩ ∈ s.data.toList
          · obtain ⟨k, e, _⟩ := idx_split hmem
            rw [e]; simp [hmem]
          · rw [idx_none hmem]; simp [hmem]
        have HX := Lib.hid hx
        have HXR := Lib.hid hxr
        clear hold hx hxr
        go_enter Try.func36, Try.ntmps36
        go_wp2_with fail
        refine (codecOf_any a b d m _ wa).mono ?_
        rintro e w1 ⟨rfl, hb1⟩
        have hbx := (Bx.new w a b d m s false _ _).next hb1
        obtain ⟨⟨c0, c1, c2, c3⟩, e0, e1⟩ := hbx.cells
        rw [HC.out, HWV.out]
        clear hb1
        go_wp2_with fail
        have hS := hbx.drew
        clear c0 c1 c2 c3 e0 e1 hbx
        go_region_held3 (fun wx => (wx.cell? ⟨w.heap.size, 0, none⟩ = some (.int .i64 a) ∧ wx.cell? ⟨w.heap.size, 1, none⟩ = some (.int .i64 b) ∧ wx.cell? ⟨w.heap.size, 2, none⟩ = some (.int .i64 d) ∧ wx.cell? ⟨w.heap.size, 3, none⟩ = some (.int .i64 m)) ∧ (wx.cell? ⟨w.heap.size + 1, 0, none⟩ = some (.string s) ∧ wx.cell? ⟨w.heap.size + 1, 1, none⟩ = some (.bool false))) (first | exact hS.flat) (first | (go_at_call 56; refine (bufSize_any a b d m _ hkb2 hd).mono ?_; rintro e w2 ⟨rfl, hb2⟩; have hS := hS.next hb2; rw [HO.out]) | (go_at_call 57; refine (idx_any s _ _).mono ?_; rintro e w4 ⟨rfl, rfl⟩; rw [HX.out]) | (refine (hdc.out _).mono ?_; rintro e w3 ⟨rfl, hb3⟩; have hS := hS.next hb3))
        go_wp2
        go_ret
        exact ⟨by rw [HE.out, ← HXR.out]; rfl, hS.2.2.1⟩
      · have HE := Lib.hid (show okF ⟨a, b, d, m⟩ ⟨s.data.toList, false⟩ = false by
          simp [okF, HC.out, HSL.out]; omega)
        clear HW
        generalize hold : holdN ⟨a, b, d, m⟩ = hn at *
        have HO := Lib.hid hold
        have hdl : decide ((s.size : Int) ≤ hn) = false := by simpa using hle
        clear hold
        go_enter Try.func36, Try.ntmps36
        go_wp2_with fail
        refine (codecOf_any a b d m _ wa).mono ?_
        rintro e w1 ⟨rfl, hb1⟩
        have hbx := (Bx.new w a b d m s false _ _).next hb1
        obtain ⟨⟨c0, c1, c2, c3⟩, e0, e1⟩ := hbx.cells
        rw [HC.out, HWV.out]
        clear hb1
        go_wp2_with fail
        have hB := hbx.drew
        have hS := hB.flat
        clear hbx
        refine wp_region_held_drew (S := (fun wx => (wx.cell? ⟨w.heap.size, 0, none⟩ = some (.int .i64 a) ∧ wx.cell? ⟨w.heap.size, 1, none⟩ = some (.int .i64 b) ∧ wx.cell? ⟨w.heap.size, 2, none⟩ = some (.int .i64 d) ∧ wx.cell? ⟨w.heap.size, 3, none⟩ = some (.int .i64 m)) ∧ (wx.cell? ⟨w.heap.size + 1, 0, none⟩ = some (.string s) ∧ wx.cell? ⟨w.heap.size + 1, 1, none⟩ = some (.bool false)))) (by kernel_rfl) hS (fun hHeld => ?_)
        refine wpAnyH_take (i := 0) (v := ?_) rfl (by kernel_rfl) (by kernel_rfl) (by kernel_rfl) (fun _ _ _ h => h) (Or.inl ⟨by rfl, ?_⟩) (by assumption) ?_
        rotate_left
        · intro wq hSw
          (try dsimp only at hSw)
          (try simp only [List.getElem_toArray, List.getElem_cons_zero])
          go_simp
          (try with_reducible rfl)
        simp only [Act.put, List.getElem_toArray, List.getElem_cons_zero, List.setIfInBounds_toArray, List.set_cons_zero, List.set_cons_succ]
        refine wpAnyH_take (i := 1) (v := ?_) rfl (by kernel_rfl) (by kernel_rfl) (by kernel_rfl) (fun _ _ _ h => h) (Or.inl ⟨by rfl, ?_⟩) (by assumption) ?_
        rotate_left
        · intro wq hSw
          (try dsimp only at hSw)
          (try simp only [List.getElem_toArray, List.getElem_cons_succ, List.getElem_cons_zero])
          go_simp
          (try with_reducible rfl)
        simp only [Act.put, List.getElem_toArray, List.getElem_cons_succ, List.getElem_cons_zero, List.setIfInBounds_toArray, List.set_cons_zero, List.set_cons_succ]
        refine wpAnyH_take (i := 2) (v := ?_) rfl (by kernel_rfl) (by kernel_rfl) (by kernel_rfl) (fun _ _ _ h => h) (Or.inl ⟨by rfl, ?_⟩) (by assumption) ?_
        rotate_left
        · intro wq hSw
          (try dsimp only at hSw)
          (try simp only [List.getElem_toArray, List.getElem_cons_succ, List.getElem_cons_zero])
          go_simp
          (try with_reducible rfl)
        simp only [Act.put, List.getElem_toArray, List.getElem_cons_succ, List.getElem_cons_zero, List.setIfInBounds_toArray, List.set_cons_zero, List.set_cons_succ]
        refine wpAnyH_take (i := 3) (v := ?_) rfl (by kernel_rfl) (by kernel_rfl) (by kernel_rfl) (fun _ _ _ h => h) (Or.inl ⟨by rfl, ?_⟩) (by assumption) ?_
        rotate_left
        · intro wq hSw
          (try dsimp only at hSw)
          (try simp only [List.getElem_toArray, List.getElem_cons_succ, List.getElem_cons_zero])
          go_simp
          (try with_reducible rfl)
        simp only [Act.put, List.getElem_toArray, List.getElem_cons_succ, List.getElem_cons_zero, List.setIfInBounds_toArray, List.set_cons_zero, List.set_cons_succ]
        refine wpAnyH_ready (rs := [4]) (by kernel_rfl) (by simp) ?_
        refine AllReadyH.cons rfl (fun K hK => ?_) AllReadyH.nil
        (try simp only [List.getElem_toArray, List.getElem_cons_succ, List.getElem_cons_zero])
        go_simp
        go_at_call 56
        refine (bufSize_any a b d m _ hkb2 hd).mono ?_
        rintro e w2 ⟨rfl, hb2⟩
        have hB := hB.next hb2
        have hS := hB.flat
        rw [HO.out]
        refine hK.out _ _ hS (fun hHeld => ?_)
        clear hK K
        refine wpAnyH_take (i := 5) (v := ?_) rfl (by kernel_rfl) (by kernel_rfl) (by kernel_rfl) (fun _ _ _ h => h) (Or.inl ⟨by rfl, ?_⟩) (by assumption) ?_
        rotate_left
        · intro wq hSw
          (try dsimp only at hSw)
          (try simp only [List.getElem_toArray, List.getElem_cons_succ, List.getElem_cons_zero])
          go_simp
          (try with_reducible rfl)
        simp only [Act.put, List.getElem_toArray, List.getElem_cons_succ, List.getElem_cons_zero, List.setIfInBounds_toArray, List.set_cons_zero, List.set_cons_succ]
        refine wpAnyH_take (i := 6) (v := ?_) rfl (by kernel_rfl) (by kernel_rfl) (by kernel_rfl) (fun _ _ _ h => h) (Or.inl ⟨by rfl, ?_⟩) (by assumption) ?_
        rotate_left
        · intro wq hSw
          (try dsimp only at hSw)
          (try simp only [List.getElem_toArray, List.getElem_cons_succ, List.getElem_cons_zero])
          go_simp
          (try with_reducible rfl)
        simp only [Act.put, List.getElem_toArray, List.getElem_cons_succ, List.getElem_cons_zero, List.setIfInBounds_toArray, List.set_cons_zero, List.set_cons_succ]
        refine wpAnyH_take (i := 7) (v := undef) rfl (by kernel_rfl) (by kernel_rfl) (by kernel_rfl) (fun _ _ _ h => h) (Or.inr ⟨by rfl, rfl⟩) (by assumption) ?_
        simp only [Act.put, List.getElem_toArray, List.getElem_cons_succ, List.getElem_cons_zero, List.setIfInBounds_toArray, List.set_cons_zero, List.set_cons_succ]
        refine wpAnyH_take (i := 8) (v := undef) rfl (by kernel_rfl) (by kernel_rfl) (by kernel_rfl) (fun _ _ _ h => h) (Or.inr ⟨by rfl, rfl⟩) (by assumption) ?_
        simp only [Act.put, List.getElem_toArray, List.getElem_cons_succ, List.getElem_cons_zero, List.setIfInBounds_toArray, List.set_cons_zero, List.set_cons_succ]
        refine wpAnyH_take (i := 9) (v := undef) rfl (by kernel_rfl) (by kernel_rfl) (by kernel_rfl) (fun _ _ _ h => h) (Or.inr ⟨by rfl, rfl⟩) (by assumption) ?_
        simp only [Act.put, List.getElem_toArray, List.getElem_cons_succ, List.getElem_cons_zero, List.setIfInBounds_toArray, List.set_cons_zero, List.set_cons_succ]
        refine wpAnyH_take (i := 10) (v := undef) rfl (by kernel_rfl) (by kernel_rfl) (by kernel_rfl) (fun _ _ _ h => h) (Or.inr ⟨by rfl, rfl⟩) (by assumption) ?_
        simp only [Act.put, List.getElem_toArray, List.getElem_cons_succ, List.getElem_cons_zero, List.setIfInBounds_toArray, List.set_cons_zero, List.set_cons_succ]
        refine wpAnyH_take (i := 11) (v := undef) rfl (by kernel_rfl) (by kernel_rfl) (by kernel_rfl) (fun _ _ _ h => h) (Or.inr ⟨by rfl, rfl⟩) (by assumption) ?_
        simp only [Act.put, List.getElem_toArray, List.getElem_cons_succ, List.getElem_cons_zero, List.setIfInBounds_toArray, List.set_cons_zero, List.set_cons_succ]
        refine wpAnyH_take (i := 12) (v := undef) rfl (by kernel_rfl) (by kernel_rfl) (by kernel_rfl) (fun _ _ _ h => h) (Or.inr ⟨by rfl, rfl⟩) (by assumption) ?_
        simp only [Act.put, List.getElem_toArray, List.getElem_cons_succ, List.getElem_cons_zero, List.setIfInBounds_toArray, List.set_cons_zero, List.set_cons_succ]
        refine wpAnyH_take (i := 13) (v := ?_) rfl (by kernel_rfl) (by kernel_rfl) (by kernel_rfl) (fun _ _ _ h => h) (Or.inl ⟨by rfl, ?_⟩) (by assumption) ?_
        rotate_left
        · intro wq hSw
          (try dsimp only at hSw)
          (try simp only [List.getElem_toArray, List.getElem_cons_succ, List.getElem_cons_zero])
          go_simp
          (try with_reducible rfl)
        simp only [Act.put, List.getElem_toArray, List.getElem_cons_succ, List.getElem_cons_zero, List.setIfInBounds_toArray, List.set_cons_zero, List.set_cons_succ]
        refine wpAnyH_take (i := 14) (v := ?_) rfl (by kernel_rfl) (by kernel_rfl) (by kernel_rfl) (fun _ _ _ h => h) (Or.inl ⟨by rfl, ?_⟩) (by assumption) ?_
        rotate_left
        · intro wq hSw
          (try dsimp only at hSw)
          (try simp only [List.getElem_toArray, List.getElem_cons_succ, List.getElem_cons_zero])
          go_simp
          (try with_reducible rfl)
        simp only [Act.put, List.getElem_toArray, List.getElem_cons_succ, List.getElem_cons_zero, List.setIfInBounds_toArray, List.set_cons_zero, List.set_cons_succ]
        refine wpAnyH_done (by kernel_rfl) ?_ _
        go_wp2
        go_ret
        exact ⟨by rw [HE.out]; rfl, hB.2.2.1⟩
end Go.Proofs.Ytdnedoafgfpnfaa
