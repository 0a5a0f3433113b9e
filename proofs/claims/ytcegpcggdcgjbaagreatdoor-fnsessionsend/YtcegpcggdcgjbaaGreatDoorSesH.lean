/- A session in the model: words of two. -/
import Derived.Test.YtcegpcggdcgjbaaGreatDoorSesG
import Derived.Test.YtcegpcggdcgjbaaGreatDoorKitFindC
import Derived.Test.YtcegpcggdcgjbaaGreatDoorKitCobE
namespace Go.Proofs.YtcegpcggdcgjbaaGreatDoor
open Go.ChangeShapes Go.WideShapes Go.ChangeAt Go.RowKit
open Go.Lib (decDigits)
set_option linter.unusedVariables false
theorem nl_any (T : ByteArray) (h : T.size ≤ 1000000) : ∃ C : ByteArray, C = ⟨(T.data.toList ++ [10]).toArray⟩ ∧ ∀ u : World, (Op.stringOp .add T ⟨#[10]⟩).run Tryz.prog u = .ok (.string C) u := by
  obtain ⟨C, h1, _, _, h4⟩ := cat_any T ⟨#[10]⟩ (by have : (⟨#[10]⟩ : ByteArray).size = 1 := rfl; omega)
  exact ⟨C, by rw [← Lib.mk_data C, h1], h4⟩
theorem text_of (l : List UInt8) : ∃ T : ByteArray, (⟨l.toArray⟩ : ByteArray) = T ∧ T.data.toList = l ∧ T.size = l.length := ⟨⟨l.toArray⟩, rfl, rfl, by simp [ByteArray.size]⟩
theorem d_below {w w' : World} {g : Nat} {s : St} (h : DB w g s) (hb : Below w.heap.size w w') : DB w' g s ∧ w.grownBy w' (some g) := ⟨BK.from h hb, grownB hb⟩
set_option maxRecDepth 100000 in
set_option maxHeartbeats 1000000 in
theorem twoSend (s : St) (hok : s.Ok) (g : Nat) (nm t : ByteArray) (w : World) (h : DB w g s) (ht : t.size ≤ 40) (hn : nm.data.toList = wSend) :
    Calls Tryz.prog 36 #[.pointer (some ⟨g, 0, none⟩), .string nm, .string t] w (DPost w g (twoS s nm.data.toList t.data.toList)) := by
  have e0 : (nm.toList == [115, 101, 110, 100]) = true := by rw [tok_eq]; exact decide_eq_true hn
  have HTW := Lib.hid (show twoS s nm.data.toList t.data.toList = (s, sendS s t.data.toList) by unfold twoS; rw [hn, if_pos rfl])
  have HDB := Lib.hid h
  have hlen := sendS_len s t.data.toList
  obtain ⟨s0, s1, s2, s3, s4, s5, s6⟩ := DB.cells h
  clear h hn hok
  cases hc : confB s.cf with
  | false =>
    have HE := Lib.hid (show sendS s t.data.toList = aNo by unfold sendS sendOk; rw [hc]; rfl)
    rw [hc] at s6
    clear hc hlen
    go_enter Tryz.func36, Tryz.ntmps36
    go_wp2
    go_ret
    exact ⟨by rw [HTW.out, HE.out]; rfl, by rw [HTW.out]; exact HDB.out, grownB (Below.refl _ _)⟩
  | true =>
    rw [hc] at s6
    have hm := (confB_yes hc).2.2.1
    by_cases hl : s.cf.most < (t.size : Int)
    · have HE := Lib.hid (show sendS s t.data.toList = aNo by unfold sendS sendOk; rw [size_list, decide_eq_false (by omega), Bool.and_false]; rfl)
      clear hc hlen
      go_enter Tryz.func36, Tryz.ntmps36
      go_wp2
      go_ret
      exact ⟨by rw [HTW.out, HE.out]; rfl, by rw [HTW.out]; exact HDB.out, grownB (Below.refl _ _)⟩
    · have hso : sendOk s.cf t.data.toList = true := by unfold sendOk; rw [hc, size_list, decide_eq_true (by omega)]; rfl
      have hsz := sendL_size hso
      have HE := Lib.hid (show sendS s t.data.toList = hexL (sendL s.cf t.data.toList) by unfold sendS; rw [hso, if_pos rfl])
      have HSD := Lib.hid (fun u => l7Send_any s.cf.codec s.cf.sum s.cf.most s.cf.map t u hc (by omega))
      obtain ⟨T, hT, hTd, hTs⟩ := text_of (sendL s.cf t.data.toList)
      have HT := Lib.hid hT
      have HTd := Lib.hid hTd
      obtain ⟨X, hX, hXd, hXs⟩ := text_of (hexL T.data.toList)
      have HX := Lib.hid hX
      have HXd := Lib.hid hXd
      have hX1 : X.size ≤ 400 := by rw [hXs, hexL_len, hTd]; omega
      obtain ⟨C, hC, hcat⟩ := nl_any X (by omega)
      have HC := Lib.hid hC
      have hT1 : T.size ≤ 200 := by omega
      clear hc hlen hso hsz hT hTd hTs hX hXd hXs hC
      go_enter Tryz.func36, Tryz.ntmps36
      go_wp2_with fail
      refine (HSD.out _).mono ?_
      rintro e w1 ⟨rfl, hb1⟩
      rw [show (⟨s.cf.codec, s.cf.sum, s.cf.most, s.cf.map⟩ : Cf) = s.cf from rfl, HT.out]
      have HB1 := Lib.hid hb1
      clear hb1
      go_wp2_with fail
      refine (l9Hex_any T _ (by omega)).mono ?_
      rintro e w2 ⟨rfl, hb2⟩
      rw [HX.out]
      have HB2 := Lib.hid (HB1.out.trans (hb2.mono HB1.out.size))
      clear hb2
      go_wp2
      go_ret
      exact ⟨by rw [HTW.out, HE.out, ← HTd.out, ← HXd.out, ← HC.out]; rfl, by rw [HTW.out]; exact (d_below HDB.out HB2.out).1, grownB HB2.out⟩
set_option maxRecDepth 100000 in
set_option maxHeartbeats 1000000 in
theorem twoFeed (s : St) (hok : s.Ok) (g : Nat) (nm t : ByteArray) (w : World) (h : DB w g s) (ht : t.size ≤ 40) (hn : nm.data.toList = wFeed) :
    Calls Tryz.prog 36 #[.pointer (some ⟨g, 0, none⟩), .string nm, .string t] w (DPost w g (twoS s nm.data.toList t.data.toList)) := by
  have e0 : (nm.toList == [115, 101, 110, 100]) = false := by rw [tok_eq]; exact decide_eq_false (by rw [hn]; decide)
  have e1 : (nm.toList == [102, 101, 101, 100]) = true := by rw [tok_eq]; exact decide_eq_true hn
  have HTW := Lib.hid (show twoS s nm.data.toList t.data.toList = feedS s t.data.toList by unfold twoS; rw [hn, if_neg (by decide), if_pos rfl])
  have HDB := Lib.hid h
  have hgw := h.lt
  cases hc : confB s.cf with
  | false =>
    have HE := Lib.hid (show feedS s t.data.toList = (s, aNo) by unfold feedS; rw [hc, if_neg Bool.false_ne_true])
    obtain ⟨s0, s1, s2, s3, s4, s5, s6⟩ := DB.cells h
    rw [hc] at s6
    clear hc h hn hok
    go_enter Tryz.func36, Tryz.ntmps36
    go_wp2
    go_ret
    exact ⟨by rw [HTW.out, HE.out]; rfl, by rw [HTW.out, HE.out]; exact HDB.out, grownB (Below.refl _ _)⟩
  | true =>
    have hokf := hok.find hc
    have hhl := hok.held
    have HE := Lib.hid (show feedS s t.data.toList = (⟨s.cf, (ffeed s.cf s.fd t.data.toList).1⟩, evsB (ffeed s.cf s.fd t.data.toList).2) by unfold feedS; rw [hc, if_pos rfl])
    have hFF := fun W => l7Feed_any s.cf.codec s.cf.sum s.cf.most s.cf.map ⟨s.fd.held.toArray⟩ s.fd.over t W hokf (by omega)
    rw [show ffeed ⟨s.cf.codec, s.cf.sum, s.cf.most, s.cf.map⟩ ⟨(⟨s.fd.held.toArray⟩ : ByteArray).data.toList, s.fd.over⟩ t.data.toList = ffeed s.cf s.fd t.data.toList from rfl] at hFF
    have hfl := ffeed_len s.cf t.data.toList s.fd
    rw [size_list] at hfl
    have HKD := Lib.hid (ffeed_kind s.cf t.data.toList s.fd)
    generalize ffeed s.cf s.fd t.data.toList = p at *
    obtain ⟨⟨Hd, y⟩, evs⟩ := p
    obtain ⟨X, hX⟩ : ∃ X : ByteArray, X = ⟨Hd.toArray⟩ := ⟨_, rfl⟩
    have HXE := Lib.hid hX
    have HFR := Lib.hid (show ∀ W, Calls Tryz.prog 60 #[cfV s.cf.codec s.cf.sum s.cf.most s.cf.map, fdV ⟨s.fd.held.toArray⟩ s.fd.over, .string t] W (fun e w' => ∃ v, e = .returned (.tuple #[.agg #[.string X, .bool y], v]) ∧ OE w' W.heap.size v evs ∧ Below W.heap.size W w') from fun W => by rw [hX]; exact hFF W)
    obtain ⟨s0, s1, s2, s3, s4, s5, s6⟩ := DB.cells h
    rw [hc] at s6
    have HC := Lib.hid hc
    simp only at hfl HKD HE
    clear hc hok h hn hokf hFF hX hhl
    go_enter Tryz.func36, Tryz.ntmps36
    have HSX := Lib.hid (show ∀ wx : World, Below w.drew.heap.size w.drew wx → (wx.cell? ⟨g, 0, none⟩ = some (.int .i64 s.cf.codec) ∧ wx.cell? ⟨g, 1, none⟩ = some (.int .i64 s.cf.sum) ∧ wx.cell? ⟨g, 2, none⟩ = some (.int .i64 s.cf.most) ∧ wx.cell? ⟨g, 3, none⟩ = some (.int .i64 s.cf.map) ∧ wx.cell? ⟨g, 4, none⟩ = some (.string ⟨s.fd.held.toArray⟩) ∧ wx.cell? ⟨g, 5, none⟩ = some (.bool s.fd.over)) from fun wx hb => by
      obtain ⟨a0, a1, a2, a3, a4, a5, _⟩ := DB.cells (BK.from HDB.out.drew hb)
      exact ⟨a0, a1, a2, a3, a4, a5⟩)
    have hz := zero_find
    go_wp2_with fail
    clear s0 s1 s2 s3 s4 s5 s6
    go_cut [7, 8] (fun s7 s8 wx => ∃ gq, s7 = .pointer (some ⟨gq, 0, none⟩) ∧ XAt w.drew wx gq X y s8 evs)
    case first =>
      have hB := Below.refl w.drew.heap.size w.drew
      have hS := HSX.out _ hB
      refine wp_region_held_drew (S := (fun wx => wx.cell? ⟨g, 0, none⟩ = some (.int .i64 s.cf.codec) ∧ wx.cell? ⟨g, 1, none⟩ = some (.int .i64 s.cf.sum) ∧ wx.cell? ⟨g, 2, none⟩ = some (.int .i64 s.cf.most) ∧ wx.cell? ⟨g, 3, none⟩ = some (.int .i64 s.cf.map) ∧ wx.cell? ⟨g, 4, none⟩ = some (.string ⟨s.fd.held.toArray⟩) ∧ wx.cell? ⟨g, 5, none⟩ = some (.bool s.fd.over))) (by kernel_rfl) hS (fun hHeld => ?_)
      obtain ⟨wd, hwd⟩ : ∃ wd, wd = w.drew := ⟨_, rfl⟩
      rw [← hwd] at hB hS ⊢
      rw [← hwd] at HSX
      have HWD := Lib.hid hwd
      clear hwd
      refine wpAnyH_take (i := 0) (v := ?_) rfl (by kernel_rfl) (by kernel_rfl) (by kernel_rfl) (fun _ _ _ h => h) (Or.inl ⟨by rfl, ?_⟩) (by assumption) ?_
      rotate_left
      · intro wq hSw
        (try dsimp only at hSw)
        (try simp only [List.getElem_toArray, List.getElem_cons_zero])
        go_simp
        (try with_reducible rfl)
      simp only [Act.put, List.getElem_toArray, List.getElem_cons_zero, List.setIfInBounds_toArray, List.set_cons_zero, List.set_cons_succ]
      refine wpAnyH_take (i := 1) (v := ?_) rfl (by kernel_rfl) (by kernel_rfl) (by kernel_rfl) (fun _ _ _ h => h) (Or.inl ⟨by rfl, ?_⟩) (by assumption) ?_
      rotate_left
      · intro wq hSw
        (try dsimp only at hSw)
        (try simp only [List.getElem_toArray, List.getElem_cons_succ, List.getElem_cons_zero])
        go_simp
        (try with_reducible rfl)
      simp only [Act.put, List.getElem_toArray, List.getElem_cons_succ, List.getElem_cons_zero, List.setIfInBounds_toArray, List.set_cons_zero, List.set_cons_succ]
      refine wpAnyH_take (i := 2) (v := ?_) rfl (by kernel_rfl) (by kernel_rfl) (by kernel_rfl) (fun _ _ _ h => h) (Or.inl ⟨by rfl, ?_⟩) (by assumption) ?_
      rotate_left
      · intro wq hSw
        (try dsimp only at hSw)
        (try simp only [List.getElem_toArray, List.getElem_cons_succ, List.getElem_cons_zero])
        go_simp
        (try with_reducible rfl)
      simp only [Act.put, List.getElem_toArray, List.getElem_cons_succ, List.getElem_cons_zero, List.setIfInBounds_toArray, List.set_cons_zero, List.set_cons_succ]
      refine wpAnyH_take (i := 3) (v := ?_) rfl (by kernel_rfl) (by kernel_rfl) (by kernel_rfl) (fun _ _ _ h => h) (Or.inl ⟨by rfl, ?_⟩) (by assumption) ?_
      rotate_left
      · intro wq hSw
        (try dsimp only at hSw)
        (try simp only [List.getElem_toArray, List.getElem_cons_succ, List.getElem_cons_zero])
        go_simp
        (try with_reducible rfl)
      simp only [Act.put, List.getElem_toArray, List.getElem_cons_succ, List.getElem_cons_zero, List.setIfInBounds_toArray, List.set_cons_zero, List.set_cons_succ]
      refine wpAnyH_take (i := 4) (v := ?_) rfl (by kernel_rfl) (by kernel_rfl) (by kernel_rfl) (fun _ _ _ h => h) (Or.inl ⟨by rfl, ?_⟩) (by assumption) ?_
      rotate_left
      · intro wq hSw
        (try dsimp only at hSw)
        (try simp only [List.getElem_toArray, List.getElem_cons_succ, List.getElem_cons_zero])
        go_simp
        (try with_reducible rfl)
      simp only [Act.put, List.getElem_toArray, List.getElem_cons_succ, List.getElem_cons_zero, List.setIfInBounds_toArray, List.set_cons_zero, List.set_cons_succ]
      refine wpAnyH_take (i := 5) (v := ?_) rfl (by kernel_rfl) (by kernel_rfl) (by kernel_rfl) (fun _ _ _ h => h) (Or.inl ⟨by rfl, ?_⟩) (by assumption) ?_
      rotate_left
      · intro wq hSw
        (try dsimp only at hSw)
        (try simp only [List.getElem_toArray, List.getElem_cons_succ, List.getElem_cons_zero])
        go_simp
        (try with_reducible rfl)
      simp only [Act.put, List.getElem_toArray, List.getElem_cons_succ, List.getElem_cons_zero, List.setIfInBounds_toArray, List.set_cons_zero, List.set_cons_succ]
      refine wpAnyH_take (i := 6) (v := ?_) rfl (by kernel_rfl) (by kernel_rfl) (by kernel_rfl) (fun _ _ _ h => h) (Or.inl ⟨by rfl, ?_⟩) (by assumption) ?_
      rotate_left
      · intro wq hSw
        (try dsimp only at hSw)
        (try simp only [List.getElem_toArray, List.getElem_cons_succ, List.getElem_cons_zero])
        go_simp
        (try with_reducible rfl)
      simp only [Act.put, List.getElem_toArray, List.getElem_cons_succ, List.getElem_cons_zero, List.setIfInBounds_toArray, List.set_cons_zero, List.set_cons_succ]
      refine wpAnyH_take (i := 7) (v := ?_) rfl (by kernel_rfl) (by kernel_rfl) (by kernel_rfl) (fun _ _ _ h => h) (Or.inl ⟨by rfl, ?_⟩) (by assumption) ?_
      rotate_left
      · intro wq hSw
        (try dsimp only at hSw)
        (try simp only [List.getElem_toArray, List.getElem_cons_succ, List.getElem_cons_zero])
        go_simp
        (try with_reducible rfl)
      simp only [Act.put, List.getElem_toArray, List.getElem_cons_succ, List.getElem_cons_zero, List.setIfInBounds_toArray, List.set_cons_zero, List.set_cons_succ]
      refine wpAnyH_take (i := 8) (v := ?_) rfl (by kernel_rfl) (by kernel_rfl) (by kernel_rfl) (fun _ _ _ h => h) (Or.inl ⟨by rfl, ?_⟩) (by assumption) ?_
      rotate_left
      · intro wq hSw
        (try dsimp only at hSw)
        (try simp only [List.getElem_toArray, List.getElem_cons_succ, List.getElem_cons_zero])
        go_simp
        (try with_reducible rfl)
      simp only [Act.put, List.getElem_toArray, List.getElem_cons_succ, List.getElem_cons_zero, List.setIfInBounds_toArray, List.set_cons_zero, List.set_cons_succ]
      have hBa := hB.alloc hB.size (.cells #[.string ⟨#[]⟩, .bool false] 37)
      have hSa := HSX.out _ hBa
      refine wpAnyH_ready (rs := [9, 13]) (by kernel_rfl) (by simp) ?_
      refine AllReadyH.cons rfl ?_ (AllReadyH.cons rfl ?_ AllReadyH.nil)
      · intro K hK
        (try simp only [List.getElem_toArray, List.getElem_cons_succ, List.getElem_cons_zero])
        go_simp
        go_at_call 60
        refine (HFR.out _).mono ?_
        rintro e w4 ⟨ve, rfl, hoe, hb4⟩
        have hB := hB.trans hb4
        have hS := HSX.out _ hB
        refine hK.out _ _ hS (fun hHeld => ?_)
        clear hK K
        refine wpAnyH_take (i := 10) (v := ?_) rfl (by kernel_rfl) (by kernel_rfl) (by kernel_rfl) (fun _ _ _ h => h) (Or.inl ⟨by rfl, ?_⟩) (by assumption) ?_
        rotate_left
        · intro wq hSw
          (try dsimp only at hSw)
          (try simp only [List.getElem_toArray, List.getElem_cons_succ, List.getElem_cons_zero])
          go_simp
          (try with_reducible rfl)
        simp only [Act.put, List.getElem_toArray, List.getElem_cons_succ, List.getElem_cons_zero, List.setIfInBounds_toArray, List.set_cons_zero, List.set_cons_succ]
        refine wpAnyH_take (i := 11) (v := ?_) rfl (by kernel_rfl) (by kernel_rfl) (by kernel_rfl) (fun _ _ _ h => h) (Or.inl ⟨by rfl, ?_⟩) (by assumption) ?_
        rotate_left
        · intro wq hSw
          (try dsimp only at hSw)
          (try simp only [List.getElem_toArray, List.getElem_cons_succ, List.getElem_cons_zero])
          go_simp
          (try with_reducible rfl)
        simp only [Act.put, List.getElem_toArray, List.getElem_cons_succ, List.getElem_cons_zero, List.setIfInBounds_toArray, List.set_cons_zero, List.set_cons_succ]
        refine wpAnyH_take (i := 12) (v := ?_) rfl (by kernel_rfl) (by kernel_rfl) (by kernel_rfl) (fun _ _ _ h => h) (Or.inl ⟨by rfl, ?_⟩) (by assumption) ?_
        rotate_left
        · intro wq hSw
          (try dsimp only at hSw)
          (try simp only [List.getElem_toArray, List.getElem_cons_succ, List.getElem_cons_zero])
          go_simp
          (try with_reducible rfl)
        simp only [Act.put, List.getElem_toArray, List.getElem_cons_succ, List.getElem_cons_zero, List.setIfInBounds_toArray, List.set_cons_zero, List.set_cons_succ]
        have hS := HSX.out _ (hB.alloc hB.size (.cells #[.string ⟨#[]⟩, .bool false] 37))
        refine wpAnyH_ready (rs := [13]) (by kernel_rfl) (by simp) ?_
        refine AllReadyH.cons rfl (fun K hK => ?_) AllReadyH.nil
        (try simp only [List.getElem_toArray, List.getElem_cons_succ, List.getElem_cons_zero])
        skip
        go_simp
        skip
        refine hK.out _ _ hS (fun hHeld => ?_)
        clear hK K
        have hS := HSX.out _ (hB.alloc hB.size (.cells #[.string X, .bool y] 37))
        have hXA := x_last hb4 hoe.reads X y
        refine wpAnyH_ready (rs := [14]) (by kernel_rfl) (by simp) ?_
        refine AllReadyH.cons rfl (fun K hK => ?_) AllReadyH.nil
        (try simp only [List.getElem_toArray, List.getElem_cons_succ, List.getElem_cons_zero])
        skip
        go_simp
        skip
        refine hK.out _ _ hS (fun hHeld => ?_)
        clear hK K
        refine wpAnyH_take (i := 15) (v := ?_) rfl (by kernel_rfl) (by kernel_rfl) (by kernel_rfl) (fun _ _ _ h => h) (Or.inl ⟨by rfl, ?_⟩) (by assumption) ?_
        rotate_left
        · intro wq hSw
          (try dsimp only at hSw)
          (try simp only [List.getElem_toArray, List.getElem_cons_succ, List.getElem_cons_zero])
          go_simp
          (try with_reducible rfl)
        simp only [Act.put, List.getElem_toArray, List.getElem_cons_succ, List.getElem_cons_zero, List.setIfInBounds_toArray, List.set_cons_zero, List.set_cons_succ]
        refine wpAnyH_done (by kernel_rfl) ?_ _
        go_wp2
        go_meet
        exact ⟨_, rfl, by rw [← HWD.out]; exact hXA⟩
      · intro K hK
        (try simp only [List.getElem_toArray, List.getElem_cons_succ, List.getElem_cons_zero])
        go_simp
        refine hK.out _ _ hSa (fun hHeld => ?_)
        clear hK K
        have hS := hSa
        refine wpAnyH_ready (rs := [9]) (by kernel_rfl) (by simp) ?_
        refine AllReadyH.cons rfl (fun K hK => ?_) AllReadyH.nil
        (try simp only [List.getElem_toArray, List.getElem_cons_succ, List.getElem_cons_zero])
        go_simp
        go_at_call 60
        refine (HFR.out _).mono ?_
        rintro e w4 ⟨ve, rfl, hoe, hb4⟩
        have hB := hBa.trans (hb4.mono hBa.size)
        have hS := HSX.out _ hB
        refine hK.out _ _ hS (fun hHeld => ?_)
        clear hK K
        refine wpAnyH_take (i := 10) (v := ?_) rfl (by kernel_rfl) (by kernel_rfl) (by kernel_rfl) (fun _ _ _ h => h) (Or.inl ⟨by rfl, ?_⟩) (by assumption) ?_
        rotate_left
        · intro wq hSw
          (try dsimp only at hSw)
          (try simp only [List.getElem_toArray, List.getElem_cons_succ, List.getElem_cons_zero])
          go_simp
          (try with_reducible rfl)
        simp only [Act.put, List.getElem_toArray, List.getElem_cons_succ, List.getElem_cons_zero, List.setIfInBounds_toArray, List.set_cons_zero, List.set_cons_succ]
        refine wpAnyH_take (i := 11) (v := ?_) rfl (by kernel_rfl) (by kernel_rfl) (by kernel_rfl) (fun _ _ _ h => h) (Or.inl ⟨by rfl, ?_⟩) (by assumption) ?_
        rotate_left
        · intro wq hSw
          (try dsimp only at hSw)
          (try simp only [List.getElem_toArray, List.getElem_cons_succ, List.getElem_cons_zero])
          go_simp
          (try with_reducible rfl)
        simp only [Act.put, List.getElem_toArray, List.getElem_cons_succ, List.getElem_cons_zero, List.setIfInBounds_toArray, List.set_cons_zero, List.set_cons_succ]
        refine wpAnyH_take (i := 12) (v := ?_) rfl (by kernel_rfl) (by kernel_rfl) (by kernel_rfl) (fun _ _ _ h => h) (Or.inl ⟨by rfl, ?_⟩) (by assumption) ?_
        rotate_left
        · intro wq hSw
          (try dsimp only at hSw)
          (try simp only [List.getElem_toArray, List.getElem_cons_succ, List.getElem_cons_zero])
          go_simp
          (try with_reducible rfl)
        simp only [Act.put, List.getElem_toArray, List.getElem_cons_succ, List.getElem_cons_zero, List.setIfInBounds_toArray, List.set_cons_zero, List.set_cons_succ]
        have hkq := (BK.new wd #[.string ⟨#[]⟩, .bool false] 37).from hb4
        obtain ⟨q0, q1⟩ : _ ∧ _ := ⟨hkq.cell (i := 0) rfl, hkq.cell (i := 1) rfl⟩
        have qf0 := hkq.free 0
        have qf1 := hkq.free 1
        have hXA := x_ahead hb4 hoe.reads X y
        have hS := HSX.out _ hXA.2.2.2
        refine wpAnyH_ready (rs := [14]) (by kernel_rfl) (by simp) ?_
        refine AllReadyH.cons rfl (fun K hK => ?_) AllReadyH.nil
        (try simp only [List.getElem_toArray, List.getElem_cons_succ, List.getElem_cons_zero])
        skip
        go_simp
        skip
        refine hK.out _ _ hS (fun hHeld => ?_)
        clear hK K
        refine wpAnyH_take (i := 15) (v := ?_) rfl (by kernel_rfl) (by kernel_rfl) (by kernel_rfl) (fun _ _ _ h => h) (Or.inl ⟨by rfl, ?_⟩) (by assumption) ?_
        rotate_left
        · intro wq hSw
          (try dsimp only at hSw)
          (try simp only [List.getElem_toArray, List.getElem_cons_succ, List.getElem_cons_zero])
          go_simp
          (try with_reducible rfl)
        simp only [Act.put, List.getElem_toArray, List.getElem_cons_succ, List.getElem_cons_zero, List.setIfInBounds_toArray, List.set_cons_zero, List.set_cons_succ]
        refine wpAnyH_done (by kernel_rfl) ?_ _
        go_wp2
        go_meet
        exact ⟨_, rfl, by rw [← HWD.out]; exact hXA⟩
    case rest =>
      obtain ⟨gq, rfl, hbk, hgg, hre, hbl⟩ := hcut
      obtain ⟨A6, C6, hsh⟩ := hre.shape
      subst hsh
      have hszc : w.heap.size ≤ wc.heap.size := hbl.size
      have hbc := BK.from HDB.out.drew hbl
      obtain ⟨s0, s1, s2, s3, s4, s5, s6⟩ := DB.cells hbc
      have f4 := hbc.free 4
      have f5 := hbc.free 5
      obtain ⟨q0, q1⟩ : _ ∧ _ := ⟨hbk.cell (i := 0) rfl, hbk.cell (i := 1) rfl⟩
      obtain ⟨w6, hw6⟩ : ∃ w6, w6 = (wc.setCell ⟨g, 4, none⟩ (.string X)).setCell ⟨g, 5, none⟩ (.bool y) := ⟨_, rfl⟩
      have HW6 := Lib.hid hw6
      have hs6' : w6.heap.size = wc.heap.size := by rw [hw6]; simp
      have HS6 := Lib.hid hs6'
      have HDB6 := Lib.hid (show DB w6 g ⟨s.cf, ⟨Hd, y⟩⟩ by
        have := (hbc.set 4 (.string X)).set 5 (.bool y)
        rw [← hw6, HXE.out] at this
        exact this)
      have HGR6 := Lib.hid (show w.grownBy w6 (some g) by
        rw [hw6]
        exact grownSet (grownSet (grownB (show Below w.heap.size w wc from (Below.refl _ _).drew.trans hbl)) _) _)
      have HRE6 := Lib.hid (show RE w6 w.drew.heap.size wc.heap.size (.slice A6 evs.length C6) evs by
        rw [hw6]
        exact (hre.setCell (p := ⟨g, 4, none⟩) hgw (.string X)).setCell (p := ⟨g, 5, none⟩) hgw (.bool y))
      clear hbk hgg hre hbl hbc hw6 hs6'
      go_wp2_with fail
      rw [← HW6.out]
      refine (l9Events_any _ evs w6 _ _ HRE6.out (Nat.le_of_eq HS6.out.symm) HKD.out (by omega)).mono ?_
      rintro e w8 ⟨rfl, hb8⟩
      have HB8 := Lib.hid hb8
      clear hb8
      go_wp2
      go_ret
      exact ⟨by rw [HTW.out, HE.out]; rfl, by rw [HTW.out, HE.out]; exact BK.from HDB6.out HB8.out, grown_trans HGR6.out (grownB HB8.out)⟩
set_option maxRecDepth 100000 in
set_option maxHeartbeats 1000000 in
theorem twoShort (s : St) (hok : s.Ok) (g : Nat) (nm t : ByteArray) (w : World) (h : DB w g s) (ht : t.size ≤ 40) (hn : nm.data.toList = wShort) :
    Calls Tryz.prog 36 #[.pointer (some ⟨g, 0, none⟩), .string nm, .string t] w (DPost w g (twoS s nm.data.toList t.data.toList)) := by
  have e0 : (nm.toList == [115, 101, 110, 100]) = false := by rw [tok_eq]; exact decide_eq_false (by rw [hn]; decide)
  have e1 : (nm.toList == [102, 101, 101, 100]) = false := by rw [tok_eq]; exact decide_eq_false (by rw [hn]; decide)
  have e2 : (nm.toList == [115, 104, 111, 114, 116]) = true := by rw [tok_eq]; exact decide_eq_true hn
  have HTW := Lib.hid (show twoS s nm.data.toList t.data.toList = (s, decDigits (sumN 2 t.data.toList)) by unfold twoS; rw [hn, if_neg (by decide), if_neg (by decide), if_pos rfl])
  have HDB := Lib.hid h
  have hlt := sumN_lt 2 t.data.toList
  have HO := Lib.hid (fun u => l1Of_any 2 t u (by unfold maxLen; omega))
  generalize sumN 2 t.data.toList = n at *
  have HI := Lib.hid (fun u => l1Dec_any n (by omega) u)
  have hd := dec_len10 n hlt
  obtain ⟨X, hX, hXd, hXs⟩ := text_of (decDigits n)
  have HX := Lib.hid hX
  have HXd := Lib.hid hXd
  have hX1 : X.size ≤ 10 := by omega
  obtain ⟨C, hC, hcat⟩ := nl_any X (by omega)
  have HC := Lib.hid hC
  clear h hn hok hX hXd hXs hC hlt hd
  go_enter Tryz.func36, Tryz.ntmps36
  go_wp2_with fail
  refine (HO.out _).mono ?_
  rintro e w1 ⟨rfl, rfl⟩
  go_wp2_with fail
  refine (HI.out _).mono ?_
  rintro e w2 ⟨rfl, hb2⟩
  rw [HX.out]
  have HB2 := Lib.hid hb2
  clear hb2
  go_wp2
  go_ret
  exact ⟨by rw [HTW.out, ← HXd.out, ← HC.out]; rfl, by rw [HTW.out]; exact (d_below HDB.out HB2.out).1, grownB HB2.out⟩
set_option maxRecDepth 100000 in
set_option maxHeartbeats 1000000 in
theorem twoLong (s : St) (hok : s.Ok) (g : Nat) (nm t : ByteArray) (w : World) (h : DB w g s) (ht : t.size ≤ 40) (hn : nm.data.toList = wLong) :
    Calls Tryz.prog 36 #[.pointer (some ⟨g, 0, none⟩), .string nm, .string t] w (DPost w g (twoS s nm.data.toList t.data.toList)) := by
  have e0 : (nm.toList == [115, 101, 110, 100]) = false := by rw [tok_eq]; exact decide_eq_false (by rw [hn]; decide)
  have e1 : (nm.toList == [102, 101, 101, 100]) = false := by rw [tok_eq]; exact decide_eq_false (by rw [hn]; decide)
  have e2 : (nm.toList == [115, 104, 111, 114, 116]) = false := by rw [tok_eq]; exact decide_eq_false (by rw [hn]; decide)
  have e3 : (nm.toList == [108, 111, 110, 103]) = true := by rw [tok_eq]; exact decide_eq_true hn
  have HTW := Lib.hid (show twoS s nm.data.toList t.data.toList = (s, decDigits (sumN 4 t.data.toList)) by unfold twoS; rw [hn, if_neg (by decide), if_neg (by decide), if_neg (by decide), if_pos rfl])
  have HDB := Lib.hid h
  have hlt := sumN_lt 4 t.data.toList
  have HO := Lib.hid (fun u => l1Of_any 4 t u (by unfold maxLen; omega))
  generalize sumN 4 t.data.toList = n at *
  have HI := Lib.hid (fun u => l1Dec_any n (by omega) u)
  have hd := dec_len10 n hlt
  obtain ⟨X, hX, hXd, hXs⟩ := text_of (decDigits n)
  have HX := Lib.hid hX
  have HXd := Lib.hid hXd
  have hX1 : X.size ≤ 10 := by omega
  obtain ⟨C, hC, hcat⟩ := nl_any X (by omega)
  have HC := Lib.hid hC
  clear h hn hok hX hXd hXs hC hlt hd
  go_enter Tryz.func36, Tryz.ntmps36
  go_wp2_with fail
  refine (HO.out _).mono ?_
  rintro e w1 ⟨rfl, rfl⟩
  go_wp2_with fail
  refine (HI.out _).mono ?_
  rintro e w2 ⟨rfl, hb2⟩
  rw [HX.out]
  have HB2 := Lib.hid hb2
  clear hb2
  go_wp2
  go_ret
  exact ⟨by rw [HTW.out, ← HXd.out, ← HC.out]; rfl, by rw [HTW.out]; exact (d_below HDB.out HB2.out).1, grownB HB2.out⟩
set_option maxRecDepth 100000 in
set_option maxHeartbeats 1000000 in
theorem twoCobs (s : St) (hok : s.Ok) (g : Nat) (nm t : ByteArray) (w : World) (h : DB w g s) (ht : t.size ≤ 40) (hn : nm.data.toList = wCobs) :
    Calls Tryz.prog 36 #[.pointer (some ⟨g, 0, none⟩), .string nm, .string t] w (DPost w g (twoS s nm.data.toList t.data.toList)) := by
  have e0 : (nm.toList == [115, 101, 110, 100]) = false := by rw [tok_eq]; exact decide_eq_false (by rw [hn]; decide)
  have e1 : (nm.toList == [102, 101, 101, 100]) = false := by rw [tok_eq]; exact decide_eq_false (by rw [hn]; decide)
  have e2 : (nm.toList == [115, 104, 111, 114, 116]) = false := by rw [tok_eq]; exact decide_eq_false (by rw [hn]; decide)
  have e3 : (nm.toList == [108, 111, 110, 103]) = false := by rw [tok_eq]; exact decide_eq_false (by rw [hn]; decide)
  have e4 : (nm.toList == [99, 111, 98, 115]) = true := by rw [tok_eq]; exact decide_eq_true hn
  have HTW := Lib.hid (show twoS s nm.data.toList t.data.toList = (s, hexL (cob t.data.toList)) by unfold twoS; rw [hn, if_neg (by decide), if_neg (by decide), if_neg (by decide), if_neg (by decide), if_pos rfl])
  have HDB := Lib.hid h
  have hcl := cob_small (l := t.data.toList) (by rw [size_list]; omega)
  have hll := less_small (l := t.data.toList) (by rw [size_list]; omega)
  have HP := Lib.hid (fun u => l6Put_any t u (by omega))
  obtain ⟨T, hT, hTd, hTs⟩ := text_of (cob t.data.toList)
  have HT := Lib.hid hT
  have HTd := Lib.hid hTd
  have hT1 : T.size ≤ 1300 := by omega
  obtain ⟨X, hX, hXd, hXs⟩ := text_of (hexL T.data.toList)
  have hX1 : X.size ≤ 2600 := by rw [hXs, hexL_len, hTd]; omega
  have HX := Lib.hid hX
  have HXd := Lib.hid hXd
  obtain ⟨C, hC, hcat⟩ := nl_any X (by omega)
  have HC := Lib.hid hC
  clear h hn hok hT hTd hTs hX hXd hXs hC hcl hll
  go_enter Tryz.func36, Tryz.ntmps36
  go_wp2_with fail
  refine (HP.out _).mono ?_
  rintro e w1 ⟨rfl, hb1⟩
  rw [HT.out]
  have HB1 := Lib.hid hb1
  clear hb1
  go_wp2_with fail
  refine (l9Hex_any T _ (by omega)).mono ?_
  rintro e w2 ⟨rfl, hb2⟩
  rw [HX.out]
  have HB2 := Lib.hid (HB1.out.trans (hb2.mono HB1.out.size))
  clear hb2
  go_wp2
  go_ret
  exact ⟨by rw [HTW.out, ← HTd.out, ← HXd.out, ← HC.out]; rfl, by rw [HTW.out]; exact (d_below HDB.out HB2.out).1, grownB HB2.out⟩
set_option maxRecDepth 100000 in
set_option maxHeartbeats 1000000 in
theorem twoLess (s : St) (hok : s.Ok) (g : Nat) (nm t : ByteArray) (w : World) (h : DB w g s) (ht : t.size ≤ 40) (hn : nm.data.toList = wLess) :
    Calls Tryz.prog 36 #[.pointer (some ⟨g, 0, none⟩), .string nm, .string t] w (DPost w g (twoS s nm.data.toList t.data.toList)) := by
  have e0 : (nm.toList == [115, 101, 110, 100]) = false := by rw [tok_eq]; exact decide_eq_false (by rw [hn]; decide)
  have e1 : (nm.toList == [102, 101, 101, 100]) = false := by rw [tok_eq]; exact decide_eq_false (by rw [hn]; decide)
  have e2 : (nm.toList == [115, 104, 111, 114, 116]) = false := by rw [tok_eq]; exact decide_eq_false (by rw [hn]; decide)
  have e3 : (nm.toList == [108, 111, 110, 103]) = false := by rw [tok_eq]; exact decide_eq_false (by rw [hn]; decide)
  have e4 : (nm.toList == [99, 111, 98, 115]) = false := by rw [tok_eq]; exact decide_eq_false (by rw [hn]; decide)
  have e5 : (nm.toList == [108, 101, 115, 115]) = true := by rw [tok_eq]; exact decide_eq_true hn
  have HTW := Lib.hid (show twoS s nm.data.toList t.data.toList = (s, hexL (less t.data.toList)) by unfold twoS; rw [hn, if_neg (by decide), if_neg (by decide), if_neg (by decide), if_neg (by decide), if_neg (by decide), if_pos rfl])
  have HDB := Lib.hid h
  have hcl := cob_small (l := t.data.toList) (by rw [size_list]; omega)
  have hll := less_small (l := t.data.toList) (by rw [size_list]; omega)
  have HP := Lib.hid (fun u => l6Put_any t u (by omega))
  obtain ⟨T, hT, hTd, hTs⟩ := text_of (cob t.data.toList)
  have HT := Lib.hid hT
  have HTd := Lib.hid hTd
  have hT1 : T.size ≤ 1300 := by omega
  have HLS := Lib.hid (fun u => l6Less_any t.data.toList T u hTd (by rw [size_list]; omega))
  obtain ⟨S, hS, hSd, hSs⟩ := text_of (less t.data.toList)
  have HS := Lib.hid hS
  have HSd := Lib.hid hSd
  have hS1 : S.size ≤ 1300 := by omega
  obtain ⟨X, hX, hXd, hXs⟩ := text_of (hexL S.data.toList)
  have hX1 : X.size ≤ 2600 := by rw [hXs, hexL_len, hSd]; omega
  clear hS hSd hSs
  have HX := Lib.hid hX
  have HXd := Lib.hid hXd
  obtain ⟨C, hC, hcat⟩ := nl_any X (by omega)
  have HC := Lib.hid hC
  clear h hn hok hT hTd hTs hX hXd hXs hC hcl hll
  go_enter Tryz.func36, Tryz.ntmps36
  go_wp2_with fail
  refine (HP.out _).mono ?_
  rintro e w1 ⟨rfl, hb1⟩
  rw [HT.out]
  have HB1 := Lib.hid hb1
  clear hb1
  go_wp2_with fail
  refine (HLS.out _).mono ?_
  rintro e w3 ⟨rfl, hb3⟩
  rw [HS.out]
  have HB1 := Lib.hid (HB1.out.trans (hb3.mono HB1.out.size))
  clear hb3
  go_wp2_with fail
  refine (l9Hex_any S _ (by omega)).mono ?_
  rintro e w2 ⟨rfl, hb2⟩
  rw [HX.out]
  have HB2 := Lib.hid (HB1.out.trans (hb2.mono HB1.out.size))
  clear hb2
  go_wp2
  go_ret
  exact ⟨by rw [HTW.out, ← HSd.out, ← HXd.out, ← HC.out]; rfl, by rw [HTW.out]; exact (d_below HDB.out HB2.out).1, grownB HB2.out⟩
set_option maxRecDepth 100000 in
set_option maxHeartbeats 1000000 in
theorem twoBits (s : St) (hok : s.Ok) (g : Nat) (nm t : ByteArray) (w : World) (h : DB w g s) (ht : t.size ≤ 40) (hn : nm.data.toList = wBits) :
    Calls Tryz.prog 36 #[.pointer (some ⟨g, 0, none⟩), .string nm, .string t] w (DPost w g (twoS s nm.data.toList t.data.toList)) := by
  have e0 : (nm.toList == [115, 101, 110, 100]) = false := by rw [tok_eq]; exact decide_eq_false (by rw [hn]; decide)
  have e1 : (nm.toList == [102, 101, 101, 100]) = false := by rw [tok_eq]; exact decide_eq_false (by rw [hn]; decide)
  have e2 : (nm.toList == [115, 104, 111, 114, 116]) = false := by rw [tok_eq]; exact decide_eq_false (by rw [hn]; decide)
  have e3 : (nm.toList == [108, 111, 110, 103]) = false := by rw [tok_eq]; exact decide_eq_false (by rw [hn]; decide)
  have e4 : (nm.toList == [99, 111, 98, 115]) = false := by rw [tok_eq]; exact decide_eq_false (by rw [hn]; decide)
  have e5 : (nm.toList == [108, 101, 115, 115]) = false := by rw [tok_eq]; exact decide_eq_false (by rw [hn]; decide)
  have e6 : (nm.toList == [98, 105, 116, 115]) = true := by rw [tok_eq]; exact decide_eq_true hn
  have HTW := Lib.hid (show twoS s nm.data.toList t.data.toList = (s, bitsS t.data.toList) by unfold twoS; rw [hn, if_neg (by decide), if_neg (by decide), if_neg (by decide), if_neg (by decide), if_neg (by decide), if_neg (by decide), if_pos rfl])
  have HDB := Lib.hid h
  by_cases hbig : 24 < t.size
  · have HE := Lib.hid (show bitsS t.data.toList = aNo from if_neg (by rw [size_list]; omega))
    clear h hn hok
    go_enter Tryz.func36, Tryz.ntmps36
    go_wp2
    go_ret
    exact ⟨by rw [HTW.out, HE.out]; rfl, by rw [HTW.out]; exact HDB.out, grownB (Below.refl _ _)⟩
  · have HE := Lib.hid (show bitsS t.data.toList = framesL 2 [t.data.toList] from if_pos (by rw [size_list]; omega))
    have hfl := framesL_len 2 rfl [t] (by simp [roomB]; omega)
    rw [show bitsL [t] = [t.data.toList] from rfl] at hfl
    have HP := Lib.hid (fun (u : World) (v : Value) (B : Nat) (hh : RS u B v [t]) (hB : B ≤ u.heap.size) => l4Put_any 2 v [t] u B hh hB rfl (by simp) (by simp [roomB]; omega))
    obtain ⟨X, hX, hXd, hXs⟩ := text_of (framesL 2 [t.data.toList])
    have HX := Lib.hid (show (⟨(framesL 2 (bitsL [t])).toArray⟩ : ByteArray) = X from hX)
    have HXd := Lib.hid hXd
    have hX1 : X.size ≤ 2600 := by rw [hXs]; simp at hfl; omega
    obtain ⟨C, hC, hcat⟩ := nl_any X (by omega)
    have HC := Lib.hid hC
    clear h hn hok hX hXd hXs hC hfl
    go_enter Tryz.func36, Tryz.ntmps36
    go_wp2_with fail
    refine (HP.out _ _ _ (RS_one w t) (by simp)).mono ?_
    rintro e w1 ⟨rfl, hb1⟩
    rw [HX.out]
    have HB1 := Lib.hid (alloc_below hb1)
    clear hb1
    go_wp2
    go_ret
    exact ⟨by rw [HTW.out, HE.out, ← HXd.out, ← HC.out]; rfl, by rw [HTW.out]; exact (d_below HDB.out HB1.out).1, grownB HB1.out⟩
set_option maxRecDepth 100000 in
theorem dtwo_any (s : St) (hok : s.Ok) (g : Nat) (nm t : ByteArray) (w : World) (h : DB w g s) (ht : t.size ≤ 40) :
    Calls Tryz.prog 36 #[.pointer (some ⟨g, 0, none⟩), .string nm, .string t] w (DPost w g (twoS s nm.data.toList t.data.toList)) := by
  by_cases hSend : nm.data.toList = wSend
  · exact twoSend s hok g nm t w h ht hSend
  by_cases hFeed : nm.data.toList = wFeed
  · exact twoFeed s hok g nm t w h ht hFeed
  by_cases hShort : nm.data.toList = wShort
  · exact twoShort s hok g nm t w h ht hShort
  by_cases hLong : nm.data.toList = wLong
  · exact twoLong s hok g nm t w h ht hLong
  by_cases hCobs : nm.data.toList = wCobs
  · exact twoCobs s hok g nm t w h ht hCobs
  by_cases hLess : nm.data.toList = wLess
  · exact twoLess s hok g nm t w h ht hLess
  by_cases hBits : nm.data.toList = wBits
  · exact twoBits s hok g nm t w h ht hBits
  have e0 : (nm.toList == [115, 101, 110, 100]) = false := by rw [tok_eq]; exact decide_eq_false hSend
  have e1 : (nm.toList == [102, 101, 101, 100]) = false := by rw [tok_eq]; exact decide_eq_false hFeed
  have e2 : (nm.toList == [115, 104, 111, 114, 116]) = false := by rw [tok_eq]; exact decide_eq_false hShort
  have e3 : (nm.toList == [108, 111, 110, 103]) = false := by rw [tok_eq]; exact decide_eq_false hLong
  have e4 : (nm.toList == [99, 111, 98, 115]) = false := by rw [tok_eq]; exact decide_eq_false hCobs
  have e5 : (nm.toList == [108, 101, 115, 115]) = false := by rw [tok_eq]; exact decide_eq_false hLess
  have e6 : (nm.toList == [98, 105, 116, 115]) = false := by rw [tok_eq]; exact decide_eq_false hBits
  have HTW := Lib.hid (show twoS s nm.data.toList t.data.toList = (s, aWhat) by unfold twoS; rw [if_neg hSend, if_neg hFeed, if_neg hShort, if_neg hLong, if_neg hCobs, if_neg hLess, if_neg hBits])
  have HDB := Lib.hid h
  clear h hok hSend hFeed hShort hLong hCobs hLess hBits
  go_enter Tryz.func36, Tryz.ntmps36
  go_wp2
  go_ret
  exact ⟨by rw [HTW.out]; rfl, by rw [HTW.out]; exact HDB.out, grownB (Below.refl _ _)⟩
end Go.Proofs.YtcegpcggdcgjbaaGreatDoor
