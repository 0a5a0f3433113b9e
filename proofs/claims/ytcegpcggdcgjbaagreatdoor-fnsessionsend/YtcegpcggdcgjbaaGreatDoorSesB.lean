/- A session in the program: 'send', 'feed'. -/
import Derived.Test.YtcegpcggdcgjbaaGreatDoorSesA
import Derived.Test.YtcegpcggdcgjbaaGreatDoorFEvK
import Derived.Test.YtcegpcggdcgjbaaGreatDoorKitFindE
import Derived.Test.YtcegpcggdcgjbaaGreatDoorHdlcQ
import Derived.Test.YtcegpcggdcgjbaaGreatDoorHexD
namespace Go.Proofs.YtcegpcggdcgjbaaGreatDoor
open Go.ChangeShapes Go.WideShapes Go.ChangeAt Go.RowKit
set_option linter.unusedVariables false
theorem St.Ok.wf {s : St} (h : s.Ok) : (Lit.int .i64 s.cf.codec).wf = true := by
  rcases h with rfl | h
  · decide
  · have h1 := (confB_yes (okF_yes h).1).1
    simp [Lit.wf, IntKind.min, IntKind.max, IntKind.signed, IntKind.bits]
    omega
theorem nonempty_isEmpty {T : ByteArray} (h : 0 < T.size) : T.toList.isEmpty = false := by
  rw [Lib.toList_data]
  cases hl : T.data.toList with
  | nil => have := size_list T; rw [hl] at this; simp at this; omega
  | cons x l => rfl
theorem sendL_size {c : Cf} {l : List UInt8} (h : sendOk c l = true) : 1 ≤ (sendL c l).length ∧ (sendL c l).length ≤ 200 := by
  simp only [sendOk, Bool.and_eq_true, decide_eq_true_eq] at h
  obtain ⟨_, h2, h3, _⟩ := confB_yes h.1
  have h4 := kind_or h2
  have h5 := putL_len c.sum l
  have h6 := writeL_len c (putL c.sum l) (by omega)
  rw [sendL, List.length_append]
  simp only [List.length_cons, List.length_nil]
  omega
theorem BK.nb {w w' : World} {b g : Nat} {cs : Array Value} {t : TypeId} (h : BK w g cs t) (ht : t ≠ 5) (hg : g ≠ b) (hn : NB b w w') : BK w' g cs t :=
  (hn.2 g h.lt hg (fun cs' fz e => by
    unfold BK at h
    rw [h] at e
    injection e with e
    injection e with _ e2 _
    exact ht e2)).trans h
theorem ffeed_kind (c : Cf) (l : List UInt8) : ∀ (f : Fd), ∀ e ∈ (ffeed c f l).2, 1 ≤ e.kind ∧ e.kind ≤ 6 := by
  induction l with
  | nil => intro f e he; simp [ffeed] at he
  | cons b l ih =>
    intro f e he
    rw [ffeed_cons] at he
    simp only [List.mem_append] at he
    rcases he with he | he
    · cases hs : (fstep c f b).2 with
      | none => rw [hs] at he; simp at he
      | some x =>
        rw [hs] at he
        simp at he
        subst he
        exact fstep_kind hs
    · exact ih _ e he
theorem evsB_take {es : List Ev} {k : Nat} (h : k < es.length) : evsB (es.take (k + 1)) = evsB (es.take k) ++ evB es[k] := by
  unfold evsB
  rw [List.take_succ_eq_append_getElem h, List.flatMap_append]
  simp
set_option maxRecDepth 100000 in
set_option maxHeartbeats 1000000 in
theorem send_any (s : St) (hok : s.Ok) (g : Nat) (t : ByteArray) (w : World) (h : SB w g s) (ht : t.size ≤ 1048576) :
    Calls Tryz.prog 45 #[.pointer (some ⟨g, 0, none⟩), .string t] w (AnsPost w g (s, sendS s t.data.toList)) := by
  have HFS := Lib.hid (fun W => implFindSend_any s.cf.codec s.cf.sum s.cf.most s.cf.map t W hok.wf (by unfold maxLen; omega))
  have HSB := Lib.hid h
  obtain ⟨s0, s1, s2, s3, s4, s5⟩ := SB.cells h
  clear h
  cases hso : sendOk s.cf t.data.toList with
  | false =>
    have HT := Lib.hid (show sendA s.cf t.data.toList = [] by unfold sendA; rw [hso, if_neg Bool.false_ne_true])
    have HE := Lib.hid (show sendS s t.data.toList = aNo by unfold sendS; rw [hso, if_neg Bool.false_ne_true])
    clear hso hok
    go_enter Tryz.func45, Tryz.ntmps45
    go_wp2_with fail
    refine (HFS.out _).mono ?_
    rintro e w1 ⟨rfl, hb1⟩
    have HB := Lib.hid hb1
    rw [show (⟨s.cf.codec, s.cf.sum, s.cf.most, s.cf.map⟩ : Cf) = s.cf from rfl, HT.out]
    clear hb1
    go_wp2
    go_ret
    exact ⟨by rw [HE.out]; rfl, (ans_below HSB.out HB.out).1, (ans_below HSB.out HB.out).2⟩
  | true =>
    have hsz := sendL_size hso
    have HE := Lib.hid (show sendS s t.data.toList = hexL (sendL s.cf t.data.toList) by unfold sendS; rw [hso, if_pos rfl])
    obtain ⟨T, hT⟩ : ∃ T : ByteArray, T = ⟨(sendA s.cf t.data.toList).toArray⟩ := ⟨_, rfl⟩
    have HTd := Lib.hid (show T.data.toList = sendL s.cf t.data.toList by rw [hT]; unfold sendA; rw [hso, if_pos rfl])
    have hTs : 1 ≤ T.size ∧ T.size ≤ 200 := by rw [← size_list, HTd.out]; exact hsz
    have HTE := Lib.hid hT
    have hne := nonempty_isEmpty (T := T) (by omega)
    clear hso hok hsz hT
    go_enter Tryz.func45, Tryz.ntmps45
    go_wp2_with fail
    refine (HFS.out _).mono ?_
    rintro e w1 ⟨rfl, hb1⟩
    have HB := Lib.hid hb1
    rw [show (⟨s.cf.codec, s.cf.sum, s.cf.most, s.cf.map⟩ : Cf) = s.cf from rfl, ← HTE.out]
    clear hb1
    go_wp2_with fail
    refine (figuresOf_any T _ (by omega)).mono ?_
    rintro e w2 ⟨rfl, hb2⟩
    have HB2 := Lib.hid (HB.out.trans (hb2.mono HB.out.size))
    clear hb2
    go_wp2
    go_ret
    exact ⟨by rw [HE.out, ← HTd.out]; rfl, (ans_below HSB.out HB2.out).1, (ans_below HSB.out HB2.out).2⟩
set_option maxRecDepth 100000 in
set_option maxHeartbeats 2000000 in
theorem feed_any (s : St) (hok : s.Ok) (g : Nat) (hg : 7 ≤ g) (t : ByteArray) (w : World) (hw : SesIs w) (h : SB w g s) (ht : t.size ≤ 600) :
    Calls Tryz.prog 46 #[.pointer (some ⟨g, 0, none⟩), .string t] w (AnsPost w g (feedS s t.data.toList)) := by
  have HCO := Lib.hid (fun u => implConfOk_any s.cf.codec s.cf.sum s.cf.most s.cf.map u hok.wf)
  have HSB := Lib.hid h
  have hgw := h.lt
  obtain ⟨s0, s1, s2, s3, s4, s5⟩ := SB.cells h
  cases hc : confB s.cf with
  | false =>
    have HE := Lib.hid (show feedS s t.data.toList = (s, aNo) by unfold feedS; rw [hc, if_neg Bool.false_ne_true])
    have HC := Lib.hid (show confB ⟨s.cf.codec, s.cf.sum, s.cf.most, s.cf.map⟩ = false from hc)
    clear hc hok h
    go_enter Tryz.func46, Tryz.ntmps46
    go_wp2_with fail
    refine (HCO.out _).mono ?_
    rintro e w1 ⟨rfl, hb1⟩
    rw [HC.out]
    have HB := Lib.hid hb1
    clear hb1
    go_wp2
    go_ret
    exact ⟨by rw [HE.out]; rfl, by rw [HE.out]; exact (ans_below HSB.out HB.out).1, (ans_below HSB.out HB.out).2⟩
  | true =>
    have hokf := hok.find hc
    have HE := Lib.hid (show feedS s t.data.toList = (⟨s.cf, (ffeed s.cf s.fd t.data.toList).1⟩, evsB (ffeed s.cf s.fd t.data.toList).2) by unfold feedS; rw [hc, if_pos rfl])
    have HC := Lib.hid (show confB ⟨s.cf.codec, s.cf.sum, s.cf.most, s.cf.map⟩ = true from hc)
    have hhl := hok.held
    have hFF := fun W => implFindFeed_any s.cf.codec s.cf.sum s.cf.most s.cf.map ⟨s.fd.held.toArray⟩ s.fd.over t W hok.wf (by rw [← size_list]; show s.fd.held.length ≤ _; unfold maxLen; omega) (by unfold maxLen; omega)
    rw [show feedF ⟨s.cf.codec, s.cf.sum, s.cf.most, s.cf.map⟩ ⟨(⟨s.fd.held.toArray⟩ : ByteArray).data.toList, s.fd.over⟩ t.data.toList = ffeed s.cf s.fd t.data.toList from if_pos ⟨hokf, by rw [size_list]; exact ht⟩] at hFF
    have hfl := ffeed_len s.cf t.data.toList s.fd
    rw [size_list] at hfl
    have HKD := Lib.hid (ffeed_kind s.cf t.data.toList s.fd)
    generalize ffeed s.cf s.fd t.data.toList = p at *
    obtain ⟨⟨Hd, y⟩, evs⟩ := p
    obtain ⟨X, hX⟩ : ∃ X : ByteArray, X = ⟨Hd.toArray⟩ := ⟨_, rfl⟩
    have HXE := Lib.hid hX
    have HFR := Lib.hid (show ∀ W, Calls Tryz.prog 72 #[cfV s.cf.codec s.cf.sum s.cf.most s.cf.map, fdV ⟨s.fd.held.toArray⟩ s.fd.over, .string t] W (fun e w' => ∃ v, e = .returned (.tuple #[.agg #[.string X, .bool y], v]) ∧ OE w' W.heap.size v evs ∧ Below W.heap.size W w') from fun W => by rw [hX]; exact hFF W)
    have HSI := Lib.hid hw
    simp only at hfl HKD HE
    clear hc hok h hokf hFF hX hw
    go_enter Tryz.func46, Tryz.ntmps46
    go_wp2_with fail
    refine (HCO.out _).mono ?_
    rintro e w1 ⟨rfl, hb1⟩
    rw [HC.out]
    have HB1 := Lib.hid hb1
    have HSB1 := Lib.hid (BK.from HSB.out hb1)
    have HSX := Lib.hid (show ∀ wx : World, Below w1.drew.heap.size w1.drew wx → (wx.cell? ⟨g, 0, none⟩ = some (.int .i64 s.cf.codec) ∧ wx.cell? ⟨g, 1, none⟩ = some (.int .i64 s.cf.sum) ∧ wx.cell? ⟨g, 2, none⟩ = some (.int .i64 s.cf.most) ∧ wx.cell? ⟨g, 3, none⟩ = some (.int .i64 s.cf.map) ∧ wx.cell? ⟨g, 4, none⟩ = some (.string ⟨s.fd.held.toArray⟩) ∧ wx.cell? ⟨g, 5, none⟩ = some (.bool s.fd.over)) from fun wx hb => SB.cells (BK.from HSB1.out.drew hb))
    clear hb1 s0 s1 s2 s3 s4 s5 HCO HC
    have hz := zero_find
    go_wp2_with fail
    go_cut [5, 6] (fun s5 s6 wx => ∃ gq, s5 = .pointer (some ⟨gq, 0, none⟩) ∧ XAt w1.drew wx gq X y s6 evs)
    case first =>
      have hB := Below.refl w1.drew.heap.size w1.drew
      have hS := HSX.out _ hB
      refine wp_region_held_drew (S := (fun wx => wx.cell? ⟨g, 0, none⟩ = some (.int .i64 s.cf.codec) ∧ wx.cell? ⟨g, 1, none⟩ = some (.int .i64 s.cf.sum) ∧ wx.cell? ⟨g, 2, none⟩ = some (.int .i64 s.cf.most) ∧ wx.cell? ⟨g, 3, none⟩ = some (.int .i64 s.cf.map) ∧ wx.cell? ⟨g, 4, none⟩ = some (.string ⟨s.fd.held.toArray⟩) ∧ wx.cell? ⟨g, 5, none⟩ = some (.bool s.fd.over))) (by kernel_rfl) hS (fun hHeld => ?_)
      obtain ⟨wd, hwd⟩ : ∃ wd, wd = w1.drew := ⟨_, rfl⟩
      rw [← hwd] at hB hS ⊢
      rw [← hwd] at HSX
      have HWD := Lib.hid hwd
      clear hwd
      refine wpAnyH_take (i := 0) (v := ?_) rfl (by kernel_rfl) (by kernel_rfl) (by kernel_rfl) (fun _ _ _ h => h) (Or.inl ⟨by rfl, ?_⟩) (by assumption) ?_
      rotate_left
      · intro wq hSw
        (try dsimp only at hSw)
        (try simp only [List.getElem_toArray, List.getElem_cons_zero])
        go_simp
        (try with_reducible rfl)
      simp only [Act.put, List.getElem_toArray, List.getElem_cons_zero, List.setIfInBounds_toArray, List.set_cons_zero, List.set_cons_succ]
      refine wpAnyH_take (i := 1) (v := ?_) rfl (by kernel_rfl) (by kernel_rfl) (by kernel_rfl) (fun _ _ _ h => h) (Or.inl ⟨by rfl, ?_⟩) (by assumption) ?_
      rotate_left
      · intro wq hSw
        (try dsimp only at hSw)
        (try simp only [List.getElem_toArray, List.getElem_cons_succ, List.getElem_cons_zero])
        go_simp
        (try with_reducible rfl)
      simp only [Act.put, List.getElem_toArray, List.getElem_cons_succ, List.getElem_cons_zero, List.setIfInBounds_toArray, List.set_cons_zero, List.set_cons_succ]
      refine wpAnyH_take (i := 2) (v := ?_) rfl (by kernel_rfl) (by kernel_rfl) (by kernel_rfl) (fun _ _ _ h => h) (Or.inl ⟨by rfl, ?_⟩) (by assumption) ?_
      rotate_left
      · intro wq hSw
        (try dsimp only at hSw)
        (try simp only [List.getElem_toArray, List.getElem_cons_succ, List.getElem_cons_zero])
        go_simp
        (try with_reducible rfl)
      simp only [Act.put, List.getElem_toArray, List.getElem_cons_succ, List.getElem_cons_zero, List.setIfInBounds_toArray, List.set_cons_zero, List.set_cons_succ]
      refine wpAnyH_take (i := 3) (v := ?_) rfl (by kernel_rfl) (by kernel_rfl) (by kernel_rfl) (fun _ _ _ h => h) (Or.inl ⟨by rfl, ?_⟩) (by assumption) ?_
      rotate_left
      · intro wq hSw
        (try dsimp only at hSw)
        (try simp only [List.getElem_toArray, List.getElem_cons_succ, List.getElem_cons_zero])
        go_simp
        (try with_reducible rfl)
      simp only [Act.put, List.getElem_toArray, List.getElem_cons_succ, List.getElem_cons_zero, List.setIfInBounds_toArray, List.set_cons_zero, List.set_cons_succ]
      refine wpAnyH_take (i := 4) (v := ?_) rfl (by kernel_rfl) (by kernel_rfl) (by kernel_rfl) (fun _ _ _ h => h) (Or.inl ⟨by rfl, ?_⟩) (by assumption) ?_
      rotate_left
      · intro wq hSw
        (try dsimp only at hSw)
        (try simp only [List.getElem_toArray, List.getElem_cons_succ, List.getElem_cons_zero])
        go_simp
        (try with_reducible rfl)
      simp only [Act.put, List.getElem_toArray, List.getElem_cons_succ, List.getElem_cons_zero, List.setIfInBounds_toArray, List.set_cons_zero, List.set_cons_succ]
      refine wpAnyH_take (i := 5) (v := ?_) rfl (by kernel_rfl) (by kernel_rfl) (by kernel_rfl) (fun _ _ _ h => h) (Or.inl ⟨by rfl, ?_⟩) (by assumption) ?_
      rotate_left
      · intro wq hSw
        (try dsimp only at hSw)
        (try simp only [List.getElem_toArray, List.getElem_cons_succ, List.getElem_cons_zero])
        go_simp
        (try with_reducible rfl)
      simp only [Act.put, List.getElem_toArray, List.getElem_cons_succ, List.getElem_cons_zero, List.setIfInBounds_toArray, List.set_cons_zero, List.set_cons_succ]
      refine wpAnyH_take (i := 6) (v := ?_) rfl (by kernel_rfl) (by kernel_rfl) (by kernel_rfl) (fun _ _ _ h => h) (Or.inl ⟨by rfl, ?_⟩) (by assumption) ?_
      rotate_left
      · intro wq hSw
        (try dsimp only at hSw)
        (try simp only [List.getElem_toArray, List.getElem_cons_succ, List.getElem_cons_zero])
        go_simp
        (try with_reducible rfl)
      simp only [Act.put, List.getElem_toArray, List.getElem_cons_succ, List.getElem_cons_zero, List.setIfInBounds_toArray, List.set_cons_zero, List.set_cons_succ]
      refine wpAnyH_take (i := 7) (v := ?_) rfl (by kernel_rfl) (by kernel_rfl) (by kernel_rfl) (fun _ _ _ h => h) (Or.inl ⟨by rfl, ?_⟩) (by assumption) ?_
      rotate_left
      · intro wq hSw
        (try dsimp only at hSw)
        (try simp only [List.getElem_toArray, List.getElem_cons_succ, List.getElem_cons_zero])
        go_simp
        (try with_reducible rfl)
      simp only [Act.put, List.getElem_toArray, List.getElem_cons_succ, List.getElem_cons_zero, List.setIfInBounds_toArray, List.set_cons_zero, List.set_cons_succ]
      refine wpAnyH_take (i := 8) (v := ?_) rfl (by kernel_rfl) (by kernel_rfl) (by kernel_rfl) (fun _ _ _ h => h) (Or.inl ⟨by rfl, ?_⟩) (by assumption) ?_
      rotate_left
      · intro wq hSw
        (try dsimp only at hSw)
        (try simp only [List.getElem_toArray, List.getElem_cons_succ, List.getElem_cons_zero])
        go_simp
        (try with_reducible rfl)
      simp only [Act.put, List.getElem_toArray, List.getElem_cons_succ, List.getElem_cons_zero, List.setIfInBounds_toArray, List.set_cons_zero, List.set_cons_succ]
      have hBa := hB.alloc hB.size (.cells #[.string ⟨#[]⟩, .bool false] 37)
      have hSa := HSX.out _ hBa
      refine wpAnyH_ready (rs := [9, 13]) (by kernel_rfl) (by simp) ?_
      refine AllReadyH.cons rfl ?_ (AllReadyH.cons rfl ?_ AllReadyH.nil)
      · intro K hK
        (try simp only [List.getElem_toArray, List.getElem_cons_succ, List.getElem_cons_zero])
        go_simp
        go_at_call 72
        refine (HFR.out _).mono ?_
        rintro e w4 ⟨ve, rfl, hoe, hb4⟩
        have hB := hB.trans hb4
        have hS := HSX.out _ hB
        refine hK.out _ _ hS (fun hHeld => ?_)
        clear hK K
        refine wpAnyH_take (i := 10) (v := ?_) rfl (by kernel_rfl) (by kernel_rfl) (by kernel_rfl) (fun _ _ _ h => h) (Or.inl ⟨by rfl, ?_⟩) (by assumption) ?_
        rotate_left
        · intro wq hSw
          (try dsimp only at hSw)
          (try simp only [List.getElem_toArray, List.getElem_cons_succ, List.getElem_cons_zero])
          go_simp
          (try with_reducible rfl)
        simp only [Act.put, List.getElem_toArray, List.getElem_cons_succ, List.getElem_cons_zero, List.setIfInBounds_toArray, List.set_cons_zero, List.set_cons_succ]
        refine wpAnyH_take (i := 11) (v := ?_) rfl (by kernel_rfl) (by kernel_rfl) (by kernel_rfl) (fun _ _ _ h => h) (Or.inl ⟨by rfl, ?_⟩) (by assumption) ?_
        rotate_left
        · intro wq hSw
          (try dsimp only at hSw)
          (try simp only [List.getElem_toArray, List.getElem_cons_succ, List.getElem_cons_zero])
          go_simp
          (try with_reducible rfl)
        simp only [Act.put, List.getElem_toArray, List.getElem_cons_succ, List.getElem_cons_zero, List.setIfInBounds_toArray, List.set_cons_zero, List.set_cons_succ]
        refine wpAnyH_take (i := 12) (v := ?_) rfl (by kernel_rfl) (by kernel_rfl) (by kernel_rfl) (fun _ _ _ h => h) (Or.inl ⟨by rfl, ?_⟩) (by assumption) ?_
        rotate_left
        · intro wq hSw
          (try dsimp only at hSw)
          (try simp only [List.getElem_toArray, List.getElem_cons_succ, List.getElem_cons_zero])
          go_simp
          (try with_reducible rfl)
        simp only [Act.put, List.getElem_toArray, List.getElem_cons_succ, List.getElem_cons_zero, List.setIfInBounds_toArray, List.set_cons_zero, List.set_cons_succ]
        have hS := HSX.out _ (hB.alloc hB.size (.cells #[.string ⟨#[]⟩, .bool false] 37))
        refine wpAnyH_ready (rs := [13]) (by kernel_rfl) (by simp) ?_
        refine AllReadyH.cons rfl (fun K hK => ?_) AllReadyH.nil
        (try simp only [List.getElem_toArray, List.getElem_cons_succ, List.getElem_cons_zero])
        skip
        go_simp
        skip
        refine hK.out _ _ hS (fun hHeld => ?_)
        clear hK K
        have hS := HSX.out _ (hB.alloc hB.size (.cells #[.string X, .bool y] 37))
        have hXA := x_last hb4 hoe.reads X y
        refine wpAnyH_ready (rs := [14]) (by kernel_rfl) (by simp) ?_
        refine AllReadyH.cons rfl (fun K hK => ?_) AllReadyH.nil
        (try simp only [List.getElem_toArray, List.getElem_cons_succ, List.getElem_cons_zero])
        skip
        go_simp
        skip
        refine hK.out _ _ hS (fun hHeld => ?_)
        clear hK K
        refine wpAnyH_take (i := 15) (v := ?_) rfl (by kernel_rfl) (by kernel_rfl) (by kernel_rfl) (fun _ _ _ h => h) (Or.inl ⟨by rfl, ?_⟩) (by assumption) ?_
        rotate_left
        · intro wq hSw
          (try dsimp only at hSw)
          (try simp only [List.getElem_toArray, List.getElem_cons_succ, List.getElem_cons_zero])
          go_simp
          (try with_reducible rfl)
        simp only [Act.put, List.getElem_toArray, List.getElem_cons_succ, List.getElem_cons_zero, List.setIfInBounds_toArray, List.set_cons_zero, List.set_cons_succ]
        refine wpAnyH_done (by kernel_rfl) ?_ _
        go_wp2
        go_meet
        exact ⟨_, rfl, by rw [← HWD.out]; exact hXA⟩
      · intro K hK
        (try simp only [List.getElem_toArray, List.getElem_cons_succ, List.getElem_cons_zero])
        go_simp
        refine hK.out _ _ hSa (fun hHeld => ?_)
        clear hK K
        have hS := hSa
        refine wpAnyH_ready (rs := [9]) (by kernel_rfl) (by simp) ?_
        refine AllReadyH.cons rfl (fun K hK => ?_) AllReadyH.nil
        (try simp only [List.getElem_toArray, List.getElem_cons_succ, List.getElem_cons_zero])
        go_simp
        go_at_call 72
        refine (HFR.out _).mono ?_
        rintro e w4 ⟨ve, rfl, hoe, hb4⟩
        have hB := hBa.trans (hb4.mono hBa.size)
        have hS := HSX.out _ hB
        refine hK.out _ _ hS (fun hHeld => ?_)
        clear hK K
        refine wpAnyH_take (i := 10) (v := ?_) rfl (by kernel_rfl) (by kernel_rfl) (by kernel_rfl) (fun _ _ _ h => h) (Or.inl ⟨by rfl, ?_⟩) (by assumption) ?_
        rotate_left
        · intro wq hSw
          (try dsimp only at hSw)
          (try simp only [List.getElem_toArray, List.getElem_cons_succ, List.getElem_cons_zero])
          go_simp
          (try with_reducible rfl)
        simp only [Act.put, List.getElem_toArray, List.getElem_cons_succ, List.getElem_cons_zero, List.setIfInBounds_toArray, List.set_cons_zero, List.set_cons_succ]
        refine wpAnyH_take (i := 11) (v := ?_) rfl (by kernel_rfl) (by kernel_rfl) (by kernel_rfl) (fun _ _ _ h => h) (Or.inl ⟨by rfl, ?_⟩) (by assumption) ?_
        rotate_left
        · intro wq hSw
          (try dsimp only at hSw)
          (try simp only [List.getElem_toArray, List.getElem_cons_succ, List.getElem_cons_zero])
          go_simp
          (try with_reducible rfl)
        simp only [Act.put, List.getElem_toArray, List.getElem_cons_succ, List.getElem_cons_zero, List.setIfInBounds_toArray, List.set_cons_zero, List.set_cons_succ]
        refine wpAnyH_take (i := 12) (v := ?_) rfl (by kernel_rfl) (by kernel_rfl) (by kernel_rfl) (fun _ _ _ h => h) (Or.inl ⟨by rfl, ?_⟩) (by assumption) ?_
        rotate_left
        · intro wq hSw
          (try dsimp only at hSw)
          (try simp only [List.getElem_toArray, List.getElem_cons_succ, List.getElem_cons_zero])
          go_simp
          (try with_reducible rfl)
        simp only [Act.put, List.getElem_toArray, List.getElem_cons_succ, List.getElem_cons_zero, List.setIfInBounds_toArray, List.set_cons_zero, List.set_cons_succ]
        have hkq := (BK.new wd #[.string ⟨#[]⟩, .bool false] 37).from hb4
        obtain ⟨q0, q1⟩ : _ ∧ _ := ⟨hkq.cell (i := 0) rfl, hkq.cell (i := 1) rfl⟩
        have qf0 := hkq.free 0
        have qf1 := hkq.free 1
        have hXA := x_ahead hb4 hoe.reads X y
        have hS := HSX.out _ hXA.2.2.2
        refine wpAnyH_ready (rs := [14]) (by kernel_rfl) (by simp) ?_
        refine AllReadyH.cons rfl (fun K hK => ?_) AllReadyH.nil
        (try simp only [List.getElem_toArray, List.getElem_cons_succ, List.getElem_cons_zero])
        skip
        go_simp
        skip
        refine hK.out _ _ hS (fun hHeld => ?_)
        clear hK K
        refine wpAnyH_take (i := 15) (v := ?_) rfl (by kernel_rfl) (by kernel_rfl) (by kernel_rfl) (fun _ _ _ h => h) (Or.inl ⟨by rfl, ?_⟩) (by assumption) ?_
        rotate_left
        · intro wq hSw
          (try dsimp only at hSw)
          (try simp only [List.getElem_toArray, List.getElem_cons_succ, List.getElem_cons_zero])
          go_simp
          (try with_reducible rfl)
        simp only [Act.put, List.getElem_toArray, List.getElem_cons_succ, List.getElem_cons_zero, List.setIfInBounds_toArray, List.set_cons_zero, List.set_cons_succ]
        refine wpAnyH_done (by kernel_rfl) ?_ _
        go_wp2
        go_meet
        exact ⟨_, rfl, by rw [← HWD.out]; exact hXA⟩
    case rest =>
      obtain ⟨gq, rfl, hbk, hgg, hre, hbl⟩ := hcut
      obtain ⟨A6, C6, hsh⟩ := hre.shape
      subst hsh
      have hsb := HSB1.out.drew
      have hszc : w1.heap.size ≤ wc.heap.size := hbl.size
      have hg1 : g < w1.heap.size := hsb.lt
      have hbc := BK.from hsb hbl
      obtain ⟨s0, s1, s2, s3, s4, s5⟩ := SB.cells hbc
      have f4 := hbc.free 4
      have f5 := hbc.free 5
      obtain ⟨q0, q1⟩ : _ ∧ _ := ⟨hbk.cell (i := 0) rfl, hbk.cell (i := 1) rfl⟩
      obtain ⟨w6, hw6⟩ : ∃ w6, w6 = (wc.setCell ⟨g, 4, none⟩ (.string X)).setCell ⟨g, 5, none⟩ (.bool y) := ⟨_, rfl⟩
      have HW6 := Lib.hid hw6
      have hs6 : w6.heap.size = wc.heap.size := by rw [hw6]; simp
      have HS6 := Lib.hid hs6
      have HSB6 := Lib.hid (show SB w6 g ⟨s.cf, ⟨Hd, y⟩⟩ by
        have := (hbc.set 4 (.string X)).set 5 (.bool y)
        rw [← hw6, HXE.out] at this
        exact this)
      have hgr6 : w.grownBy w6 (some g) := by
        rw [hw6]
        exact grownSet (grownSet (grownB (HB1.out.trans ((show Below w1.heap.size w1 wc from (Below.refl _ _).drew.trans hbl).mono HB1.out.size))) _) _
      have HGR6 := Lib.hid hgr6
      have HSI6 := Lib.hid (show SesIs w6 from HSI.out.grown hg hgr6)
      have HRE6 := Lib.hid (show RE w6 w1.drew.heap.size wc.heap.size (.slice A6 evs.length C6) evs by
        rw [hw6]
        exact (hre.setCell (p := ⟨g, 4, none⟩) hg1 (.string X)).setCell (p := ⟨g, 5, none⟩) hg1 (.bool y))
      have hbu := BU.fresh w6
      rw [hs6] at hbu
      have HBU := Lib.hid hbu
      have h7c : 7 ≤ wc.heap.size := by have := HSI6.out.size; omega
      have hzb := zero_builder
      clear hbk hgg hre hbl hsb hbc hw6 hs6 hgr6 hbu
      go_wp2_with fail
      rw [← HW6.out]
      clear s0 s1 s2 s3 s4 s5 q0 q1 f4 f5
      go_loopw [35] (fun i wr => ∃ k : Nat, k ≤ evs.length ∧ i = .int .i64 k ∧ BU wr wc.heap.size wc.heap.size (evsB (evs.take k)) ∧ Below wc.heap.size w6 wr) (fun i _ => evs.length - (intOf i).toNat)
      case atStart => exact ⟨0, Nat.zero_le _, rfl, HBU.out, (Below.refl _ _).alloc (Nat.le_of_eq HS6.out.symm) _⟩
      case round =>
        obtain ⟨k, hk, rfl, hbu, hb⟩ := hrel
        have HBk := Lib.hid hbu
        have HB := Lib.hid hb
        have hszr : wc.heap.size ≤ wr.heap.size := by have := hb.size; have := HS6.out; omega
        have hlt1 := evsB_len (evs.take k)
        have hlt2 : (evs.take k).length ≤ k := List.length_take_le _ _
        clear hbu hb
        by_cases hlt : k < evs.length
        · obtain ⟨gv, hgv, _, _, c10, c11⟩ := RE.at_ (HRE6.out.below HB.out) hlt
          subst hgv
          have HTK := Lib.hid (evsB_take hlt)
          obtain ⟨hk1, hk2⟩ := HKD.out evs[k] (List.getElem_mem hlt)
          obtain ⟨T, hT⟩ : ∃ T : ByteArray, T = ⟨evs[k].text.toArray⟩ := ⟨_, rfl⟩
          rw [← hT] at c11
          have HTd := Lib.hid (show evs[k].text = T.data.toList by rw [hT])
          obtain ⟨kn, hkn⟩ : ∃ kn : Nat, evs[k].kind = (kn : Int) := ⟨evs[k].kind.toNat, by omega⟩
          rw [hkn] at c10
          have HKN := Lib.hid hkn
          have HEV := Lib.hid (show evB evs[k] = evNm (kn : Int) ++ (if (kn : Int) = 1 then 32 :: putH T.data.toList else []) ++ [44] by unfold evB; rw [hkn, HTd.out])
          have hkb : 1 ≤ kn ∧ kn ≤ 6 := by omega
          obtain ⟨N, hN⟩ : ∃ N : ByteArray, N = ⟨(evNm (kn : Int)).toArray⟩ := ⟨_, rfl⟩
          have HN := Lib.hid (show evNm (kn : Int) = N.data.toList by rw [hN])
          have hNs : N.size ≤ 6 := by rw [hN]; have := evNm_len (kn : Int); simpa [ByteArray.size] using this
          have hSr := (HSI6.out.below h7c HB.out).alloc (.cells #[.int .i64 (kn : Int), .string T] 110)
          have n0 := hSr.2.at_ hkb
          rw [← hN] at n0
          have hE := BK.new wr #[.int .i64 (kn : Int), .string T] 110
          obtain ⟨i0, i1⟩ : _ ∧ _ := ⟨hE.cell (i := 0) rfl, hE.cell (i := 1) rfl⟩
          have hne : wr.heap.size ≠ wc.heap.size := by have := HBk.out.lt; omega
          have HE0 := Lib.hid hE
          have HB0 := Lib.hid (HB.out.alloc hszr (.cells #[.int .i64 (kn : Int), .string T] 110))
          have HBU0 := Lib.hid (HBk.out.from ((Below.refl wr.heap.size wr).alloc (Nat.le_refl _) (.cells #[.int .i64 (kn : Int), .string T] 110)))
          have hkn0 : (0 : Int) ≤ (kn : Int) := by omega
          have hkn7 : (kn : Int) < 7 := by omega
          clear hT hkn hN hSr hE hk1 hk2
          have hl0 : (evsB (evs.take k)).length ≤ 60000 := by omega
          generalize evsB (evs.take k) = L0 at *
          by_cases hk1 : kn = 1
          · have hb1 : ((kn : Int) == 1) = true := by rw [beq_iff_eq]; omega
            have HEV1 := Lib.hid (show evB evs[k] = N.data.toList ++ (32 :: putH T.data.toList) ++ [44] by rw [HEV.out, if_pos (by omega), HN.out])
            have hph := putH_len T.data.toList
            clear hk1
            go_wp2_with fail
            refine (writeString_any wc.heap.size wc.heap.size L0 N _ HBU0.out (by omega) (by simp; omega)).mono ?_
            rintro e w8 ⟨rfl, hbu8, hb8, hn8⟩
            have hE8 := HE0.out.nb (by decide) hne hn8
            obtain ⟨i0, i1⟩ : _ ∧ _ := ⟨hE8.cell (i := 0) rfl, hE8.cell (i := 1) rfl⟩
            have HBU8 := Lib.hid hbu8
            have HB8 := Lib.hid (HB0.out.trans hb8)
            have hs8 : wc.heap.size ≤ w8.heap.size := by have := hb8.size; simp at this; omega
            clear hbu8 hb8 hn8 hE8 n0 c10 c11
            go_wp2_with fail
            refine (implHexPut_any T _).mono ?_
            rintro e w9 ⟨rfl, hb9⟩
            have HB9 := Lib.hid (HB8.out.trans (hb9.mono hs8))
            have HBU9 := Lib.hid (HBU8.out.from hb9)
            have hs9 : wc.heap.size ≤ w9.heap.size := Nat.le_trans hs8 hb9.size
            obtain ⟨PX, hPX⟩ : ∃ PX : ByteArray, PX = ⟨#[32]⟩ ++ ⟨(putH T.data.toList).toArray⟩ := ⟨_, rfl⟩
            have HPX := Lib.hid (show PX.data.toList = 32 :: putH T.data.toList by rw [hPX]; simp)
            have hPs : PX.size ≤ 81 := by rw [← size_list, HPX.out, List.length_cons]; omega
            have hcat : ∀ u : World, (Op.stringOp .add ⟨#[32]⟩ ⟨(putH T.data.toList).toArray⟩).run Tryz.prog u = .ok (.string PX) u := fun u => by
              rw [hPX]
              exact run_string_add_sum u _ _ (by have : (⟨(putH T.data.toList).toArray⟩ : ByteArray).size = (putH T.data.toList).length := by simp [ByteArray.size]
                                                 rw [this]; show 1 + _ ≤ _; omega)
            clear hb9 hPX
            go_wp2_with fail
            refine (writeString_any wc.heap.size wc.heap.size (L0 ++ N.data.toList) PX _ HBU9.out (by rw [List.length_append, size_list]; omega) hs9).mono ?_
            rintro e w10 ⟨rfl, hbu10, hb10, _⟩
            have HB10 := Lib.hid (HB9.out.trans hb10)
            have HBU10 := Lib.hid hbu10
            have hs10 : wc.heap.size ≤ w10.heap.size := Nat.le_trans hs9 hb10.size
            clear hbu10 hb10
            go_wp2_with fail
            refine (writeByte_any wc.heap.size wc.heap.size (L0 ++ N.data.toList ++ PX.data.toList) 44 _ HBU10.out (by rw [List.length_append, List.length_append, size_list, size_list]; omega) hs10).mono ?_
            rintro e w11 ⟨rfl, hbu11, hb11, _⟩
            have HB11 := Lib.hid (HB10.out.trans hb11)
            have HBU11 := Lib.hid hbu11
            clear hbu11 hb11
            go_wp2
            go_roundw
            case rel =>
              refine ⟨k + 1, by omega, by go_num, ?_, HB11.out⟩
              have := HBU11.out
              rw [HPX.out] at this
              rw [HTK.out, HEV1.out]
              simpa [List.append_assoc] using this
            case measure => simp [intOf]; omega
          · have hb1 : ((kn : Int) == 1) = false := beq_eq_false_iff_ne.2 (by omega)
            have HEV1 := Lib.hid (show evB evs[k] = N.data.toList ++ [44] by rw [HEV.out, if_neg (by omega), HN.out, List.append_nil])
            clear hk1
            go_wp2_with fail
            refine (writeString_any wc.heap.size wc.heap.size L0 N _ HBU0.out (by omega) (by simp; omega)).mono ?_
            rintro e w8 ⟨rfl, hbu8, hb8, hn8⟩
            have hE8 := HE0.out.nb (by decide) hne hn8
            obtain ⟨i0, i1⟩ : _ ∧ _ := ⟨hE8.cell (i := 0) rfl, hE8.cell (i := 1) rfl⟩
            have HBU8 := Lib.hid hbu8
            have HB8 := Lib.hid (HB0.out.trans hb8)
            have hs8 : wc.heap.size ≤ w8.heap.size := by have := hb8.size; simp at this; omega
            clear hbu8 hb8 hn8 hE8 n0 c10 c11
            go_wp2_with fail
            refine (writeByte_any wc.heap.size wc.heap.size (L0 ++ N.data.toList) 44 _ HBU8.out (by rw [List.length_append, size_list]; omega) hs8).mono ?_
            rintro e w11 ⟨rfl, hbu11, hb11, _⟩
            have HB11 := Lib.hid (HB8.out.trans hb11)
            have HBU11 := Lib.hid hbu11
            clear hbu11 hb11
            go_wp2
            go_roundw
            case rel =>
              refine ⟨k + 1, by omega, by go_num, ?_, HB11.out⟩
              rw [HTK.out, HEV1.out]
              simpa [List.append_assoc] using HBU11.out
            case measure => simp [intOf]; omega
        · have HALL := Lib.hid (show evs.take k = evs from List.take_of_length_le (by omega))
          rw [HALL.out] at HBk hlt1 hlt2
          go_wp2_with fail
          refine (string_any wc.heap.size wc.heap.size (evsB evs) _ HBk.out (by omega)).mono ?_
          rintro e w8 ⟨rfl, hb8⟩
          have HB8 := Lib.hid (HB.out.trans hb8)
          clear hb8
          go_wp2
          go_ret
          have hb6 : Below w6.heap.size w6 w8 := by rw [HS6.out]; exact HB8.out
          exact ⟨by rw [HE.out]; rfl, by rw [HE.out]; exact BK.from HSB6.out hb6, grown_trans HGR6.out (grownB hb6)⟩
end Go.Proofs.YtcegpcggdcgjbaaGreatDoor
