/- FnFindFrame: what comes as a frame is not too long, and has a text just then. For every code (the law draws a configuration, a finder and bytes from it). No condition. -/
import Derived.Test.YtdnedoafgfpnfaaGreatFindL
import Derived.Test.YtdnedoafgfpnfaaGreatDrawFeedF
import Derived.Test.YtdnedoafgfpnfaaGreatKitFindG
namespace Go.Proofs.YtdnedoafgfpnfaaGreat.fnFindFrame
open Go.ChangeShapes Go.WideShapes Go.ChangeAt Go.RowKit
set_option linter.unusedVariables false
/-- and an event in a box -/
def LU (x1 W : World) (a b d m : Int) (H : ByteArray) (o : Bool) (g8 g10 B : Nat) (X : ByteArray) (y : Bool) (v9 v11 : Value) (evs : List Ev) (gE : Nat) (K1 : Int) (t : ByteArray) : Prop :=
  LT x1 W a b d m H o g8 g10 B X y v9 v11 evs ∧ BK W gE #[.int .i64 K1, .string t] 39
section
variable {x1 W W' : World} {a b d m K1 : Int} {H X t : ByteArray} {o y : Bool} {g8 g10 B gE : Nat} {v9 v11 : Value} {evs : List Ev}
theorem LU.from (h : LU x1 W a b d m H o g8 g10 B X y v9 v11 evs gE K1 t) (hb : Below W.heap.size W W') : LU x1 W' a b d m H o g8 g10 B X y v9 v11 evs gE K1 t := ⟨h.1.from hb, h.2.from hb⟩
theorem LU.alloc (h : LU x1 W a b d m H o g8 g10 B X y v9 v11 evs gE K1 t) (c : Obj) : LU x1 (W.alloc c) a b d m H o g8 g10 B X y v9 v11 evs gE K1 t := ⟨h.1.alloc c, h.2.alloc c⟩
theorem LU.drew (h : LU x1 W a b d m H o g8 g10 B X y v9 v11 evs gE K1 t) : LU x1 W.drew a b d m H o g8 g10 B X y v9 v11 evs gE K1 t := ⟨h.1.drew, h.2.drew⟩
theorem LU.flat (h : LU x1 W a b d m H o g8 g10 B X y v9 v11 evs gE K1 t) : (W.cell? ⟨x1.heap.size, 0, none⟩ = some (.int .i64 a) ∧ W.cell? ⟨x1.heap.size, 1, none⟩ = some (.int .i64 b) ∧ W.cell? ⟨x1.heap.size, 2, none⟩ = some (.int .i64 d) ∧ W.cell? ⟨x1.heap.size, 3, none⟩ = some (.int .i64 m)) ∧ (W.cell? ⟨gE, 0, none⟩ = some (.int .i64 K1) ∧ W.cell? ⟨gE, 1, none⟩ = some (.string t)) := ⟨h.1.1.1, h.2.cell rfl, h.2.cell rfl⟩
end
set_option maxRecDepth 100000 in
set_option maxHeartbeats 8000000 in
theorem walk (a0 : Option Addr) (len0 cap0 : Nat) (z0 : List Int) (w : World) (w0 : IsRow .u8 w a0 len0 cap0 z0) :
    Calls Tryz.prog 4 #[.slice a0 len0 cap0] w fun e w' => e = .returned (.bool true) ∧ Below w.heap.size w w' := by
  by_cases hbig : 1048576 < len0
  · go_enter Tryz.func4, Tryz.ntmps4
    go_wp2
    go_ret
    exact ⟨rfl, Below.refl _ _⟩
  have HH := Lib.hid w0
  have hz := zero_find
  have hzc := zero_conf
  clear w0
  go_enter Tryz.func4, Tryz.ntmps4
  go_wp2_with fail
  refine (drawFeed_any a0 len0 cap0 z0 HH.out).mono ?_
  rintro e x1 ⟨a, b, d, m, H, o, s, rfl, hsm, hHs, hs, hb1⟩
  have wa := wf_small hsm.1
  have hB0 := Bx.new x1 a b d m H o 24 26
  have HB1 := Lib.hid hb1
  have HB0 := Lib.hid hB0
  have hHm : H.size ≤ maxLen := by unfold maxLen; omega
  have hsx : s.size ≤ maxLen := by unfold maxLen; omega
  have hlen := feedF_len ⟨a, b, d, m⟩ ⟨H.data.toList, o⟩ s.data.toList
  have HIM := Lib.hid (fun W => implFindFeed_any a b d m H o s W wa hHm hsx)
  have HSP := Lib.hid (fun W => specFindFeed_any a b d m H o s W hHm hsx)
  have HO1 := Lib.hid (fun W => implFindOk_any a b d m H o W wa hHm)
  have HAF := Lib.hid (fun (hok : okF ⟨a, b, d, m⟩ ⟨H.data.toList, o⟩ = true) => feedF_after _ _ s.data.toList hok (by rw [size_list]; exact hs))
  have HGD := Lib.hid (feedF_good ⟨a, b, d, m⟩ ⟨H.data.toList, o⟩ s.data.toList)
  obtain ⟨p, hp⟩ : ∃ p, feedF ⟨a, b, d, m⟩ ⟨H.data.toList, o⟩ s.data.toList = p := ⟨_, rfl⟩
  rw [hp] at HIM HSP hlen HAF HGD
  obtain ⟨⟨Xl, y⟩, evs⟩ := p
  obtain ⟨X, rfl⟩ : ∃ X : ByteArray, X.data.toList = Xl := ⟨⟨Xl.toArray⟩, rfl⟩
  simp only at hlen
  clear hb1 hB0 hp
  go_wp2_with fail
  refine (HIM.out _).mono ?_
  rintro e x2 ⟨v9, rfl, hoe2, hb2⟩
  simp only [fdL, Lib.mk_data]
  have hbx2 := (HB0.out.next hb2).alloc (.cells #[.string X, .bool y] 26)
  have hk8 := BK.new x2 #[.string X, .bool y] 26
  have HOE2 := Lib.hid (hoe2.alloc' (.cells #[.string X, .bool y] 26))
  obtain ⟨⟨c0, c1, c2, c3⟩, e0, e1⟩ := hbx2.flat
  have HBX2 := Lib.hid hbx2
  have HK8 := Lib.hid hk8
  clear hb2 hoe2 hbx2 hk8 HB0
  go_wp2_with fail
  refine (HSP.out _).mono ?_
  rintro e x3 ⟨v11, rfl, hoe3, hb3⟩
  simp only [fdL, Lib.mk_data]
  have hL : LT x1 (x3.alloc (.cells #[.string X, .bool y] 26)) a b d m H o x2.heap.size x3.heap.size (x3.alloc (.cells #[.string X, .bool y] 26)).heap.size X y v9 v11 evs := by
    have hB3 := (HBX2.out.next hb3).alloc (.cells #[.string X, .bool y] 26)
    have hs3 := hb3.size
    refine ⟨⟨hB3.1, hB3.2.1, (HK8.out.from hb3).alloc _, BK.new _ _ _, ((HOE2.out.below hb3).alloc' _).reads.mono (Nat.zero_le _) (Nat.le_refl _), (hoe3.alloc' _).reads.mono (Nat.zero_le _) (Nat.le_refl _)⟩, hB3.2.2.1, hB3.2.2.2, ?_, by simp, Nat.le_refl _⟩
    simp at hs3 ⊢
    omega
  obtain ⟨⟨⟨c0, c1, c2, c3⟩, e0, e1⟩, ⟨f0, f1⟩, f2, f3⟩ := hL.flat
  have HL := Lib.hid hL
  generalize (x3.alloc (.cells #[.string X, .bool y] 26)).heap.size = B at HL
  obtain ⟨g8, hg8⟩ : ∃ g8, x2.heap.size = g8 := ⟨_, rfl⟩
  obtain ⟨g10, hg10⟩ : ∃ g10, x3.heap.size = g10 := ⟨_, rfl⟩
  rw [hg8] at HL f0 f1
  rw [hg10] at HL f2 f3
  have q1 := fd_neq X y
  have q2 := guard_fd
  have q3 := fd_eq 9998 X y
  have q4 := fd_eql X y
  clear hb3 hoe3 hL HBX2 HK8 HOE2
  obtain ⟨A9, cap9, hv9⟩ := HL.out.1.2.2.2.2.1.shape
  subst hv9
  by_cases hn0 : evs.length = 0
  · have hev : evs = [] := List.eq_nil_of_length_eq_zero hn0
    subst hev
    go_wp2_with fail
    refine (HL.out.ct hlen).mono ?_
    rintro e x4 ⟨rfl, hbx⟩
    have hL := HL.out.from hbx
    obtain ⟨⟨⟨c0, c1, c2, c3⟩, e0, e1⟩, ⟨f0, f1⟩, f2, f3⟩ := hL.flat
    have HL := Lib.hid hL
    clear hL hbx
    go_wp2_with fail
    refine (HL.out.ct hlen).mono ?_
    rintro e x6 ⟨rfl, hbx⟩
    have hL := HL.out.from hbx
    obtain ⟨⟨⟨c0, c1, c2, c3⟩, e0, e1⟩, ⟨f0, f1⟩, f2, f3⟩ := hL.flat
    have HL := Lib.hid hL
    clear hL hbx
    have HB := Lib.hid (HB1.out.trans (HL.out.below.mono HB1.out.size))
    clear HL
    go_wp2
    go_ret
    exact ⟨rfl, HB.out⟩
  have hnb : ((evs.length : Int) == 0) = false := beq_eq_false_iff_ne.2 (by omega)
  go_wp2_with fail
  refine (HL.out.ct hlen).mono ?_
  rintro e x4 ⟨rfl, hbx⟩
  have hL := HL.out.from hbx
  obtain ⟨⟨⟨c0, c1, c2, c3⟩, e0, e1⟩, ⟨f0, f1⟩, f2, f3⟩ := hL.flat
  have HL := Lib.hid hL
  clear hL hbx
  go_wp2_with fail
  go_loopw [10] (fun i wr => ∃ k : Nat, k ≤ evs.length ∧ i = .int .i64 k ∧ LT x1 wr a b d m H o g8 g10 B X y (.slice A9 evs.length cap9) v11 evs) (fun i _ => evs.length - (intOf i).toNat)
  case atStart => exact ⟨0, Nat.zero_le _, rfl, HL.out⟩
  case round =>
    obtain ⟨k, hk, rfl, hLr⟩ := hrel
    by_cases hlt : k < evs.length
    · obtain ⟨gv, hgv, _, _, c10, c11⟩ := RE.at_ hLr.1.2.2.2.2.1 hlt
      subst hgv
      obtain ⟨hgood, hcb⟩ := HGD.out evs[k] (List.getElem_mem hlt)
      obtain ⟨⟨hk1, hk2⟩, hkt, hkm⟩ := hgood
      obtain ⟨t, ht⟩ : ∃ t : ByteArray, t = ⟨evs[k].text.toArray⟩ := ⟨_, rfl⟩
      have htd : evs[k].text = t.data.toList := by rw [ht]
      rw [← ht] at c11
      rw [htd] at hkt hkm
      have hts : (t.size : Int) ≤ d := by rw [← size_list]; exact hkm
      have hd40 := (confB_yes hcb).2.2.1
      have HCB := Lib.hid hcb
      have hd40b : d ≤ 40 := hd40.2
      generalize evs[k].kind = K1 at *
      have hL : LU x1 (wr.alloc (.cells #[.int .i64 K1, .string t] 39)) a b d m H o g8 g10 B X y (.slice (some ⟨gv, 0, none⟩) evs.length cap9) v11 evs wr.heap.size K1 t := ⟨hLr.alloc _, BK.new _ _ _⟩
      obtain ⟨⟨i0, i1, i2, i3⟩, j0, j1⟩ := hL.flat
      have HL := Lib.hid hL
      clear hL hLr ht htd hkm hcb hd40 c0 c1 c2 c3 e0 e1 f0 f1 f2 f3
      by_cases hK : K1 = 1
      · subst hK
        have hso : sendOk ⟨a, b, d, m⟩ t.data.toList = true := by
          simp only [sendOk, HCB.out, Bool.true_and, decide_eq_true_eq, size_list]
          exact hts
        have HFS := Lib.hid (fun W => implFindSend_any a b d m t W wa (by unfold maxLen; omega))
        obtain ⟨T, hT⟩ : ∃ T : ByteArray, (⟨(sendA ⟨a, b, d, m⟩ t.data.toList).toArray⟩ : ByteArray) = T := ⟨_, rfl⟩
        rw [hT] at HFS
        have hTl : T.data.toList = sendL ⟨a, b, d, m⟩ t.data.toList := by rw [← hT]; exact sendA_yes hso
        have hlen2 := sendL_len hso
        rw [← hTl, size_list] at hlen2
        have HFA := Lib.hid (fun W => implFindAll_any a b d m T W wa (by unfold maxLen; omega))
        have HEV := Lib.hid (show evsOf [t] = allF ⟨a, b, d, m⟩ T.data.toList by
          unfold allF
          rw [if_pos ⟨HCB.out, by rw [size_list]; omega⟩, hTl, send_all hso]
          rfl)
        clear hT hTl hso hlen2
        go_wp2_with fail
        have hL := HL.out.drew
        have hS := hL.flat
        obtain ⟨W, hW⟩ : ∃ W, wr.alloc (.cells #[.int .i64 1, .string t] 39) = W := ⟨_, rfl⟩
        rw [hW] at hL hS ⊢
        refine wp_region_held_drew (S := (fun wx => (wx.cell? ⟨x1.heap.size, 0, none⟩ = some (.int .i64 a) ∧ wx.cell? ⟨x1.heap.size, 1, none⟩ = some (.int .i64 b) ∧ wx.cell? ⟨x1.heap.size, 2, none⟩ = some (.int .i64 d) ∧ wx.cell? ⟨x1.heap.size, 3, none⟩ = some (.int .i64 m)) ∧ (wx.cell? ⟨wr.heap.size, 0, none⟩ = some (.int .i64 1) ∧ wx.cell? ⟨wr.heap.size, 1, none⟩ = some (.string t)))) (by kernel_rfl) hS (fun hHeld => ?_)
        refine wpAnyH_take (i := 0) (v := ?_) rfl (by kernel_rfl) (by kernel_rfl) (by kernel_rfl) (fun _ _ _ h => h) (Or.inl ⟨by rfl, ?_⟩) (by assumption) ?_
        rotate_left
        · intro wq hSw
          (try dsimp only at hSw)
          (try simp only [List.getElem_toArray, List.getElem_cons_zero])
          go_simp
          (try with_reducible rfl)
        simp only [Act.put, List.getElem_toArray, List.getElem_cons_zero, List.setIfInBounds_toArray, List.set_cons_zero, List.set_cons_succ]
        refine wpAnyH_take (i := 1) (v := ?_) rfl (by kernel_rfl) (by kernel_rfl) (by kernel_rfl) (fun _ _ _ h => h) (Or.inl ⟨by rfl, ?_⟩) (by assumption) ?_
        rotate_left
        · intro wq hSw
          (try dsimp only at hSw)
          (try simp only [List.getElem_toArray, List.getElem_cons_succ, List.getElem_cons_zero])
          go_simp
          (try with_reducible rfl)
        simp only [Act.put, List.getElem_toArray, List.getElem_cons_succ, List.getElem_cons_zero, List.setIfInBounds_toArray, List.set_cons_zero, List.set_cons_succ]
        refine wpAnyH_take (i := 2) (v := ?_) rfl (by kernel_rfl) (by kernel_rfl) (by kernel_rfl) (fun _ _ _ h => h) (Or.inl ⟨by rfl, ?_⟩) (by assumption) ?_
        rotate_left
        · intro wq hSw
          (try dsimp only at hSw)
          (try simp only [List.getElem_toArray, List.getElem_cons_succ, List.getElem_cons_zero])
          go_simp
          (try with_reducible rfl)
        simp only [Act.put, List.getElem_toArray, List.getElem_cons_succ, List.getElem_cons_zero, List.setIfInBounds_toArray, List.set_cons_zero, List.set_cons_succ]
        refine wpAnyH_take (i := 3) (v := ?_) rfl (by kernel_rfl) (by kernel_rfl) (by kernel_rfl) (fun _ _ _ h => h) (Or.inl ⟨by rfl, ?_⟩) (by assumption) ?_
        rotate_left
        · intro wq hSw
          (try dsimp only at hSw)
          (try simp only [List.getElem_toArray, List.getElem_cons_succ, List.getElem_cons_zero])
          go_simp
          (try with_reducible rfl)
        simp only [Act.put, List.getElem_toArray, List.getElem_cons_succ, List.getElem_cons_zero, List.setIfInBounds_toArray, List.set_cons_zero, List.set_cons_succ]
        refine wpAnyH_take (i := 4) (v := ?_) rfl (by kernel_rfl) (by kernel_rfl) (by kernel_rfl) (fun _ _ _ h => h) (Or.inl ⟨by rfl, ?_⟩) (by assumption) ?_
        rotate_left
        · intro wq hSw
          (try dsimp only at hSw)
          (try simp only [List.getElem_toArray, List.getElem_cons_succ, List.getElem_cons_zero])
          go_simp
          (try with_reducible rfl)
        simp only [Act.put, List.getElem_toArray, List.getElem_cons_succ, List.getElem_cons_zero, List.setIfInBounds_toArray, List.set_cons_zero, List.set_cons_succ]
        refine wpAnyH_take (i := 5) (v := ?_) rfl (by kernel_rfl) (by kernel_rfl) (by kernel_rfl) (fun _ _ _ h => h) (Or.inl ⟨by rfl, ?_⟩) (by assumption) ?_
        rotate_left
        · intro wq hSw
          (try dsimp only at hSw)
          (try simp only [List.getElem_toArray, List.getElem_cons_succ, List.getElem_cons_zero])
          go_simp
          (try with_reducible rfl)
        simp only [Act.put, List.getElem_toArray, List.getElem_cons_succ, List.getElem_cons_zero, List.setIfInBounds_toArray, List.set_cons_zero, List.set_cons_succ]
        refine wpAnyH_take (i := 6) (v := ?_) rfl (by kernel_rfl) (by kernel_rfl) (by kernel_rfl) (fun _ _ _ h => h) (Or.inl ⟨by rfl, ?_⟩) (by assumption) ?_
        rotate_left
        · intro wq hSw
          (try dsimp only at hSw)
          (try simp only [List.getElem_toArray, List.getElem_cons_succ, List.getElem_cons_zero])
          go_simp
          (try with_reducible rfl)
        simp only [Act.put, List.getElem_toArray, List.getElem_cons_succ, List.getElem_cons_zero, List.setIfInBounds_toArray, List.set_cons_zero, List.set_cons_succ]
        refine wpAnyH_take (i := 7) (v := ?_) rfl (by kernel_rfl) (by kernel_rfl) (by kernel_rfl) (fun _ _ _ h => h) (Or.inl ⟨by rfl, ?_⟩) (by assumption) ?_
        rotate_left
        · intro wq hSw
          (try dsimp only at hSw)
          (try simp only [List.getElem_toArray, List.getElem_cons_succ, List.getElem_cons_zero])
          go_simp
          (try with_reducible rfl)
        simp only [Act.put, List.getElem_toArray, List.getElem_cons_succ, List.getElem_cons_zero, List.setIfInBounds_toArray, List.set_cons_zero, List.set_cons_succ]
        refine wpAnyH_take (i := 10) (v := ?_) rfl (by kernel_rfl) (by kernel_rfl) (by kernel_rfl) (fun _ _ _ h => h) (Or.inl ⟨by rfl, ?_⟩) (by assumption) ?_
        rotate_left
        · intro wq hSw
          (try dsimp only at hSw)
          (try simp only [List.getElem_toArray, List.getElem_cons_succ, List.getElem_cons_zero])
          go_simp
          (try with_reducible rfl)
        simp only [Act.put, List.getElem_toArray, List.getElem_cons_succ, List.getElem_cons_zero, List.setIfInBounds_toArray, List.set_cons_zero, List.set_cons_succ]
        refine wpAnyH_take (i := 11) (v := ?_) rfl (by kernel_rfl) (by kernel_rfl) (by kernel_rfl) (fun _ _ _ h => h) (Or.inl ⟨by rfl, ?_⟩) (by assumption) ?_
        rotate_left
        · intro wq hSw
          (try dsimp only at hSw)
          (try simp only [List.getElem_toArray, List.getElem_cons_succ, List.getElem_cons_zero])
          go_simp
          (try with_reducible rfl)
        simp only [Act.put, List.getElem_toArray, List.getElem_cons_succ, List.getElem_cons_zero, List.setIfInBounds_toArray, List.set_cons_zero, List.set_cons_succ]
        refine wpAnyH_ready (rs := [8, 12]) (by kernel_rfl) (by simp) ?_
        refine AllReadyH.cons rfl ?_ (AllReadyH.cons rfl ?_ AllReadyH.nil)
        · intro K hK
          (try simp only [List.getElem_toArray, List.getElem_cons_succ, List.getElem_cons_zero])
          go_simp
          go_at_call 16
          refine (HFS.out _).mono ?_
          rintro e w2 ⟨rfl, hbx⟩
          have hL := hL.from hbx
          have hS := hL.flat
          clear hbx
          refine hK.out _ _ hS (fun hHeld => ?_)
          clear hK K
          refine wpAnyH_ready (rs := [9, 12]) (by kernel_rfl) (by simp) ?_
          refine AllReadyH.cons rfl ?_ (AllReadyH.cons rfl ?_ AllReadyH.nil)
          · intro K hK
            (try simp only [List.getElem_toArray, List.getElem_cons_succ, List.getElem_cons_zero])
            go_simp
            go_at_call 18
            refine (HFA.out _).mono ?_
            rintro e w3 ⟨v3, rfl, hoe, hbx⟩
            have hL := hL.from hbx
            have hS := hL.flat
            clear hbx
            refine hK.out _ _ hS (fun hHeld => ?_)
            clear hK K
            refine wpAnyH_ready (rs := [12]) (by kernel_rfl) (by simp) ?_
            refine AllReadyH.cons rfl ?_ AllReadyH.nil
            intro K hK
            (try simp only [List.getElem_toArray, List.getElem_cons_succ, List.getElem_cons_zero])
            go_simp
            have hA := RS_one w3 t
            have hAl : w3.heap.size + 1 ≤ (w3.alloc (.cells #[.string t] 9)).heap.size := by simp
            have hL := hL.alloc (.cells #[.string t] 9)
            have hoe := hoe.alloc' (.cells #[.string t] 9)
            have hS := hL.flat
            refine hK.out _ _ hS (fun hHeld => ?_)
            clear hK K
            refine wpAnyH_ready (rs := [13]) (by kernel_rfl) (by simp) ?_
            refine AllReadyH.cons rfl ?_ AllReadyH.nil
            intro K hK
            (try simp only [List.getElem_toArray, List.getElem_cons_succ, List.getElem_cons_zero])
            go_simp
            go_at_call 17
            refine (ctWhole_same v3 _ [t] _ _ _ _ (by rw [HEV.out]; exact hoe.reads) hA (Nat.le_refl _) hAl (by simp)).mono ?_
            rintro e w4 ⟨rfl, hbx⟩
            have hL := hL.from hbx
            have hS := hL.flat
            clear hbx
            refine hK.out _ _ hS (fun hHeld => ?_)
            clear hK K
            refine wpAnyH_take (i := 14) (v := ?_) rfl (by kernel_rfl) (by kernel_rfl) (by kernel_rfl) (fun _ _ _ h => h) (Or.inl ⟨by rfl, ?_⟩) (by assumption) ?_
            rotate_left
            · intro wq hSw
              (try dsimp only at hSw)
              (try simp only [List.getElem_toArray, List.getElem_cons_succ, List.getElem_cons_zero])
              go_simp
              (try with_reducible rfl)
            simp only [Act.put, List.getElem_toArray, List.getElem_cons_succ, List.getElem_cons_zero, List.setIfInBounds_toArray, List.set_cons_zero, List.set_cons_succ]
            refine wpAnyH_take (i := 15) (v := ?_) rfl (by kernel_rfl) (by kernel_rfl) (by kernel_rfl) (fun _ _ _ h => h) (Or.inl ⟨by rfl, ?_⟩) (by assumption) ?_
            rotate_left
            · intro wq hSw
              (try dsimp only at hSw)
              (try simp only [List.getElem_toArray, List.getElem_cons_succ, List.getElem_cons_zero])
              go_simp
              (try with_reducible rfl)
            simp only [Act.put, List.getElem_toArray, List.getElem_cons_succ, List.getElem_cons_zero, List.setIfInBounds_toArray, List.set_cons_zero, List.set_cons_succ]
            refine wpAnyH_done (by kernel_rfl) ?_ _
            have HL := Lib.hid hL.1
            clear hL hS hA hAl hoe
            go_wp2
            go_roundw
            case rel => exact ⟨k + 1, by omega, by go_num, HL.out⟩
            case measure => simp [intOf]; omega
          · intro K hK
            (try simp only [List.getElem_toArray, List.getElem_cons_succ, List.getElem_cons_zero])
            go_simp
            have hA := RS_one w2 t
            have hAl : w2.heap.size + 1 ≤ (w2.alloc (.cells #[.string t] 9)).heap.size := by simp
            have hL := hL.alloc (.cells #[.string t] 9)
            have hS := hL.flat
            refine hK.out _ _ hS (fun hHeld => ?_)
            clear hK K
            refine wpAnyH_ready (rs := [9]) (by kernel_rfl) (by simp) ?_
            refine AllReadyH.cons rfl ?_ AllReadyH.nil
            intro K hK
            (try simp only [List.getElem_toArray, List.getElem_cons_succ, List.getElem_cons_zero])
            go_simp
            go_at_call 18
            refine (HFA.out _).mono ?_
            rintro e w3 ⟨v3, rfl, hoe, hbx⟩
            have hL := hL.from hbx
            have hA := hA.below (hbx.mono hAl)
            have hAl := Nat.le_trans hAl hbx.size
            have hS := hL.flat
            clear hbx
            refine hK.out _ _ hS (fun hHeld => ?_)
            clear hK K
            refine wpAnyH_ready (rs := [13]) (by kernel_rfl) (by simp) ?_
            refine AllReadyH.cons rfl ?_ AllReadyH.nil
            intro K hK
            (try simp only [List.getElem_toArray, List.getElem_cons_succ, List.getElem_cons_zero])
            go_simp
            go_at_call 17
            refine (ctWhole_same v3 _ [t] _ _ _ _ (by rw [HEV.out]; exact hoe.reads) hA (Nat.le_refl _) hAl (by simp)).mono ?_
            rintro e w4 ⟨rfl, hbx⟩
            have hL := hL.from hbx
            have hS := hL.flat
            clear hbx
            refine hK.out _ _ hS (fun hHeld => ?_)
            clear hK K
            refine wpAnyH_take (i := 14) (v := ?_) rfl (by kernel_rfl) (by kernel_rfl) (by kernel_rfl) (fun _ _ _ h => h) (Or.inl ⟨by rfl, ?_⟩) (by assumption) ?_
            rotate_left
            · intro wq hSw
              (try dsimp only at hSw)
              (try simp only [List.getElem_toArray, List.getElem_cons_succ, List.getElem_cons_zero])
              go_simp
              (try with_reducible rfl)
            simp only [Act.put, List.getElem_toArray, List.getElem_cons_succ, List.getElem_cons_zero, List.setIfInBounds_toArray, List.set_cons_zero, List.set_cons_succ]
            refine wpAnyH_take (i := 15) (v := ?_) rfl (by kernel_rfl) (by kernel_rfl) (by kernel_rfl) (fun _ _ _ h => h) (Or.inl ⟨by rfl, ?_⟩) (by assumption) ?_
            rotate_left
            · intro wq hSw
              (try dsimp only at hSw)
              (try simp only [List.getElem_toArray, List.getElem_cons_succ, List.getElem_cons_zero])
              go_simp
              (try with_reducible rfl)
            simp only [Act.put, List.getElem_toArray, List.getElem_cons_succ, List.getElem_cons_zero, List.setIfInBounds_toArray, List.set_cons_zero, List.set_cons_succ]
            refine wpAnyH_done (by kernel_rfl) ?_ _
            have HL := Lib.hid hL.1
            clear hL hS hA hAl hoe
            go_wp2
            go_roundw
            case rel => exact ⟨k + 1, by omega, by go_num, HL.out⟩
            case measure => simp [intOf]; omega
        · intro K hK
          (try simp only [List.getElem_toArray, List.getElem_cons_succ, List.getElem_cons_zero])
          go_simp
          have hA := RS_one W.drew t
          have hAl : W.drew.heap.size + 1 ≤ (W.drew.alloc (.cells #[.string t] 9)).heap.size := by simp
          have hL := hL.alloc (.cells #[.string t] 9)
          have hS := hL.flat
          refine hK.out _ _ hS (fun hHeld => ?_)
          clear hK K
          refine wpAnyH_ready (rs := [8]) (by kernel_rfl) (by simp) ?_
          refine AllReadyH.cons rfl ?_ AllReadyH.nil
          intro K hK
          (try simp only [List.getElem_toArray, List.getElem_cons_succ, List.getElem_cons_zero])
          go_simp
          go_at_call 16
          refine (HFS.out _).mono ?_
          rintro e w2 ⟨rfl, hbx⟩
          have hL := hL.from hbx
          have hA := hA.below (hbx.mono hAl)
          have hAl := Nat.le_trans hAl hbx.size
          have hS := hL.flat
          clear hbx
          refine hK.out _ _ hS (fun hHeld => ?_)
          clear hK K
          refine wpAnyH_ready (rs := [9]) (by kernel_rfl) (by simp) ?_
          refine AllReadyH.cons rfl ?_ AllReadyH.nil
          intro K hK
          (try simp only [List.getElem_toArray, List.getElem_cons_succ, List.getElem_cons_zero])
          go_simp
          go_at_call 18
          refine (HFA.out _).mono ?_
          rintro e w3 ⟨v3, rfl, hoe, hbx⟩
          have hL := hL.from hbx
          have hA := hA.below (hbx.mono hAl)
          have hAl := Nat.le_trans hAl hbx.size
          have hS := hL.flat
          clear hbx
          refine hK.out _ _ hS (fun hHeld => ?_)
          clear hK K
          refine wpAnyH_ready (rs := [13]) (by kernel_rfl) (by simp) ?_
          refine AllReadyH.cons rfl ?_ AllReadyH.nil
          intro K hK
          (try simp only [List.getElem_toArray, List.getElem_cons_succ, List.getElem_cons_zero])
          go_simp
          go_at_call 17
          refine (ctWhole_same v3 _ [t] _ _ _ _ (by rw [HEV.out]; exact hoe.reads) hA (Nat.le_refl _) hAl (by simp)).mono ?_
          rintro e w4 ⟨rfl, hbx⟩
          have hL := hL.from hbx
          have hS := hL.flat
          clear hbx
          refine hK.out _ _ hS (fun hHeld => ?_)
          clear hK K
          refine wpAnyH_take (i := 14) (v := ?_) rfl (by kernel_rfl) (by kernel_rfl) (by kernel_rfl) (fun _ _ _ h => h) (Or.inl ⟨by rfl, ?_⟩) (by assumption) ?_
          rotate_left
          · intro wq hSw
            (try dsimp only at hSw)
            (try simp only [List.getElem_toArray, List.getElem_cons_succ, List.getElem_cons_zero])
            go_simp
            (try with_reducible rfl)
          simp only [Act.put, List.getElem_toArray, List.getElem_cons_succ, List.getElem_cons_zero, List.setIfInBounds_toArray, List.set_cons_zero, List.set_cons_succ]
          refine wpAnyH_take (i := 15) (v := ?_) rfl (by kernel_rfl) (by kernel_rfl) (by kernel_rfl) (fun _ _ _ h => h) (Or.inl ⟨by rfl, ?_⟩) (by assumption) ?_
          rotate_left
          · intro wq hSw
            (try dsimp only at hSw)
            (try simp only [List.getElem_toArray, List.getElem_cons_succ, List.getElem_cons_zero])
            go_simp
            (try with_reducible rfl)
          simp only [Act.put, List.getElem_toArray, List.getElem_cons_succ, List.getElem_cons_zero, List.setIfInBounds_toArray, List.set_cons_zero, List.set_cons_succ]
          refine wpAnyH_done (by kernel_rfl) ?_ _
          have HL := Lib.hid hL.1
          clear hL hS hA hAl hoe
          go_wp2
          go_roundw
          case rel => exact ⟨k + 1, by omega, by go_num, HL.out⟩
          case measure => simp [intOf]; omega
      · have hKb : (K1 == 1) = false := beq_eq_false_iff_ne.2 hK
        have hKn : (K1 != 1) = true := bne_iff_ne.2 hK
        have hte : t = ⟨#[]⟩ := by
          rw [← Lib.mk_data t, hkt hK]
        subst hte
        go_wp2_with fail
        have hL := HL.out.drew
        have hS := hL.flat
        refine wp_region_held_drew (S := (fun wx => (wx.cell? ⟨x1.heap.size, 0, none⟩ = some (.int .i64 a) ∧ wx.cell? ⟨x1.heap.size, 1, none⟩ = some (.int .i64 b) ∧ wx.cell? ⟨x1.heap.size, 2, none⟩ = some (.int .i64 d) ∧ wx.cell? ⟨x1.heap.size, 3, none⟩ = some (.int .i64 m)) ∧ (wx.cell? ⟨wr.heap.size, 0, none⟩ = some (.int .i64 K1) ∧ wx.cell? ⟨wr.heap.size, 1, none⟩ = some (.string ⟨#[]⟩)))) (by kernel_rfl) hS (fun hHeld => ?_)
        refine wpAnyH_take (i := 0) (v := ?_) rfl (by kernel_rfl) (by kernel_rfl) (by kernel_rfl) (fun _ _ _ h => h) (Or.inl ⟨by rfl, ?_⟩) (by assumption) ?_
        rotate_left
        · intro wq hSw
          (try dsimp only at hSw)
          (try simp only [List.getElem_toArray, List.getElem_cons_zero])
          go_simp
          (try with_reducible rfl)
        simp only [Act.put, List.getElem_toArray, List.getElem_cons_zero, List.setIfInBounds_toArray, List.set_cons_zero, List.set_cons_succ]
        refine wpAnyH_take (i := 1) (v := ?_) rfl (by kernel_rfl) (by kernel_rfl) (by kernel_rfl) (fun _ _ _ h => h) (Or.inl ⟨by rfl, ?_⟩) (by assumption) ?_
        rotate_left
        · intro wq hSw
          (try dsimp only at hSw)
          (try simp only [List.getElem_toArray, List.getElem_cons_succ, List.getElem_cons_zero])
          go_simp
          (try with_reducible rfl)
        simp only [Act.put, List.getElem_toArray, List.getElem_cons_succ, List.getElem_cons_zero, List.setIfInBounds_toArray, List.set_cons_zero, List.set_cons_succ]
        refine wpAnyH_take (i := 2) (v := ?_) rfl (by kernel_rfl) (by kernel_rfl) (by kernel_rfl) (fun _ _ _ h => h) (Or.inl ⟨by rfl, ?_⟩) (by assumption) ?_
        rotate_left
        · intro wq hSw
          (try dsimp only at hSw)
          (try simp only [List.getElem_toArray, List.getElem_cons_succ, List.getElem_cons_zero])
          go_simp
          (try with_reducible rfl)
        simp only [Act.put, List.getElem_toArray, List.getElem_cons_succ, List.getElem_cons_zero, List.setIfInBounds_toArray, List.set_cons_zero, List.set_cons_succ]
        refine wpAnyH_take (i := 3) (v := ?_) rfl (by kernel_rfl) (by kernel_rfl) (by kernel_rfl) (fun _ _ _ h => h) (Or.inl ⟨by rfl, ?_⟩) (by assumption) ?_
        rotate_left
        · intro wq hSw
          (try dsimp only at hSw)
          (try simp only [List.getElem_toArray, List.getElem_cons_succ, List.getElem_cons_zero])
          go_simp
          (try with_reducible rfl)
        simp only [Act.put, List.getElem_toArray, List.getElem_cons_succ, List.getElem_cons_zero, List.setIfInBounds_toArray, List.set_cons_zero, List.set_cons_succ]
        refine wpAnyH_take (i := 4) (v := undef) rfl (by kernel_rfl) (by kernel_rfl) (by kernel_rfl) (fun _ _ _ h => h) (Or.inr ⟨by rfl, rfl⟩) (by assumption) ?_
        simp only [Act.put, List.getElem_toArray, List.getElem_cons_succ, List.getElem_cons_zero, List.setIfInBounds_toArray, List.set_cons_zero, List.set_cons_succ]
        refine wpAnyH_take (i := 5) (v := undef) rfl (by kernel_rfl) (by kernel_rfl) (by kernel_rfl) (fun _ _ _ h => h) (Or.inr ⟨by rfl, rfl⟩) (by assumption) ?_
        simp only [Act.put, List.getElem_toArray, List.getElem_cons_succ, List.getElem_cons_zero, List.setIfInBounds_toArray, List.set_cons_zero, List.set_cons_succ]
        refine wpAnyH_take (i := 6) (v := undef) rfl (by kernel_rfl) (by kernel_rfl) (by kernel_rfl) (fun _ _ _ h => h) (Or.inr ⟨by rfl, rfl⟩) (by assumption) ?_
        simp only [Act.put, List.getElem_toArray, List.getElem_cons_succ, List.getElem_cons_zero, List.setIfInBounds_toArray, List.set_cons_zero, List.set_cons_succ]
        refine wpAnyH_take (i := 7) (v := undef) rfl (by kernel_rfl) (by kernel_rfl) (by kernel_rfl) (fun _ _ _ h => h) (Or.inr ⟨by rfl, rfl⟩) (by assumption) ?_
        simp only [Act.put, List.getElem_toArray, List.getElem_cons_succ, List.getElem_cons_zero, List.setIfInBounds_toArray, List.set_cons_zero, List.set_cons_succ]
        refine wpAnyH_take (i := 8) (v := undef) rfl (by kernel_rfl) (by kernel_rfl) (by kernel_rfl) (fun _ _ _ h => h) (Or.inr ⟨by rfl, rfl⟩) (by assumption) ?_
        simp only [Act.put, List.getElem_toArray, List.getElem_cons_succ, List.getElem_cons_zero, List.setIfInBounds_toArray, List.set_cons_zero, List.set_cons_succ]
        refine wpAnyH_take (i := 9) (v := undef) rfl (by kernel_rfl) (by kernel_rfl) (by kernel_rfl) (fun _ _ _ h => h) (Or.inr ⟨by rfl, rfl⟩) (by assumption) ?_
        simp only [Act.put, List.getElem_toArray, List.getElem_cons_succ, List.getElem_cons_zero, List.setIfInBounds_toArray, List.set_cons_zero, List.set_cons_succ]
        refine wpAnyH_take (i := 10) (v := undef) rfl (by kernel_rfl) (by kernel_rfl) (by kernel_rfl) (fun _ _ _ h => h) (Or.inr ⟨by rfl, rfl⟩) (by assumption) ?_
        simp only [Act.put, List.getElem_toArray, List.getElem_cons_succ, List.getElem_cons_zero, List.setIfInBounds_toArray, List.set_cons_zero, List.set_cons_succ]
        refine wpAnyH_take (i := 11) (v := undef) rfl (by kernel_rfl) (by kernel_rfl) (by kernel_rfl) (fun _ _ _ h => h) (Or.inr ⟨by rfl, rfl⟩) (by assumption) ?_
        simp only [Act.put, List.getElem_toArray, List.getElem_cons_succ, List.getElem_cons_zero, List.setIfInBounds_toArray, List.set_cons_zero, List.set_cons_succ]
        refine wpAnyH_take (i := 12) (v := undef) rfl (by kernel_rfl) (by kernel_rfl) (by kernel_rfl) (fun _ _ _ h => h) (Or.inr ⟨by rfl, rfl⟩) (by assumption) ?_
        simp only [Act.put, List.getElem_toArray, List.getElem_cons_succ, List.getElem_cons_zero, List.setIfInBounds_toArray, List.set_cons_zero, List.set_cons_succ]
        refine wpAnyH_take (i := 13) (v := undef) rfl (by kernel_rfl) (by kernel_rfl) (by kernel_rfl) (fun _ _ _ h => h) (Or.inr ⟨by rfl, rfl⟩) (by assumption) ?_
        simp only [Act.put, List.getElem_toArray, List.getElem_cons_succ, List.getElem_cons_zero, List.setIfInBounds_toArray, List.set_cons_zero, List.set_cons_succ]
        refine wpAnyH_take (i := 14) (v := undef) rfl (by kernel_rfl) (by kernel_rfl) (by kernel_rfl) (fun _ _ _ h => h) (Or.inr ⟨by rfl, rfl⟩) (by assumption) ?_
        simp only [Act.put, List.getElem_toArray, List.getElem_cons_succ, List.getElem_cons_zero, List.setIfInBounds_toArray, List.set_cons_zero, List.set_cons_succ]
        refine wpAnyH_take (i := 15) (v := ?_) rfl (by kernel_rfl) (by kernel_rfl) (by kernel_rfl) (fun _ _ _ h => h) (Or.inl ⟨by rfl, ?_⟩) (by assumption) ?_
        rotate_left
        · intro wq hSw
          (try dsimp only at hSw)
          (try simp only [List.getElem_toArray, List.getElem_cons_succ, List.getElem_cons_zero])
          go_simp
          (try with_reducible rfl)
        simp only [Act.put, List.getElem_toArray, List.getElem_cons_succ, List.getElem_cons_zero, List.setIfInBounds_toArray, List.set_cons_zero, List.set_cons_succ]
        refine wpAnyH_done (by kernel_rfl) ?_ _
        have HL := Lib.hid hL.1
        clear hL hS
        go_wp2
        go_roundw
        case rel => exact ⟨k + 1, by omega, by go_num, HL.out⟩
        case measure => simp [intOf]; omega
    · have HB := Lib.hid (HB1.out.trans (hLr.below.mono HB1.out.size))
      clear hLr
      go_wp2
      go_ret
      exact ⟨rfl, HB.out⟩
theorem own : ownKnob Tryz.prog.godebug = none := by kernel_rfl
theorem laidOut : laidOutB Tryz.prog = true := by kernel_rfl
set_option maxRecDepth 100000 in
theorem lifted (os : Os) (started : os.Started) (H : Type) (enc : TypeId × Value → H) :
    ReturnsInHanded {} Tryz.checked os 4 .any (Rows.fnFindFrameSpec.pre6 enc Tryz.prog Tryz.f4 Rows.fnFindFrameRow.domain false) (Rows.fnFindFrameSpec.post enc Tryz.prog Tryz.f4 false true false false) := by
  refine returnsInHanded_of_change (C := Tryz.checked) own started (by kernel_rfl) Tryz.func4
    (ChangeSpec.witness6 (enc := enc) (C := Tryz.checked) false ⟨#[], #[.slice none 0 0], []⟩ 8 (by kernel_rfl) (by kernel_rfl) (by kernel_rfl) (by kernel_rfl)) ?_
  intro W base args ds gs before hval0 hW hcnd _
  have hval : ∀ (j : Nat) t v, Tryz.f4.params[j]? = some t → args[j]? = some v → Value.okWide Tryz.prog W .any base t v := hval0
  have hW' := hW
  obtain ⟨p, q, hA0, hV, rfl, hfz, hnd⟩ := hW
  have hA : DataW.TrodAll enc Tryz.prog W 0 (fun _ => true) true Tryz.f4.params.toList args.toList ds p := hA0
  rw [Tryz.params4] at hA hval
  obtain ⟨v0, vs0, d0, ds0, p0, q0, hargs, rfl, rfl, h0, r0⟩ := trodAll_cons hA
  obtain ⟨rfl, rfl, rfl⟩ := trodAll_nil r0
  obtain rfl : args = #[v0] := by cases args; simp_all
  obtain ⟨rfl, rfl⟩ := trodVars_none hV
  obtain ⟨a0, len0, cap0, rfl⟩ := okWide_slice Tryz.underlying22 (hval 0 22 v0 rfl rfl)
  have k0 := h0
  have lt0 : ∀ x ∈ p0, x.block < W.heap.size := by obtain ⟨m, hm⟩ := k0; exact DataW.trod_lt m _ _ _ hm
  obtain ⟨z0, w0⟩ : ∃ zs, IsRow .u8 W a0 len0 cap0 zs := by
    obtain ⟨fuel, hf⟩ := h0
    rcases open_ints Tryz.underlying22 Tryz.underlying5 (by kernel_rfl) hf with ⟨hcs, _⟩ | ⟨x, l, c, zs, hcs, _, hl, hm, hz, _, hcell, hwz⟩
    · simp [Value.cells] at hcs
      obtain ⟨rfl, rfl, rfl⟩ := hcs
      exact ⟨[], .inl ⟨rfl, rfl, rfl, rfl⟩⟩
    · simp [Value.cells] at hcs
      obtain ⟨rfl, rfl, rfl⟩ := hcs
      exact ⟨zs, .inr ⟨_, rfl, hl, hm, by simpa using hz, hcell, hwz⟩⟩
  clear hA0 hval0
  refine (walk a0 len0 cap0 z0 W w0).mono fun e W' ⟨he, bel⟩ => ?_
  subst he
  exact ⟨_, rfl, _, _, _, [], _, [], hW', trodAll_mk1 (shut_bool Tryz.underlying4 _), (trodAll_cons_mk (Below.trod laidOut (by kernel_rfl) (of_decide_eq_true (by kernel_rfl)) k0 bel lt0) trodAll_mk0), rfl, bel.frame _, fun h => by cases h⟩
theorem over : Rows.fnFindFrameRow.holds Tryz.pinned (OpenSpec.ofChange Rows.fnFindFrameSpec) :=
  OpenClaim.holds_of_wide 4 Tryz.f4 rfl rfl rfl rfl rfl rfl rfl ⟨rfl, rfl, rfl, rfl, rfl⟩ rfl rfl rfl rfl rfl (by kernel_rfl) Tryz.func4 (by kernel_rfl)
    (of_decide_eq_true (by kernel_rfl)) (by unfold Func.isWrapper; first | (rw [if_pos (by decide +kernel)]; kernel_rfl) | (rw [if_neg (by decide +kernel)]; exact ⟨rfl, rfl⟩))
    (fun os started H enc _ => lifted os started H enc)
theorem proved : Rows.FnFindFrameSaid := over
end Go.Proofs.YtdnedoafgfpnfaaGreat.fnFindFrame
