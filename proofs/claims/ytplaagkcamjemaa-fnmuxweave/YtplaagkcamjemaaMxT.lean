/- MuxAll of the model. -/
import Derived.Test.YtplaagkcamjemaaMxS
import Derived.Deep.RegionWith
namespace Go.Proofs.Ytplaagkcamjemaa
open Go.ChangeShapes Go.WideShapes Go.ChangeAt Go.RowKit
theorem os_oe_apart {w : World} {base base' : Nat} {v u : Value} {ss : List ByteArray} {l : List Ev} (h : OS w base v ss) (k : OE w base' u l) : v.ownBlock = none ∨ v.ownBlock ≠ u.ownBlock := by
  cases hv : v.ownBlock with
  | none => exact .inl rfl
  | some b =>
    right
    intro e
    rcases h.2 with ⟨rfl, _⟩ | ⟨g, cap, cur, rfl, _, hg, _⟩
    · simp [Value.ownBlock] at hv
    · rcases k.2 with ⟨rfl, _⟩ | ⟨g', cap', cur', rfl, _, hg', _⟩
      · simp [Value.ownBlock] at e
      · simp [Value.ownBlock] at hv e
        subst hv
        subst e
        rw [hg] at hg'
        injection hg' with hg'
        injection hg' with _ h2 _
        exact absurd h2 (by decide)
theorem oe_made (w : World) : OE (w.alloc (.cells #[] 32)) w.heap.size (.slice (some ⟨w.heap.size, 0, none⟩) 0 0) [] :=
  ⟨rfl, .inr ⟨w.heap.size, 0, _, rfl, Nat.le_refl _, heap_alloc_new w _, Nat.le_refl _, by simp [maxLen], rfl, rfl⟩⟩
theorem muxSB_strs {m : List (List UInt8)} (h : muxOkB m = true) : muxSB (strs m) = true := by rw [← muxSB_txts, txts_strs]; exact h
theorem take_txts {ss : List ByteArray} {k : Nat} (h : k < ss.length) : (txts ss).take (k + 1) = (txts ss).take k ++ [ss[k].data.toList] := by
  have hl : k < (txts ss).length := by simp [txts]; exact h
  rw [List.take_succ_eq_append_getElem hl]
  simp [txts]
set_option maxRecDepth 100000 in
set_option maxHeartbeats 8000000 in
theorem specAll_any (v : Value) (ss : List ByteArray) (w : World) (B : Nat) (h : RS w B v ss) (hB : B ≤ w.heap.size) (hl : ss.length ≤ 1048576) (hz : ∀ s ∈ ss, s.size ≤ 1048576) :
    Calls Try.prog 22 #[v] w fun e w' => (∃ u, e = .returned u ∧ OE w' w.heap.size u (allTold mux0 (txts ss))) ∧ Below w.heap.size w w' := by
  obtain ⟨i0, hi, hz0, hz1, hz2⟩ := info_parts info_ev
  have HI := Lib.hid hi
  have HZ0 := Lib.hid hz0
  have HZ1 := Lib.hid hz1
  have HZ2 := Lib.hid hz2
  have hzm := zero_mux
  obtain ⟨a, cap, rfl⟩ := h.shape
  have H := Lib.hid h
  have HZ := Lib.hid hz
  clear h hi hz0 hz1 hz2 hz
  go_enter Try.func22, Try.ntmps22
  go_wp2_with fail
  refine (specNew_any _).mono ?_
  rintro e w1 ⟨⟨v1, rfl, ho⟩, hb⟩
  obtain ⟨a1, c1, rfl⟩ := ho.reads.shape
  have HO1 := Lib.hid ((ho.mono (base' := w.heap.size) (by simp)).alloc (.cells #[.slice a1 (strs mux0).length c1] 35))
  have HE1 := Lib.hid (((oe_made w).below hb).below ((Below.refl _ w1).alloc (Nat.le_refl _) (.cells #[.slice a1 (strs mux0).length c1] 35)))
  have HK1 := Lib.hid (BK.new w1 #[.slice a1 (strs mux0).length c1] 35)
  have HB1 := Lib.hid ((((Below.refl _ w).alloc (Nat.le_refl _) (.cells #[] 32)).trans (hb.mono (by simp))).alloc (by have := hb.size; simp at this; omega) (.cells #[.slice a1 (strs mux0).length c1] 35))
  have hw1 : w.heap.size < w1.heap.size := by have := hb.size; simp at this; omega
  clear ho hb
  go_wp2_with fail
  go_loopw [3, 5] (fun u j wr => ∃ (k : Nat) (am : Option Addr) (cm : Nat), k ≤ ss.length ∧ j = .int .i64 k ∧ OE wr w.heap.size u (allTold mux0 ((txts ss).take k)) ∧ BK wr w1.heap.size #[.slice am (strs (allOpen mux0 ((txts ss).take k))).length cm] 35 ∧ OS wr w.heap.size (.slice am (strs (allOpen mux0 ((txts ss).take k))).length cm) (strs (allOpen mux0 ((txts ss).take k))) ∧ Below w.heap.size w wr) (fun _ j _ => ss.length - (intOf j).toNat)
  case atStart => exact ⟨0, a1, c1, Nat.zero_le _, rfl, HE1.out, HK1.out, HO1.out, HB1.out⟩
  case round =>
    obtain ⟨k, am, cm, hk, rfl, hoe, hbk, hos, hbel⟩ := hrel
    have HE := Lib.hid hoe
    have HK := Lib.hid hbk
    have HO := Lib.hid hos
    have HB := Lib.hid hbel
    have HR := Lib.hid (H.out.below (hbel.mono hB))
    obtain ⟨ua, uc, rfl⟩ := hoe.reads.shape
    have HTL := Lib.hid (Nat.le_trans (allTold_len mux0 ((txts ss).take k)) (List.length_take_le _ _))
    have HOK := Lib.hid (muxSB_strs (allOpen_ok mux0 ((txts ss).take k) (by decide)))
    have c4 := hbk.cell (i := 0) rfl
    clear hoe hbk hos hbel
    by_cases hlt : k < ss.length
    · obtain ⟨x, rfl, hxB, cx⟩ := HR.out.at_ hlt
      have hts := HZ.out ss[k] (List.getElem_mem _)
      have HT := Lib.hid (take_txts hlt)
      generalize ss[k] = t at *
      have hlti : (k : Int) < (ss.length : Int) := by omega
      obtain ⟨M, hM⟩ : ∃ M, M = allOpen mux0 ((txts ss).take k) := ⟨_, rfl⟩
      rw [← hM] at HK HO HOK c4
      have HMN := Lib.hid (show allOpen mux0 ((txts ss).take (k + 1)) = takeOpen M t.data.toList by rw [HT.out, allOpen_append, ← hM]; rfl)
      have HTN := Lib.hid (show allTold mux0 ((txts ss).take (k + 1)) = allTold mux0 ((txts ss).take k) ++ takeTold M t.data.toList by rw [HT.out, allTold_append, ← hM]; simp [allTold])
      clear hM
      generalize allTold mux0 ((txts ss).take k) = L at *
      obtain ⟨SM, hSM⟩ : ∃ SM, SM = strs M := ⟨_, rfl⟩
      rw [← hSM] at HK HO HOK c4
      have HTX := Lib.hid (show txts SM = M by rw [hSM, txts_strs])
      clear hSM
      go_wp2_with fail
      have hxw : x.block < wr.heap.size := by have := HB.out.size; omega
      have hS0 : wr.cell? ⟨w1.heap.size, 0, none⟩ = some (.slice am SM.length cm) ∧ wr.cell? (x.add k) = some (.string t) := ⟨c4, cx⟩
      have hS1 : ∀ o, (wr.alloc o).cell? ⟨w1.heap.size, 0, none⟩ = some (.slice am SM.length cm) ∧ (wr.alloc o).cell? (x.add k) = some (.string t) := fun o => ⟨(HK.out.alloc o).cell rfl, (((Below.refl _ wr).alloc (Nat.le_refl _) o).cell (p := x.add k) (by rw [add_block]; exact hxw)).trans cx⟩
      go_region_held3 (fun wx => wx.cell? ⟨w1.heap.size, 0, none⟩ = some (.slice am SM.length cm) ∧ wx.cell? (x.add k) = some (.string t)) (first | exact hS0 | exact hS1 _ | exact hS2 | exact hS3 _ | exact hS4 _) (first | (go_at_call 17; refine (specTake_any _ SM t wr.drew _ HO.out.drew.reads (Nat.le_refl _) HOK.out hts).mono ?_; rintro e w2 ⟨v2, u2, rfl, ho2, he2, hb2⟩; obtain ⟨a2, c2, hv2⟩ := ho2.reads.shape; subst hv2; have k4 := HK.out.drew.from hb2; have hS2 := And.intro (k4.cell (i := 0) rfl) ((hb2.cell (p := x.add k) (by rw [add_block]; exact hxw)).trans cx); have hS3 := (fun o => And.intro ((k4.alloc o).cell (i := 0) rfl) ((((Below.refl _ w2).alloc (Nat.le_refl _) o).cell (p := x.add k) (by rw [add_block]; exact Nat.lt_of_lt_of_le hxw hb2.size)).trans hS2.2))) | (go_at_call 17; refine (specTake_any _ SM t (wr.alloc (.cells #[.slice none 0 0] 35)).drew _ (HO.out.alloc (.cells #[.slice none 0 0] 35)).drew.reads (Nat.le_refl _) HOK.out hts).mono ?_; rintro e w2 ⟨v2, u2, rfl, ho2, he2, hb2⟩; obtain ⟨a2, c2, hv2⟩ := ho2.reads.shape; subst hv2; have k6 := (BK.new wr #[.slice none 0 0] 35).drew.from hb2; have g6 := k6.cell (i := 0) rfl; have r6 := k6.free 0; have k4 := (HK.out.alloc (.cells #[.slice none 0 0] 35)).drew.from hb2; have hS2 := And.intro (k4.cell (i := 0) rfl) ((hb2.cell (p := x.add k) (by rw [add_block]; simp; omega)).trans (hS1 _).2); have hS4 := (fun u => And.intro ((k4.far (j := wr.heap.size) (o := 0) (by have := HK.out.lt; omega) u).cell (i := 0) rfl) (show (w2.setCell ⟨wr.heap.size, 0, none⟩ u).cell? (x.add k) = some (.string t) from (World.cell?_setCell_other _ _ _ _ (fun e => by have := congrArg Addr.block e; rw [add_block] at this; simp at this; omega)).trans hS2.2))))
      · obtain ⟨ua2, uc2, hu2⟩ := he2.reads.shape
        subst hu2
        have hbw : Below w.heap.size w w2 := HB.out.drew.trans (hb2.mono HB.out.size)
        have F4 := (HK.out.drew.from hb2).alloc (.cells #[.slice a2 (strs (takeOpen (txts SM) t.data.toList)).length c2] 35)
        have F6 := BK.new w2 #[.slice a2 (strs (takeOpen (txts SM) t.data.toList)).length c2] 35
        have O2 := (ho2.mono (base' := w.heap.size) HB.out.size).alloc (.cells #[.slice a2 (strs (takeOpen (txts SM) t.data.toList)).length c2] 35)
        have E2 := (he2.mono (base' := w.heap.size) HB.out.size).below ((Below.refl _ w2).alloc (Nat.le_refl _) (.cells #[.slice a2 (strs (takeOpen (txts SM) t.data.toList)).length c2] 35))
        have EL := (HE.out.drew.below hb2).below ((Below.refl _ w2).alloc (Nat.le_refl _) (.cells #[.slice a2 (strs (takeOpen (txts SM) t.data.toList)).length c2] 35))
        have BB := hbw.alloc hbw.size (.cells #[.slice a2 (strs (takeOpen (txts SM) t.data.toList)).length c2] 35)
        clear ho2 he2 hb2 hbw k4 hS2 hS3
        have HF4 := Lib.hid F4
        have HF6 := Lib.hid F6
        have HO2 := Lib.hid O2
        have HE2 := Lib.hid E2
        have HEL := Lib.hid EL
        have HBB := Lib.hid BB
        have g6x := F6.cell (i := 0) rfl
        have g4x := F4.cell (i := 0) rfl
        have r4x := F4.free 0
        have k4s := F4.set 0 (.slice a2 (strs (takeOpen (txts SM) t.data.toList)).length c2)
        have hnE := EL.not_box F4 (by decide)
        have hnU := E2.not_box F4 (by decide)
        have hnO := O2.not_box F4 (by decide)
        have HELs := Lib.hid (oe_far EL hnE 0 (.slice a2 (strs (takeOpen (txts SM) t.data.toList)).length c2))
        have HE2s := Lib.hid (oe_far E2 hnU 0 (.slice a2 (strs (takeOpen (txts SM) t.data.toList)).length c2))
        have HO2s := Lib.hid (O2.far hnO 0 (.slice a2 (strs (takeOpen (txts SM) t.data.toList)).length c2))
        have HK4s := Lib.hid k4s
        have HBs := Lib.hid (BB.setCell (p := ⟨w1.heap.size, 0, none⟩) (Nat.le_of_lt hw1) (.slice a2 (strs (takeOpen (txts SM) t.data.toList)).length c2))
        have hTl := takeTold_len (txts SM) t.data.toList
        clear F4 F6 O2 E2 EL BB k4s hnE hnU hnO hS0 hS1 c4 cx
        go_wp2_with (at_builtin; refine wpList_append_ev _ rfl _ _ 29 rfl w.heap.size i0 Try.underlying29 HI.out HZ0.out HZ1.out HZ2.out _ L rfl HELs.out _ _ _ (takeTold (txts SM) t.data.toList) rfl HE2s.out.reads (by have := HTL.out; omega) HBs.out.size ?_; intro v7 w7 ho7 hg7 _)
        go_roundw
        case rel =>
          refine ⟨k + 1, a2, c2, by omega, by go_num, ?_, ?_, ?_, HBs.out.grown hg7 HBs.out.size (fun j hj => (HELs.out.low j hj).1)⟩
          · rw [HTN.out, ← HTX.out]; exact ho7
          · rw [HMN.out, ← HTX.out]; exact HK4s.out.grown hg7 (fun e => HELs.out.not_box HK4s.out (by decide) e)
          · rw [HMN.out, ← HTX.out]; exact HO2s.out.kept hg7 (os_oe_apart HO2s.out HELs.out)
        case measure => simp [intOf]; omega
      · obtain ⟨ua2, uc2, hu2⟩ := he2.reads.shape
        subst hu2
        have hbw : Below w.heap.size w w2 := (HB.out.alloc HB.out.size (.cells #[.slice none 0 0] 35)).drew.trans (hb2.mono (show w.heap.size ≤ (wr.alloc (.cells #[.slice none 0 0] 35)).heap.size by have := HB.out.size; simp; omega))
        have F6 := k6.set 0 (.slice a2 (strs (takeOpen (txts SM) t.data.toList)).length c2)
        have F4 := k4.far (j := wr.heap.size) (o := 0) (by have := HK.out.lt; omega) (.slice a2 (strs (takeOpen (txts SM) t.data.toList)).length c2)
        have o2 := ho2.mono (base' := w.heap.size) (show w.heap.size ≤ (wr.alloc (.cells #[.slice none 0 0] 35)).heap.size by have := HB.out.size; simp; omega)
        have e2 := he2.mono (base' := w.heap.size) (show w.heap.size ≤ (wr.alloc (.cells #[.slice none 0 0] 35)).heap.size by have := HB.out.size; simp; omega)
        have el := (HE.out.below ((Below.refl _ wr).alloc (Nat.le_refl _) (.cells #[.slice none 0 0] 35))).drew.below hb2
        have O2 := o2.far (o2.not_box k6 (by decide)) 0 (.slice a2 (strs (takeOpen (txts SM) t.data.toList)).length c2)
        have E2 := oe_far e2 (e2.not_box k6 (by decide)) 0 (.slice a2 (strs (takeOpen (txts SM) t.data.toList)).length c2)
        have EL := oe_far el (el.not_box k6 (by decide)) 0 (.slice a2 (strs (takeOpen (txts SM) t.data.toList)).length c2)
        have BB := hbw.setCell (p := ⟨wr.heap.size, 0, none⟩) HB.out.size (.slice a2 (strs (takeOpen (txts SM) t.data.toList)).length c2)
        clear ho2 he2 hb2 hbw k4 k6 o2 e2 el hS2 hS4 g6 r6
        have HF4 := Lib.hid F4
        have HF6 := Lib.hid F6
        have HO2 := Lib.hid O2
        have HE2 := Lib.hid E2
        have HEL := Lib.hid EL
        have HBB := Lib.hid BB
        have g6x := F6.cell (i := 0) rfl
        have g4x := F4.cell (i := 0) rfl
        have r4x := F4.free 0
        have k4s := F4.set 0 (.slice a2 (strs (takeOpen (txts SM) t.data.toList)).length c2)
        have hnE := EL.not_box F4 (by decide)
        have hnU := E2.not_box F4 (by decide)
        have hnO := O2.not_box F4 (by decide)
        have HELs := Lib.hid (oe_far EL hnE 0 (.slice a2 (strs (takeOpen (txts SM) t.data.toList)).length c2))
        have HE2s := Lib.hid (oe_far E2 hnU 0 (.slice a2 (strs (takeOpen (txts SM) t.data.toList)).length c2))
        have HO2s := Lib.hid (O2.far hnO 0 (.slice a2 (strs (takeOpen (txts SM) t.data.toList)).length c2))
        have HK4s := Lib.hid k4s
        have HBs := Lib.hid (BB.setCell (p := ⟨w1.heap.size, 0, none⟩) (Nat.le_of_lt hw1) (.slice a2 (strs (takeOpen (txts SM) t.data.toList)).length c2))
        have hTl := takeTold_len (txts SM) t.data.toList
        clear F4 F6 O2 E2 EL BB k4s hnE hnU hnO hS0 hS1 c4 cx
        go_wp2_with (at_builtin; refine wpList_append_ev _ rfl _ _ 29 rfl w.heap.size i0 Try.underlying29 HI.out HZ0.out HZ1.out HZ2.out _ L rfl HELs.out _ _ _ (takeTold (txts SM) t.data.toList) rfl HE2s.out.reads (by have := HTL.out; omega) HBs.out.size ?_; intro v7 w7 ho7 hg7 _)
        go_roundw
        case rel =>
          refine ⟨k + 1, a2, c2, by omega, by go_num, ?_, ?_, ?_, HBs.out.grown hg7 HBs.out.size (fun j hj => (HELs.out.low j hj).1)⟩
          · rw [HTN.out, ← HTX.out]; exact ho7
          · rw [HMN.out, ← HTX.out]; exact HK4s.out.grown hg7 (fun e => HELs.out.not_box HK4s.out (by decide) e)
          · rw [HMN.out, ← HTX.out]; exact HO2s.out.kept hg7 (os_oe_apart HO2s.out HELs.out)
        case measure => simp [intOf]; omega
    · have HF := Lib.hid (show (txts ss).take k = txts ss from List.take_of_length_le (by simp [txts]; omega))
      clear c4
      go_wp2
      go_ret
      exact ⟨⟨_, rfl, by rw [show allTold mux0 (txts ss) = allTold mux0 ((txts ss).take k) by rw [HF.out]]; exact HE.out⟩, HB.out⟩
end Go.Proofs.Ytplaagkcamjemaa
