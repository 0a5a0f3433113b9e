/- MuxTake and MuxAll of the program. -/
import Derived.Test.YtplaagkcamjemaaMbF
import Derived.Test.YtplaagkcamjemaaMxT
namespace Go.Proofs.Ytplaagkcamjemaa
open Go.ChangeShapes Go.WideShapes Go.ChangeAt Go.RowKit
theorem OE.nb {w w' : World} {g base : Nat} {v : Value} {l : List Ev} (h : OE w base v l) (hn : NB g w w') (hne : ¬ v.ownBlock = some g) : OE w' base v l := by
  refine ⟨h.1, ?_⟩
  rcases h.2 with hnil | ⟨r, cap, cur, rfl, hb, hr, rest⟩
  · exact .inl hnil
  · refine .inr ⟨r, cap, cur, rfl, hb, ?_, rest⟩
    have hk : BK w r cur 32 := hr
    exact hk.nb hn (fun e => hne (by simp [Value.ownBlock, e])) (by decide)
/-- an append onto a row of told texts leaves the builders -/
theorem MBs.keptE {w w' : World} {B g base : Nat} {L : Nat → List UInt8} {live : Nat → Prop} {p v : Nat → Value} {u : Value} {l : List Ev} (h : MBs w B g L live p v) (hu : OE w base u l) (hg : w.grownBy w' u.ownBlock) : MBs w' B g L live p v where
  lo := h.lo
  bk := h.bk.grown hg (fun e => hu.not_box h.bk (by decide) e)
  po := h.po
  rb := fun i hi hl => (h.rb i hi hl).kept hg (by
    have hr := h.rb i hi hl
    rcases hu.2 with ⟨rfl, _⟩ | ⟨r, cap, cur, rfl, _, hr2, _⟩
    · cases hv : (v i).ownBlock with
      | none => exact .inl rfl
      | some k => right; simp [Value.ownBlock]
    · right; exact hr.ob.ne_block hr2 (by decide))
  own := fun i hi k hk => by have := h.own i hi k hk; have := hg.size; exact ⟨by omega, by omega, by omega⟩
  ap := h.ap
def TakeZero (w : World) (e : Ending) (w' : World) : Prop := e = .returned (.tuple #[.agg #[.slice none 0 0], .slice none 0 0]) ∧ Below w.heap.size w w'
theorem implMTake_no (va : Value) (ss : List ByteArray) (t : ByteArray) (w : World) (B : Nat) (h : RS w B va ss) (hB : B ≤ w.heap.size) (hok : muxSB ss = false) (hl : ss.length ≤ 1048576) :
    Calls Try.prog 16 #[.agg #[va], .string t] w (TakeZero w) := by
  have HOK := Lib.hid hok
  obtain ⟨a, cap, rfl⟩ := h.shape
  have hzm := zero_mux
  have k0 := (BK.new w #[.slice a ss.length cap] 35).alloc (.cells #[.slice none 0 0] 35)
  have k1 := BK.new (w.alloc (.cells #[.slice a ss.length cap] 35)) #[.slice none 0 0] 35
  rw [World.size_alloc] at k1
  have hb2 : Below w.heap.size w ((w.alloc (.cells #[.slice a ss.length cap] 35)).alloc (.cells #[.slice none 0 0] 35)) := ((Below.refl _ w).alloc (Nat.le_refl _) _).alloc (by simp) _
  have c0 := k0.cell (i := 0) rfl
  have HR := Lib.hid (h.below (hb2.mono hB))
  have HB := Lib.hid hb2
  have HK1 := Lib.hid k1
  clear h hok k0 k1 hb2
  go_enter Try.func16, Try.ntmps16
  go_wp2_with fail
  refine (implMuxOk_any _ ss _ B HR.out (Nat.le_trans hB HB.out.size) hl).mono ?_
  rintro e w1 ⟨rfl, hb⟩
  rw [HOK.out]
  have HK := Lib.hid (HK1.out.from hb)
  have HB1 := Lib.hid (HB.out.trans (hb.mono HB.out.size))
  have d1 := HK.out.cell (i := 0) rfl
  have f1 := HK.out.free 0
  clear hb
  go_wp2
  exact mux_ret2 rfl (HK.out.set 0 _) rfl rfl rfl ⟨rfl, HB1.out.setCell (p := ⟨w.heap.size + 1, 0, none⟩) (by simp) _⟩
set_option maxRecDepth 100000 in
theorem implMTake_yes (va : Value) (ss : List ByteArray) (t : ByteArray) (w : World) (B : Nat) (h : RS w B va ss) (hB : B ≤ w.heap.size) (hok : muxSB ss = true) (ht : t.size ≤ 1048576) :
    Calls Try.prog 16 #[.agg #[va], .string t] w (TakePost w ss t.data.toList) := by
  have h3 : ss.length = 3 := by unfold muxSB at hok; rw [Bool.and_eq_true, decide_eq_true_eq] at hok; exact hok.1
  have HOK := Lib.hid hok
  have HOM := Lib.hid (show muxOkB (txts ss) = true by rw [muxSB_txts]; exact hok)
  obtain ⟨a, cap, rfl⟩ := h.shape
  have hzm := zero_mux
  have k0 := (BK.new w #[.slice a ss.length cap] 35).alloc (.cells #[.slice none 0 0] 35)
  have k1 := BK.new (w.alloc (.cells #[.slice a ss.length cap] 35)) #[.slice none 0 0] 35
  rw [World.size_alloc] at k1
  have hb2 : Below w.heap.size w ((w.alloc (.cells #[.slice a ss.length cap] 35)).alloc (.cells #[.slice none 0 0] 35)) := ((Below.refl _ w).alloc (Nat.le_refl _) _).alloc (by simp) _
  have c0 := k0.cell (i := 0) rfl
  have HR := Lib.hid (h.below (hb2.mono hB))
  have HB := Lib.hid hb2
  have HK0 := Lib.hid k0
  have HK1 := Lib.hid k1
  have H3 := Lib.hid h3
  clear h hok k0 k1 hb2 h3
  go_enter Try.func16, Try.ntmps16
  go_wp2_with fail
  refine (implMuxOk_any _ ss _ B HR.out (Nat.le_trans hB HB.out.size) (by have := H3.out; omega)).mono ?_
  rintro e w1 ⟨rfl, hb⟩
  rw [HOK.out]
  have HK := Lib.hid (HK1.out.from hb)
  have HB1 := Lib.hid (HB.out.trans (hb.mono HB.out.size))
  have HR1 := Lib.hid (HR.out.below (hb.mono (Nat.le_trans hB HB.out.size)))
  have c1 := (HK0.out.from hb).cell (i := 0) rfl
  clear hb
  go_wp2_with fail
  refine (buildersOf_any _ ss _ B HR1.out (Nat.le_trans hB HB1.out.size) HOK.out).mono ?_
  rintro e w2 ⟨g, p, v, rfl, hm, hb⟩
  have HM := Lib.hid hm
  have HB2 := Lib.hid (HB1.out.trans (hb.mono HB1.out.size))
  have HK2 := Lib.hid (HK.out.from hb)
  clear hm hb
  go_wp2_with fail
  refine (mTake_any _ g _ p v t _ HM.out HOM.out ht).mono ?_
  rintro e w3 ⟨u, rfl, hu, ⟨p3, v3, hm3⟩, hb3, hn3⟩
  have HM3 := Lib.hid hm3
  have HU3 := Lib.hid hu
  have hw1 := HB1.out.size
  have hw2 := HB2.out.size
  have HB3 := Lib.hid (HB2.out.trans (hb3.mono hw1))
  have hgl := HM.out.lo
  have hgu := HM.out.bk.lt
  have hkl := HK.out.lt
  have HK3 := Lib.hid (HK2.out.below hb3 (by omega))
  clear hu hm3 hb3 hn3
  go_wp2_with fail
  refine (shown_any _ g _ p3 v3 _ HM3.out (takeOpen_ok HOM.out _)).mono ?_
  rintro e w4 ⟨x, rfl, hx, hb4, hn4⟩
  obtain ⟨xa, xc, rfl⟩ := hx.reads.shape
  have hw3 := HB3.out.size
  have HB4 := Lib.hid (HB3.out.trans (hb4.mono hw1))
  have HX := Lib.hid (hx.mono (show w.heap.size ≤ w3.heap.size by omega))
  have HU4 := Lib.hid ((HU3.out.mono (show w.heap.size ≤ w2.heap.size by omega)).nb hn4 (fun e => by have := (HU3.out.low g e).1; omega))
  have HK4 := Lib.hid (HK3.out.below hb4 (by omega))
  have d1 := HK4.out.cell (i := 0) rfl
  have f1 := HK4.out.free 0
  clear hx hb4 hn4
  go_wp2
  exact mux_ret2 rfl (HK4.out.set 0 _) rfl rfl rfl ⟨_, _, rfl, HX.out.far (HX.out.not_box HK4.out (by decide)) _ _, oe_far HU4.out (HU4.out.not_box HK4.out (by decide)) _ _, HB4.out.setCell (p := ⟨w.heap.size + 1, 0, none⟩) (by simp) _⟩
theorem specMTake_zero (va : Value) (ss : List ByteArray) (t : ByteArray) (w : World) (B : Nat) (h : RS w B va ss) (hB : B ≤ w.heap.size) (hok : muxSB ss = false) (hl : ss.length ≤ 1048576) :
    Calls Try.prog 17 #[.agg #[va], .string t] w (TakeZero w) := by
  have HOK := Lib.hid hok
  obtain ⟨a, cap, rfl⟩ := h.shape
  have hzm := zero_mux
  have k0 := (BK.new w #[.slice a ss.length cap] 35).alloc (.cells #[.slice none 0 0] 35)
  have k1 := BK.new (w.alloc (.cells #[.slice a ss.length cap] 35)) #[.slice none 0 0] 35
  rw [World.size_alloc] at k1
  have hb2 : Below w.heap.size w ((w.alloc (.cells #[.slice a ss.length cap] 35)).alloc (.cells #[.slice none 0 0] 35)) := ((Below.refl _ w).alloc (Nat.le_refl _) _).alloc (by simp) _
  have c0 := k0.cell (i := 0) rfl
  have HR := Lib.hid (h.below (hb2.mono hB))
  have HB := Lib.hid hb2
  have HK1 := Lib.hid k1
  clear h hok k0 k1 hb2
  go_enter Try.func17, Try.ntmps17
  go_wp2_with fail
  refine (l11Ok_any _ ss _ B HR.out (Nat.le_trans hB HB.out.size) hl).mono ?_
  rintro e w1 ⟨rfl, hb⟩
  rw [HOK.out]
  have HK := Lib.hid (HK1.out.from hb)
  have HB1 := Lib.hid (HB.out.trans (hb.mono HB.out.size))
  have d1 := HK.out.cell (i := 0) rfl
  have f1 := HK.out.free 0
  clear hb
  go_wp2
  exact mux_ret2 rfl (HK.out.set 0 _) rfl rfl rfl ⟨rfl, HB1.out.setCell (p := ⟨w.heap.size + 1, 0, none⟩) (by simp) _⟩
set_option maxRecDepth 100000 in
theorem implMxAll_any (va : Value) (ss : List ByteArray) (w : World) (B : Nat) (h : RS w B va ss) (hB : B ≤ w.heap.size) (hl : ss.length ≤ 1048576) (hz : ∀ s ∈ ss, s.size ≤ 1048576) :
    Calls Try.prog 14 #[va] w fun e w' => (∃ u, e = .returned u ∧ OE w' w.heap.size u (allTold mux0 (txts ss))) ∧ Below w.heap.size w w' := by
  obtain ⟨i0, hi, hz0, hz1, hz2⟩ := info_parts info_ev
  have HI := Lib.hid hi
  have HZ0 := Lib.hid hz0
  have HZ1 := Lib.hid hz1
  have HZ2 := Lib.hid hz2
  obtain ⟨a, cap, rfl⟩ := h.shape
  have H := Lib.hid h
  have HZ := Lib.hid hz
  have m0 := MBs.new w w.heap.size (Nat.le_refl _)
  have M0 := Lib.hid m0
  clear h hi hz0 hz1 hz2 hz m0
  go_enter Try.func14, Try.ntmps14
  go_wp2_with fail
  go_loopw [4, 9] (fun o i wr => ∃ k : Nat, k ≤ ss.length ∧ i = .int .i64 k ∧ OE wr w.heap.size o (allTold mux0 ((txts ss).take k)) ∧ (∃ p v, MBs wr w.heap.size w.heap.size (getL (allOpen mux0 ((txts ss).take k))) (fun _ => True) p v) ∧ Below w.heap.size w wr) (fun _ i _ => ss.length - (intOf i).toNat)
  case atStart => exact ⟨0, by omega, rfl, World.ownsRow_nil _ _ _ _, ⟨_, _, M0.out.same (fun i hi => by match i, hi with | 0, _ => rfl | 1, _ => rfl | 2, _ => rfl)⟩, (Below.refl _ _).alloc (Nat.le_refl _) _⟩
  case round =>
    obtain ⟨k, hk, rfl, ho, ⟨p, v, hm⟩, hb⟩ := hrel
    have HO := Lib.hid ho
    have HM := Lib.hid hm
    have HB := Lib.hid hb
    clear ho hm hb
    by_cases hlt : k < ss.length
    · obtain ⟨x, rfl, hxB, cx⟩ := (H.out.below (HB.out.mono hB)).at_ hlt
      have ht := HZ.out ss[k] (List.getElem_mem hlt)
      have HT := Lib.hid (take_txts hlt)
      have hki : (k : Int) < (ss.length : Int) := by omega
      have HOK := Lib.hid (allOpen_ok mux0 ((txts ss).take k) (show muxOkB mux0 = true by rfl))
      have HLEN := Lib.hid (Nat.le_trans (allTold_len mux0 ((txts ss).take k)) (by rw [List.length_take]; omega : ((txts ss).take k).length ≤ k))
      have HTN := Lib.hid (show allTold mux0 ((txts ss).take (k + 1)) = allTold mux0 ((txts ss).take k) ++ takeTold (allOpen mux0 ((txts ss).take k)) ss[k].data.toList by rw [HT.out, allTold_append]; simp [allTold])
      have HMN := Lib.hid (show allOpen mux0 ((txts ss).take (k + 1)) = takeOpen (allOpen mux0 ((txts ss).take k)) ss[k].data.toList by rw [HT.out, allOpen_append]; simp [allOpen])
      generalize ss[k] = t at *
      generalize allOpen mux0 ((txts ss).take k) = M at *
      generalize allTold mux0 ((txts ss).take k) = A at *
      have hTl := takeTold_len M t.data.toList
      clear HT
      go_wp2_with fail
      refine (mTake_any _ w.heap.size M p v t _ HM.out HOK.out ht).mono ?_
      rintro e w2 ⟨u, rfl, hu, ⟨p2, v2, hm2⟩, hb2, hn2⟩
      have HM2 := Lib.hid hm2
      have HB2 := Lib.hid (HB.out.trans hb2)
      have HO2 := Lib.hid (HO.out.nb hn2 (fun e => HO.out.not_box HM.out.bk (by decide) e))
      have HU2 := Lib.hid hu
      have hw2 := HB2.out.size
      clear hu hm2 hb2 hn2
      go_wp2_with (at_builtin; refine wpList_append_ev _ rfl _ _ 29 rfl w.heap.size i0 Try.underlying29 HI.out HZ0.out HZ1.out HZ2.out _ A rfl HO2.out _ _ _ (takeTold M t.data.toList) rfl HU2.out.reads (by have := HLEN.out; omega) (by omega) ?_; intro v7 w7 ho7 hg7 hn7)
      go_roundw
      case rel =>
        refine ⟨k + 1, by omega, by go_num, by rw [HTN.out]; exact ho7, ?_, HB2.out.grown hg7 hw2 (fun j hj => (HO2.out.low j hj).1)⟩
        rw [HMN.out]
        exact ⟨_, _, HM2.out.keptE HO2.out hg7⟩
      case measure => simp [intOf]; omega
    · have HF := Lib.hid (show (txts ss).take k = txts ss from List.take_of_length_le (by simp [txts]; omega))
      go_wp2
      go_ret
      exact ⟨⟨_, rfl, by rw [show allTold mux0 (txts ss) = allTold mux0 ((txts ss).take k) by rw [HF.out]]; exact HO.out⟩, HB.out⟩
end Go.Proofs.Ytplaagkcamjemaa
