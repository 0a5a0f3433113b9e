/- FnHdlcFeed: the same comes, in whatever pieces bits come, at whatever is drawn from whatever bytes. No condition. -/
import Derived.Test.YtekhakapmpdnaaaDrawFeed
import Derived.Test.YtekhakapmpdnaaaHdlcT
import Derived.Test.YtekhakapmpdnaaaHdlcR
import Derived.Test.YtekhakapmpdnaaaHdlcU
import Derived.Deep.RegionHeld3
import Derived.Deep.DeepCutAuto
namespace Go.Proofs.Ytekhakapmpdnaaa.fnHdlcFeed
open Go.ChangeShapes Go.WideShapes Go.ChangeAt Go.RowKit
set_option linter.unusedVariables false
/-- the three boxes, read in a world in which nothing of W has turned -/
theorem keepS {W wx : World} {g6 g8 g10 : Nat} {a b c d e f : Value} (h6 : B3 W g6 a b c) (h8 : B3 W g8 d e f) (h10 : B3 W g10 d e f) (hb : Below W.heap.size W wx) :
    Below W.heap.size W wx ∧ (wx.cell? ⟨g6, 0, none⟩ = some a ∧ wx.cell? ⟨g6, 1, none⟩ = some b ∧ wx.cell? ⟨g6, 2, none⟩ = some c) ∧ (wx.cell? ⟨g8, 0, none⟩ = some d ∧ wx.cell? ⟨g8, 1, none⟩ = some e ∧ wx.cell? ⟨g8, 2, none⟩ = some f) ∧ (wx.cell? ⟨g10, 0, none⟩ = some d ∧ wx.cell? ⟨g10, 1, none⟩ = some e ∧ wx.cell? ⟨g10, 2, none⟩ = some f) :=
  ⟨hb, (h6.below hb).cells, (h8.below hb).cells, (h10.below hb).cells⟩
theorem OE_empty (w : World) : OE (w.alloc (.cells #[] 42)) w.heap.size (.slice (some ⟨w.heap.size, 0, none⟩) 0 0) [] :=
  ⟨by simp [evCs], .inr ⟨_, 0, #[], rfl, Nat.le_refl _, heap_alloc_new w _, by simp, by simp [maxLen], by simp, by simp [evCs]⟩⟩
set_option maxRecDepth 100000 in
set_option maxHeartbeats 8000000 in
theorem walk (a0 : Option Addr) (len0 cap0 : Nat) (z0 : List Int) (a1 : Option Addr) (len1 cap1 : Nat) (z1 : List Int) (w : World) (w0 : IsRow .u8 w a0 len0 cap0 z0) (w1 : IsRow .u8 w a1 len1 cap1 z1) :
    Calls Try.prog 4 #[.slice a0 len0 cap0, .slice a1 len1 cap1] w fun e w' => e = .returned (.bool true) ∧ Below w.heap.size w w' := by
  have hcap : len0 ≤ cap0 ∧ cap0 ≤ maxLen := by
    rcases w0 with ⟨_, h1, h2, _⟩ | ⟨x, _, h1, h2, _⟩
    · subst h1 h2; simp [maxLen]
    · exact ⟨h1, h2⟩
  have hcap1' : len1 ≤ cap1 ∧ cap1 ≤ maxLen := by
    rcases w1 with ⟨_, h1, h2, _⟩ | ⟨x, _, h1, h2, _⟩
    · subst h1 h2; simp [maxLen]
    · exact ⟨h1, h2⟩
  unfold maxLen at hcap hcap1'
  obtain ⟨hcap1, hcap2⟩ := hcap
  obtain ⟨hcap3, hcap4⟩ := hcap1'
  have HD := Lib.hid (drawFeed_any a0 len0 cap0 z0 w0)
  clear w0 w1
  by_cases hbig : 1048576 < len0
  · go_enter Try.func4, Try.ntmps4
    go_wp2
    go_ret
    exact ⟨rfl, Below.refl _ _⟩
  by_cases hbig1 : 1048576 < len1
  · go_enter Try.func4, Try.ntmps4
    go_wp2
    go_ret
    exact ⟨rfl, Below.refl _ _⟩
  go_enter Try.func4, Try.ntmps4
  go_wp2_with fail
  refine HD.out.mono ?_
  rintro e w1 ⟨kd, i, n, b, s, rfl, hb, hs, hb1⟩
  have hbm : b.size ≤ maxLen := by unfold maxLen; omega
  have hsm : s.size ≤ maxLen := by unfold maxLen; omega
  obtain ⟨hlen1, hlen2⟩ := feedA_len kd i n b.data.toList s.data.toList
  have hP : validB kd i n b.data.toList s.data.toList = true → hfeed kd ⟨i, n.toNat, b.data.toList⟩ s.data.toList = feedA kd i n b.data.toList s.data.toList := fun hv => by
    unfold feedA; rw [if_pos hv]
  have hvalid : validB kd i n b.data.toList s.data.toList = true → hokB (feedA kd i n b.data.toList s.data.toList).1 = true := fun hv => by
    unfold feedA; rw [if_pos hv]; exact hfeed_ok kd _ _ (okH_hok (valid_parts hv).2.1).2.2
  have HSp := Lib.hid (fun W => specFeed_any kd i n b s W hbm hsm)
  have HIm := Lib.hid (fun W => implFeed_any kd i n b s W hbm hsm)
  generalize feedA kd i n b.data.toList s.data.toList = p at *
  obtain ⟨⟨inn, m, bs⟩, evs⟩ := p
  simp only at hlen2 hvalid
  have HVal := Lib.hid hvalid
  have HB1 := Lib.hid hb1
  have HPP := Lib.hid hP
  clear hb1 hlen1 hvalid HD hP
  go_wp2_with fail
  refine (HIm.out _).mono ?_
  rintro e w2 ⟨⟨v2, rfl, hoe2⟩, hb2⟩
  have hB2 : B3 w2 w1.heap.size (.bool i) (.int .i64 n) (.string b) := (B3.new w1 _ _ _).below hb2
  have HBe2 := Lib.hid ((HB1.out.alloc HB1.out.size (.cells #[.bool i, .int .i64 n, .string b] 29)).trans (hb2.mono (by have := HB1.out.size; simp; omega)))
  have HO2 := Lib.hid hoe2
  obtain ⟨c0, c1, c2⟩ := (hB2.alloc (.cells #[.bool inn, .int .i64 m, .string ⟨bs.toArray⟩] 29)).cells
  have HB2 := Lib.hid hB2
  clear hB2 hb2 hoe2
  rw [hV]
  obtain ⟨T, hT⟩ : ∃ T : ByteArray, T = ⟨bs.toArray⟩ := ⟨_, rfl⟩
  simp only [← hT] at c0 c1 c2 ⊢
  have HTT := Lib.hid hT
  clear hT
  go_wp2_with fail
  refine (HSp.out _).mono ?_
  rintro e w3 ⟨⟨v3, rfl, hoe3⟩, hb3⟩
  have hB3 : B3 w3 w2.heap.size (.bool inn) (.int .i64 m) (.string T) := (B3.new w2 _ _ _).below hb3
  have hbe3 : Below w2.heap.size w2 w3 := ((Below.refl _ w2).alloc (Nat.le_refl _) _).trans (hb3.mono (by simp))
  have HBe3 := Lib.hid (HBe2.out.trans (hbe3.mono HBe2.out.size))
  have HO3 := Lib.hid (OE.below HO2.out hbe3)
  have HO4 := Lib.hid hoe3
  have hal : Below w3.heap.size w3 (w3.alloc (.cells #[.bool inn, .int .i64 m, .string T] 29)) := (Below.refl _ _).alloc (Nat.le_refl _) _
  obtain ⟨d0, d1, d2⟩ := (hB3.below hal).cells
  have HBe4 := Lib.hid (HBe3.out.trans (hal.mono HBe3.out.size))
  have HO5 := Lib.hid (OE.below HO3.out hal)
  have HO6 := Lib.hid (OE.below HO4.out hal)
  have HB3 := Lib.hid (hB3.below hal)
  have HBh := Lib.hid ((HB2.out.below hbe3).below hal)
  clear hB3 hb3 hbe3 hoe3 hal c0 c1 c2 HB2 HBe2 HO2 HBe3 HO3 HO4
  rw [hV]
  simp only [← HTT.out]
  have HW8 := Lib.hid (B3.new w3 (.bool inn) (.int .i64 m) (.string T))
  go_wp2_with fail
  clear d0 d1 d2
  generalize (w3.alloc (.cells #[.bool inn, .int .i64 m, .string T] 29)) = W at *
  generalize w3.heap.size = g10 at *
  generalize w2.heap.size = g8 at *
  generalize w1.heap.size = g6 at *
  obtain ⟨av, cv, hv2⟩ := HO5.out.reads.shape
  subst hv2
  have HCt := Lib.hid (fun wx (hb : Below W.heap.size W wx) => ctEvents_same _ v3 evs wx _ _ _ _ (HO5.out.reads.below hb) (HO6.out.reads.below hb) hb.size hb.size (by omega))
  have q1 := hd_neq inn m T
  have q2 := guard_hd
  have q3 := hd_eq 9998 inn m T
  have q4 := hd_eql inn m T
  have hbc : Below W.heap.size W W.drew := (Below.refl _ _).drew
  have hS := keepS HBh.out HB3.out HW8.out hbc
  have HI1 := Lib.hid (fun wx => implHok_any i n b wx hbm)
  have HI2 := Lib.hid (fun wx => specHok_any i n b wx hbm)
  have HI3 := Lib.hid (fun wx => implOk_any s wx hsm)
  cases ho : okH i n b.data.toList with
  | false =>
    rw [ho] at HI1 HI2
    clear ho
    have HI4 := Lib.hid trivial
    go_cut [75] (fun s75 wx => s75 = .bool true ∧ Below W.heap.size W wx)
    case first =>
      refine wp_region_held_drew (S := (fun wx => Below W.heap.size W wx ∧ (wx.cell? ⟨g6, 0, none⟩ = some (.bool i) ∧ wx.cell? ⟨g6, 1, none⟩ = some (.int .i64 n) ∧ wx.cell? ⟨g6, 2, none⟩ = some (.string b)) ∧ (wx.cell? ⟨g8, 0, none⟩ = some (.bool inn) ∧ wx.cell? ⟨g8, 1, none⟩ = some (.int .i64 m) ∧ wx.cell? ⟨g8, 2, none⟩ = some (.string T)) ∧ (wx.cell? ⟨g10, 0, none⟩ = some (.bool inn) ∧ wx.cell? ⟨g10, 1, none⟩ = some (.int .i64 m) ∧ wx.cell? ⟨g10, 2, none⟩ = some (.string T)))) (by kernel_rfl) hS (fun hHeld => ?_)
      refine wpAnyH_take (i := 0) (v := ?_) rfl (by kernel_rfl) (by kernel_rfl) (by kernel_rfl) (fun _ _ _ h => h) (Or.inl ⟨by rfl, ?_⟩) (by assumption) ?_
      rotate_left
      · intro wq hSw
        (try dsimp only at hSw)
        (try simp only [List.getElem_toArray, List.getElem_cons_zero])
        go_simp
        (try with_reducible rfl)
      simp only [Act.put, List.getElem_toArray, List.getElem_cons_zero, List.setIfInBounds_toArray, List.set_cons_zero, List.set_cons_succ]
      refine wpAnyH_take (i := 1) (v := ?_) rfl (by kernel_rfl) (by kernel_rfl) (by kernel_rfl) (fun _ _ _ h => h) (Or.inl ⟨by rfl, ?_⟩) (by assumption) ?_
      rotate_left
      · intro wq hSw
        (try dsimp only at hSw)
        (try simp only [List.getElem_toArray, List.getElem_cons_succ, List.getElem_cons_zero])
        go_simp
        (try with_reducible rfl)
      simp only [Act.put, List.getElem_toArray, List.getElem_cons_succ, List.getElem_cons_zero, List.setIfInBounds_toArray, List.set_cons_zero, List.set_cons_succ]
      refine wpAnyH_take (i := 2) (v := ?_) rfl (by kernel_rfl) (by kernel_rfl) (by kernel_rfl) (fun _ _ _ h => h) (Or.inl ⟨by rfl, ?_⟩) (by assumption) ?_
      rotate_left
      · intro wq hSw
        (try dsimp only at hSw)
        (try simp only [List.getElem_toArray, List.getElem_cons_succ, List.getElem_cons_zero])
        go_simp
        (try with_reducible rfl)
      simp only [Act.put, List.getElem_toArray, List.getElem_cons_succ, List.getElem_cons_zero, List.setIfInBounds_toArray, List.set_cons_zero, List.set_cons_succ]
      refine wpAnyH_take (i := 3) (v := ?_) rfl (by kernel_rfl) (by kernel_rfl) (by kernel_rfl) (fun _ _ _ h => h) (Or.inl ⟨by rfl, ?_⟩) (by assumption) ?_
      rotate_left
      · intro wq hSw
        (try dsimp only at hSw)
        (try simp only [List.getElem_toArray, List.getElem_cons_succ, List.getElem_cons_zero])
        go_simp
        (try with_reducible rfl)
      simp only [Act.put, List.getElem_toArray, List.getElem_cons_succ, List.getElem_cons_zero, List.setIfInBounds_toArray, List.set_cons_zero, List.set_cons_succ]
      refine wpAnyH_take (i := 4) (v := ?_) rfl (by kernel_rfl) (by kernel_rfl) (by kernel_rfl) (fun _ _ _ h => h) (Or.inl ⟨by rfl, ?_⟩) (by assumption) ?_
      rotate_left
      · intro wq hSw
        (try dsimp only at hSw)
        (try simp only [List.getElem_toArray, List.getElem_cons_succ, List.getElem_cons_zero])
        go_simp
        (try with_reducible rfl)
      simp only [Act.put, List.getElem_toArray, List.getElem_cons_succ, List.getElem_cons_zero, List.setIfInBounds_toArray, List.set_cons_zero, List.set_cons_succ]
      refine wpAnyH_take (i := 5) (v := ?_) rfl (by kernel_rfl) (by kernel_rfl) (by kernel_rfl) (fun _ _ _ h => h) (Or.inl ⟨by rfl, ?_⟩) (by assumption) ?_
      rotate_left
      · intro wq hSw
        (try dsimp only at hSw)
        (try simp only [List.getElem_toArray, List.getElem_cons_succ, List.getElem_cons_zero])
        go_simp
        (try with_reducible rfl)
      simp only [Act.put, List.getElem_toArray, List.getElem_cons_succ, List.getElem_cons_zero, List.setIfInBounds_toArray, List.set_cons_zero, List.set_cons_succ]
      refine wpAnyH_ready (rs := [6]) (by kernel_rfl) (by simp) ?_
      refine AllReadyH.cons rfl (fun K hK => ?_) AllReadyH.nil
      (try simp only [List.getElem_toArray, List.getElem_cons_succ, List.getElem_cons_zero])
      go_simp
      go_at_call 18
      refine (HCt.out _ hbc).mono ?_
      rintro e wx6 ⟨rfl, hbx⟩
      have hbc := hbc.trans (hbx.mono hbc.size)
      have hS := keepS HBh.out HB3.out HW8.out hbc
      clear hbx
      refine hK.out _ _ hS (fun hHeld => ?_)
      clear hK K
      refine wpAnyH_take (i := 7) (v := ?_) rfl (by kernel_rfl) (by kernel_rfl) (by kernel_rfl) (fun _ _ _ h => h) (Or.inl ⟨by rfl, ?_⟩) (by assumption) ?_
      rotate_left
      · intro wq hSw
        (try dsimp only at hSw)
        (try simp only [List.getElem_toArray, List.getElem_cons_succ, List.getElem_cons_zero])
        go_simp
        (try with_reducible rfl)
      simp only [Act.put, List.getElem_toArray, List.getElem_cons_succ, List.getElem_cons_zero, List.setIfInBounds_toArray, List.set_cons_zero, List.set_cons_succ]
      refine wpAnyH_take (i := 8) (v := ?_) rfl (by kernel_rfl) (by kernel_rfl) (by kernel_rfl) (fun _ _ _ h => h) (Or.inl ⟨by rfl, ?_⟩) (by assumption) ?_
      rotate_left
      · intro wq hSw
        (try dsimp only at hSw)
        (try simp only [List.getElem_toArray, List.getElem_cons_succ, List.getElem_cons_zero])
        go_simp
        (try with_reducible rfl)
      simp only [Act.put, List.getElem_toArray, List.getElem_cons_succ, List.getElem_cons_zero, List.setIfInBounds_toArray, List.set_cons_zero, List.set_cons_succ]
      refine wpAnyH_take (i := 9) (v := ?_) rfl (by kernel_rfl) (by kernel_rfl) (by kernel_rfl) (fun _ _ _ h => h) (Or.inl ⟨by rfl, ?_⟩) (by assumption) ?_
      rotate_left
      · intro wq hSw
        (try dsimp only at hSw)
        (try simp only [List.getElem_toArray, List.getElem_cons_succ, List.getElem_cons_zero])
        go_simp
        (try with_reducible rfl)
      simp only [Act.put, List.getElem_toArray, List.getElem_cons_succ, List.getElem_cons_zero, List.setIfInBounds_toArray, List.set_cons_zero, List.set_cons_succ]
      refine wpAnyH_take (i := 10) (v := ?_) rfl (by kernel_rfl) (by kernel_rfl) (by kernel_rfl) (fun _ _ _ h => h) (Or.inl ⟨by rfl, ?_⟩) (by assumption) ?_
      rotate_left
      · intro wq hSw
        (try dsimp only at hSw)
        (try simp only [List.getElem_toArray, List.getElem_cons_succ, List.getElem_cons_zero])
        go_simp
        (try with_reducible rfl)
      simp only [Act.put, List.getElem_toArray, List.getElem_cons_succ, List.getElem_cons_zero, List.setIfInBounds_toArray, List.set_cons_zero, List.set_cons_succ]
      refine wpAnyH_take (i := 12) (v := ?_) rfl (by kernel_rfl) (by kernel_rfl) (by kernel_rfl) (fun _ _ _ h => h) (Or.inl ⟨by rfl, ?_⟩) (by assumption) ?_
      rotate_left
      · intro wq hSw
        (try dsimp only at hSw)
        (try simp only [List.getElem_toArray, List.getElem_cons_succ, List.getElem_cons_zero])
        go_simp
        (try with_reducible rfl)
      simp only [Act.put, List.getElem_toArray, List.getElem_cons_succ, List.getElem_cons_zero, List.setIfInBounds_toArray, List.set_cons_zero, List.set_cons_succ]
      refine wpAnyH_ready (rs := [11]) (by kernel_rfl) (by simp) ?_
      refine AllReadyH.cons rfl (fun K hK => ?_) AllReadyH.nil
      (try simp only [List.getElem_toArray, List.getElem_cons_succ, List.getElem_cons_zero])
      go_simp
      go_at_call 19
      refine (HI1.out _).mono ?_
      rintro e wx11 ⟨rfl, hbx⟩
      have hbc := hbc.trans (hbx.mono hbc.size)
      have hS := keepS HBh.out HB3.out HW8.out hbc
      clear hbx
      refine hK.out _ _ hS (fun hHeld => ?_)
      clear hK K
      refine wpAnyH_ready (rs := [13]) (by kernel_rfl) (by simp) ?_
      refine AllReadyH.cons rfl (fun K hK => ?_) AllReadyH.nil
      (try simp only [List.getElem_toArray, List.getElem_cons_succ, List.getElem_cons_zero])
      go_simp
      go_at_call 20
      refine (HI2.out _).mono ?_
      rintro e wx13 ⟨rfl, hbx⟩
      have hbc := hbc.trans (hbx.mono hbc.size)
      have hS := keepS HBh.out HB3.out HW8.out hbc
      clear hbx
      refine hK.out _ _ hS (fun hHeld => ?_)
      clear hK K
      refine wpAnyH_take (i := 14) (v := ?_) rfl (by kernel_rfl) (by kernel_rfl) (by kernel_rfl) (fun _ _ _ h => h) (Or.inl ⟨by rfl, ?_⟩) (by assumption) ?_
      rotate_left
      · intro wq hSw
        (try dsimp only at hSw)
        (try simp only [List.getElem_toArray, List.getElem_cons_succ, List.getElem_cons_zero])
        go_simp
        (try with_reducible rfl)
      simp only [Act.put, List.getElem_toArray, List.getElem_cons_succ, List.getElem_cons_zero, List.setIfInBounds_toArray, List.set_cons_zero, List.set_cons_succ]
      refine wpAnyH_take (i := 15) (v := ?_) rfl (by kernel_rfl) (by kernel_rfl) (by kernel_rfl) (fun _ _ _ h => h) (Or.inl ⟨by rfl, ?_⟩) (by assumption) ?_
      rotate_left
      · intro wq hSw
        (try dsimp only at hSw)
        (try simp only [List.getElem_toArray, List.getElem_cons_succ, List.getElem_cons_zero])
        go_simp
        (try with_reducible rfl)
      simp only [Act.put, List.getElem_toArray, List.getElem_cons_succ, List.getElem_cons_zero, List.setIfInBounds_toArray, List.set_cons_zero, List.set_cons_succ]
      refine wpAnyH_take (i := 16) (v := ?_) rfl (by kernel_rfl) (by kernel_rfl) (by kernel_rfl) (fun _ _ _ h => h) (Or.inl ⟨by rfl, ?_⟩) (by assumption) ?_
      rotate_left
      · intro wq hSw
        (try dsimp only at hSw)
        (try simp only [List.getElem_toArray, List.getElem_cons_succ, List.getElem_cons_zero])
        go_simp
        (try with_reducible rfl)
      simp only [Act.put, List.getElem_toArray, List.getElem_cons_succ, List.getElem_cons_zero, List.setIfInBounds_toArray, List.set_cons_zero, List.set_cons_succ]
      refine wpAnyH_take (i := 17) (v := ?_) rfl (by kernel_rfl) (by kernel_rfl) (by kernel_rfl) (fun _ _ _ h => h) (Or.inl ⟨by rfl, ?_⟩) (by assumption) ?_
      rotate_left
      · intro wq hSw
        (try dsimp only at hSw)
        (try simp only [List.getElem_toArray, List.getElem_cons_succ, List.getElem_cons_zero])
        go_simp
        (try with_reducible rfl)
      simp only [Act.put, List.getElem_toArray, List.getElem_cons_succ, List.getElem_cons_zero, List.setIfInBounds_toArray, List.set_cons_zero, List.set_cons_succ]
      refine wpAnyH_ready (rs := [18]) (by kernel_rfl) (by simp) ?_
      refine AllReadyH.cons rfl (fun K hK => ?_) AllReadyH.nil
      (try simp only [List.getElem_toArray, List.getElem_cons_succ, List.getElem_cons_zero])
      go_simp
      go_at_call 19
      refine (HI1.out _).mono ?_
      rintro e wx18 ⟨rfl, hbx⟩
      have hbc := hbc.trans (hbx.mono hbc.size)
      have hS := keepS HBh.out HB3.out HW8.out hbc
      clear hbx
      refine hK.out _ _ hS (fun hHeld => ?_)
      clear hK K
      refine wpAnyH_take (i := 19) (v := ?_) rfl (by kernel_rfl) (by kernel_rfl) (by kernel_rfl) (fun _ _ _ h => h) (Or.inl ⟨by rfl, ?_⟩) (by assumption) ?_
      rotate_left
      · intro wq hSw
        (try dsimp only at hSw)
        (try simp only [List.getElem_toArray, List.getElem_cons_succ, List.getElem_cons_zero])
        go_simp
        (try with_reducible rfl)
      simp only [Act.put, List.getElem_toArray, List.getElem_cons_succ, List.getElem_cons_zero, List.setIfInBounds_toArray, List.set_cons_zero, List.set_cons_succ]
      refine wpAnyH_take (i := 20) (v := ?_) rfl (by kernel_rfl) (by kernel_rfl) (by kernel_rfl) (fun _ _ _ h => h) (Or.inl ⟨by rfl, ?_⟩) (by assumption) ?_
      rotate_left
      · intro wq hSw
        (try dsimp only at hSw)
        (try simp only [List.getElem_toArray, List.getElem_cons_succ, List.getElem_cons_zero])
        go_simp
        (try with_reducible rfl)
      simp only [Act.put, List.getElem_toArray, List.getElem_cons_succ, List.getElem_cons_zero, List.setIfInBounds_toArray, List.set_cons_zero, List.set_cons_succ]
      refine wpAnyH_take (i := 21) (v := ?_) rfl (by kernel_rfl) (by kernel_rfl) (by kernel_rfl) (fun _ _ _ h => h) (Or.inl ⟨by rfl, ?_⟩) (by assumption) ?_
      rotate_left
      · intro wq hSw
        (try dsimp only at hSw)
        (try simp only [List.getElem_toArray, List.getElem_cons_succ, List.getElem_cons_zero])
        go_simp
        (try with_reducible rfl)
      simp only [Act.put, List.getElem_toArray, List.getElem_cons_succ, List.getElem_cons_zero, List.setIfInBounds_toArray, List.set_cons_zero, List.set_cons_succ]
      refine wpAnyH_take (i := 22) (v := undef) rfl (by kernel_rfl) (by kernel_rfl) (by kernel_rfl) (fun _ _ _ h => h) (Or.inr ⟨by rfl, rfl⟩) (by assumption) ?_
      simp only [Act.put, List.getElem_toArray, List.getElem_cons_succ, List.getElem_cons_zero, List.setIfInBounds_toArray, List.set_cons_zero, List.set_cons_succ]
      refine wpAnyH_take (i := 23) (v := undef) rfl (by kernel_rfl) (by kernel_rfl) (by kernel_rfl) (fun _ _ _ h => h) (Or.inr ⟨by rfl, rfl⟩) (by assumption) ?_
      simp only [Act.put, List.getElem_toArray, List.getElem_cons_succ, List.getElem_cons_zero, List.setIfInBounds_toArray, List.set_cons_zero, List.set_cons_succ]
      refine wpAnyH_take (i := 24) (v := undef) rfl (by kernel_rfl) (by kernel_rfl) (by kernel_rfl) (fun _ _ _ h => h) (Or.inr ⟨by rfl, rfl⟩) (by assumption) ?_
      simp only [Act.put, List.getElem_toArray, List.getElem_cons_succ, List.getElem_cons_zero, List.setIfInBounds_toArray, List.set_cons_zero, List.set_cons_succ]
      refine wpAnyH_take (i := 25) (v := ?_) rfl (by kernel_rfl) (by kernel_rfl) (by kernel_rfl) (fun _ _ _ h => h) (Or.inl ⟨by rfl, ?_⟩) (by assumption) ?_
      rotate_left
      · intro wq hSw
        (try dsimp only at hSw)
        (try simp only [List.getElem_toArray, List.getElem_cons_succ, List.getElem_cons_zero])
        go_simp
        (try with_reducible rfl)
      simp only [Act.put, List.getElem_toArray, List.getElem_cons_succ, List.getElem_cons_zero, List.setIfInBounds_toArray, List.set_cons_zero, List.set_cons_succ]
      refine wpAnyH_take (i := 26) (v := ?_) rfl (by kernel_rfl) (by kernel_rfl) (by kernel_rfl) (fun _ _ _ h => h) (Or.inl ⟨by rfl, ?_⟩) (by assumption) ?_
      rotate_left
      · intro wq hSw
        (try dsimp only at hSw)
        (try simp only [List.getElem_toArray, List.getElem_cons_succ, List.getElem_cons_zero])
        go_simp
        (try with_reducible rfl)
      simp only [Act.put, List.getElem_toArray, List.getElem_cons_succ, List.getElem_cons_zero, List.setIfInBounds_toArray, List.set_cons_zero, List.set_cons_succ]
      refine wpAnyH_take (i := 27) (v := undef) rfl (by kernel_rfl) (by kernel_rfl) (by kernel_rfl) (fun _ _ _ h => h) (Or.inr ⟨by rfl, rfl⟩) (by assumption) ?_
      simp only [Act.put, List.getElem_toArray, List.getElem_cons_succ, List.getElem_cons_zero, List.setIfInBounds_toArray, List.set_cons_zero, List.set_cons_succ]
      refine wpAnyH_take (i := 28) (v := undef) rfl (by kernel_rfl) (by kernel_rfl) (by kernel_rfl) (fun _ _ _ h => h) (Or.inr ⟨by rfl, rfl⟩) (by assumption) ?_
      simp only [Act.put, List.getElem_toArray, List.getElem_cons_succ, List.getElem_cons_zero, List.setIfInBounds_toArray, List.set_cons_zero, List.set_cons_succ]
      refine wpAnyH_take (i := 29) (v := undef) rfl (by kernel_rfl) (by kernel_rfl) (by kernel_rfl) (fun _ _ _ h => h) (Or.inr ⟨by rfl, rfl⟩) (by assumption) ?_
      simp only [Act.put, List.getElem_toArray, List.getElem_cons_succ, List.getElem_cons_zero, List.setIfInBounds_toArray, List.set_cons_zero, List.set_cons_succ]
      refine wpAnyH_take (i := 30) (v := ?_) rfl (by kernel_rfl) (by kernel_rfl) (by kernel_rfl) (fun _ _ _ h => h) (Or.inl ⟨by rfl, ?_⟩) (by assumption) ?_
      rotate_left
      · intro wq hSw
        (try dsimp only at hSw)
        (try simp only [List.getElem_toArray, List.getElem_cons_succ, List.getElem_cons_zero])
        go_simp
        (try with_reducible rfl)
      simp only [Act.put, List.getElem_toArray, List.getElem_cons_succ, List.getElem_cons_zero, List.setIfInBounds_toArray, List.set_cons_zero, List.set_cons_succ]
      refine wpAnyH_done (by kernel_rfl) ?_ _
      all_goals
        go_wp2
        go_meet
        exact ⟨rfl, by assumption⟩
    case rest =>
      obtain ⟨rfl, hbd⟩ := hcut
      clear hbc hS
      have hbc : Below W.heap.size W wc.drew := hbd.drew
      have hS := keepS HBh.out HB3.out HW8.out hbc
      go_wp2_with fail
      (go_region_held3 (fun wx => Below W.heap.size W wx ∧ (wx.cell? ⟨g6, 0, none⟩ = some (.bool i) ∧ wx.cell? ⟨g6, 1, none⟩ = some (.int .i64 n) ∧ wx.cell? ⟨g6, 2, none⟩ = some (.string b)) ∧ (wx.cell? ⟨g8, 0, none⟩ = some (.bool inn) ∧ wx.cell? ⟨g8, 1, none⟩ = some (.int .i64 m) ∧ wx.cell? ⟨g8, 2, none⟩ = some (.string T)) ∧ (wx.cell? ⟨g10, 0, none⟩ = some (.bool inn) ∧ wx.cell? ⟨g10, 1, none⟩ = some (.int .i64 m) ∧ wx.cell? ⟨g10, 2, none⟩ = some (.string T))) (first | assumption | exact hS) (first | (go_at_call 18; refine (HCt.out _ hbc).mono ?_; rintro e wx ⟨rfl, hbx⟩; have hbc := hbc.trans (hbx.mono hbc.size); have hS := keepS HBh.out HB3.out HW8.out hbc; clear hbx) | (go_at_call 19; refine (HI1.out _).mono ?_; rintro e wx ⟨rfl, hbx⟩; have hbc := hbc.trans (hbx.mono hbc.size); have hS := keepS HBh.out HB3.out HW8.out hbc; clear hbx) | (go_at_call 20; refine (HI2.out _).mono ?_; rintro e wx ⟨rfl, hbx⟩; have hbc := hbc.trans (hbx.mono hbc.size); have hS := keepS HBh.out HB3.out HW8.out hbc; clear hbx) | (go_at_call 13; refine (HI3.out _).mono ?_; rintro e w' ⟨rfl, rfl⟩) | (go_at_call 21; refine (HI4.out _).mono ?_; rintro e w' ⟨rfl, rfl⟩)))
      all_goals
        go_wp2
        go_ret
        exact ⟨rfl, HBe4.out.trans (Below.mono (by assumption) HBe4.out.size)⟩
  | true =>
    rw [ho] at HI1 HI2
    have HO := Lib.hid ho
    clear ho
    cases hs2 : okB s.data.toList with
    | false =>
      rw [hs2] at HI3
      clear hs2
      have HI4 := Lib.hid trivial
      go_cut [75] (fun s75 wx => s75 = .bool true ∧ Below W.heap.size W wx)
      case first =>
        refine wp_region_held_drew (S := (fun wx => Below W.heap.size W wx ∧ (wx.cell? ⟨g6, 0, none⟩ = some (.bool i) ∧ wx.cell? ⟨g6, 1, none⟩ = some (.int .i64 n) ∧ wx.cell? ⟨g6, 2, none⟩ = some (.string b)) ∧ (wx.cell? ⟨g8, 0, none⟩ = some (.bool inn) ∧ wx.cell? ⟨g8, 1, none⟩ = some (.int .i64 m) ∧ wx.cell? ⟨g8, 2, none⟩ = some (.string T)) ∧ (wx.cell? ⟨g10, 0, none⟩ = some (.bool inn) ∧ wx.cell? ⟨g10, 1, none⟩ = some (.int .i64 m) ∧ wx.cell? ⟨g10, 2, none⟩ = some (.string T)))) (by kernel_rfl) hS (fun hHeld => ?_)
        refine wpAnyH_take (i := 0) (v := ?_) rfl (by kernel_rfl) (by kernel_rfl) (by kernel_rfl) (fun _ _ _ h => h) (Or.inl ⟨by rfl, ?_⟩) (by assumption) ?_
        rotate_left
        · intro wq hSw
          (try dsimp only at hSw)
          (try simp only [List.getElem_toArray, List.getElem_cons_zero])
          go_simp
          (try with_reducible rfl)
        simp only [Act.put, List.getElem_toArray, List.getElem_cons_zero, List.setIfInBounds_toArray, List.set_cons_zero, List.set_cons_succ]
        refine wpAnyH_take (i := 1) (v := ?_) rfl (by kernel_rfl) (by kernel_rfl) (by kernel_rfl) (fun _ _ _ h => h) (Or.inl ⟨by rfl, ?_⟩) (by assumption) ?_
        rotate_left
        · intro wq hSw
          (try dsimp only at hSw)
          (try simp only [List.getElem_toArray, List.getElem_cons_succ, List.getElem_cons_zero])
          go_simp
          (try with_reducible rfl)
        simp only [Act.put, List.getElem_toArray, List.getElem_cons_succ, List.getElem_cons_zero, List.setIfInBounds_toArray, List.set_cons_zero, List.set_cons_succ]
        refine wpAnyH_take (i := 2) (v := ?_) rfl (by kernel_rfl) (by kernel_rfl) (by kernel_rfl) (fun _ _ _ h => h) (Or.inl ⟨by rfl, ?_⟩) (by assumption) ?_
        rotate_left
        · intro wq hSw
          (try dsimp only at hSw)
          (try simp only [List.getElem_toArray, List.getElem_cons_succ, List.getElem_cons_zero])
          go_simp
          (try with_reducible rfl)
        simp only [Act.put, List.getElem_toArray, List.getElem_cons_succ, List.getElem_cons_zero, List.setIfInBounds_toArray, List.set_cons_zero, List.set_cons_succ]
        refine wpAnyH_take (i := 3) (v := ?_) rfl (by kernel_rfl) (by kernel_rfl) (by kernel_rfl) (fun _ _ _ h => h) (Or.inl ⟨by rfl, ?_⟩) (by assumption) ?_
        rotate_left
        · intro wq hSw
          (try dsimp only at hSw)
          (try simp only [List.getElem_toArray, List.getElem_cons_succ, List.getElem_cons_zero])
          go_simp
          (try with_reducible rfl)
        simp only [Act.put, List.getElem_toArray, List.getElem_cons_succ, List.getElem_cons_zero, List.setIfInBounds_toArray, List.set_cons_zero, List.set_cons_succ]
        refine wpAnyH_take (i := 4) (v := ?_) rfl (by kernel_rfl) (by kernel_rfl) (by kernel_rfl) (fun _ _ _ h => h) (Or.inl ⟨by rfl, ?_⟩) (by assumption) ?_
        rotate_left
        · intro wq hSw
          (try dsimp only at hSw)
          (try simp only [List.getElem_toArray, List.getElem_cons_succ, List.getElem_cons_zero])
          go_simp
          (try with_reducible rfl)
        simp only [Act.put, List.getElem_toArray, List.getElem_cons_succ, List.getElem_cons_zero, List.setIfInBounds_toArray, List.set_cons_zero, List.set_cons_succ]
        refine wpAnyH_take (i := 5) (v := ?_) rfl (by kernel_rfl) (by kernel_rfl) (by kernel_rfl) (fun _ _ _ h => h) (Or.inl ⟨by rfl, ?_⟩) (by assumption) ?_
        rotate_left
        · intro wq hSw
          (try dsimp only at hSw)
          (try simp only [List.getElem_toArray, List.getElem_cons_succ, List.getElem_cons_zero])
          go_simp
          (try with_reducible rfl)
        simp only [Act.put, List.getElem_toArray, List.getElem_cons_succ, List.getElem_cons_zero, List.setIfInBounds_toArray, List.set_cons_zero, List.set_cons_succ]
        refine wpAnyH_ready (rs := [6]) (by kernel_rfl) (by simp) ?_
        refine AllReadyH.cons rfl (fun K hK => ?_) AllReadyH.nil
        (try simp only [List.getElem_toArray, List.getElem_cons_succ, List.getElem_cons_zero])
        go_simp
        go_at_call 18
        refine (HCt.out _ hbc).mono ?_
        rintro e wx6 ⟨rfl, hbx⟩
        have hbc := hbc.trans (hbx.mono hbc.size)
        have hS := keepS HBh.out HB3.out HW8.out hbc
        clear hbx
        refine hK.out _ _ hS (fun hHeld => ?_)
        clear hK K
        refine wpAnyH_take (i := 7) (v := ?_) rfl (by kernel_rfl) (by kernel_rfl) (by kernel_rfl) (fun _ _ _ h => h) (Or.inl ⟨by rfl, ?_⟩) (by assumption) ?_
        rotate_left
        · intro wq hSw
          (try dsimp only at hSw)
          (try simp only [List.getElem_toArray, List.getElem_cons_succ, List.getElem_cons_zero])
          go_simp
          (try with_reducible rfl)
        simp only [Act.put, List.getElem_toArray, List.getElem_cons_succ, List.getElem_cons_zero, List.setIfInBounds_toArray, List.set_cons_zero, List.set_cons_succ]
        refine wpAnyH_take (i := 8) (v := ?_) rfl (by kernel_rfl) (by kernel_rfl) (by kernel_rfl) (fun _ _ _ h => h) (Or.inl ⟨by rfl, ?_⟩) (by assumption) ?_
        rotate_left
        · intro wq hSw
          (try dsimp only at hSw)
          (try simp only [List.getElem_toArray, List.getElem_cons_succ, List.getElem_cons_zero])
          go_simp
          (try with_reducible rfl)
        simp only [Act.put, List.getElem_toArray, List.getElem_cons_succ, List.getElem_cons_zero, List.setIfInBounds_toArray, List.set_cons_zero, List.set_cons_succ]
        refine wpAnyH_take (i := 9) (v := ?_) rfl (by kernel_rfl) (by kernel_rfl) (by kernel_rfl) (fun _ _ _ h => h) (Or.inl ⟨by rfl, ?_⟩) (by assumption) ?_
        rotate_left
        · intro wq hSw
          (try dsimp only at hSw)
          (try simp only [List.getElem_toArray, List.getElem_cons_succ, List.getElem_cons_zero])
          go_simp
          (try with_reducible rfl)
        simp only [Act.put, List.getElem_toArray, List.getElem_cons_succ, List.getElem_cons_zero, List.setIfInBounds_toArray, List.set_cons_zero, List.set_cons_succ]
        refine wpAnyH_take (i := 10) (v := ?_) rfl (by kernel_rfl) (by kernel_rfl) (by kernel_rfl) (fun _ _ _ h => h) (Or.inl ⟨by rfl, ?_⟩) (by assumption) ?_
        rotate_left
        · intro wq hSw
          (try dsimp only at hSw)
          (try simp only [List.getElem_toArray, List.getElem_cons_succ, List.getElem_cons_zero])
          go_simp
          (try with_reducible rfl)
        simp only [Act.put, List.getElem_toArray, List.getElem_cons_succ, List.getElem_cons_zero, List.setIfInBounds_toArray, List.set_cons_zero, List.set_cons_succ]
        refine wpAnyH_take (i := 12) (v := ?_) rfl (by kernel_rfl) (by kernel_rfl) (by kernel_rfl) (fun _ _ _ h => h) (Or.inl ⟨by rfl, ?_⟩) (by assumption) ?_
        rotate_left
        · intro wq hSw
          (try dsimp only at hSw)
          (try simp only [List.getElem_toArray, List.getElem_cons_succ, List.getElem_cons_zero])
          go_simp
          (try with_reducible rfl)
        simp only [Act.put, List.getElem_toArray, List.getElem_cons_succ, List.getElem_cons_zero, List.setIfInBounds_toArray, List.set_cons_zero, List.set_cons_succ]
        refine wpAnyH_ready (rs := [11]) (by kernel_rfl) (by simp) ?_
        refine AllReadyH.cons rfl (fun K hK => ?_) AllReadyH.nil
        (try simp only [List.getElem_toArray, List.getElem_cons_succ, List.getElem_cons_zero])
        go_simp
        go_at_call 19
        refine (HI1.out _).mono ?_
        rintro e wx11 ⟨rfl, hbx⟩
        have hbc := hbc.trans (hbx.mono hbc.size)
        have hS := keepS HBh.out HB3.out HW8.out hbc
        clear hbx
        refine hK.out _ _ hS (fun hHeld => ?_)
        clear hK K
        refine wpAnyH_ready (rs := [13]) (by kernel_rfl) (by simp) ?_
        refine AllReadyH.cons rfl (fun K hK => ?_) AllReadyH.nil
        (try simp only [List.getElem_toArray, List.getElem_cons_succ, List.getElem_cons_zero])
        go_simp
        go_at_call 20
        refine (HI2.out _).mono ?_
        rintro e wx13 ⟨rfl, hbx⟩
        have hbc := hbc.trans (hbx.mono hbc.size)
        have hS := keepS HBh.out HB3.out HW8.out hbc
        clear hbx
        refine hK.out _ _ hS (fun hHeld => ?_)
        clear hK K
        refine wpAnyH_take (i := 14) (v := ?_) rfl (by kernel_rfl) (by kernel_rfl) (by kernel_rfl) (fun _ _ _ h => h) (Or.inl ⟨by rfl, ?_⟩) (by assumption) ?_
        rotate_left
        · intro wq hSw
          (try dsimp only at hSw)
          (try simp only [List.getElem_toArray, List.getElem_cons_succ, List.getElem_cons_zero])
          go_simp
          (try with_reducible rfl)
        simp only [Act.put, List.getElem_toArray, List.getElem_cons_succ, List.getElem_cons_zero, List.setIfInBounds_toArray, List.set_cons_zero, List.set_cons_succ]
        refine wpAnyH_take (i := 15) (v := ?_) rfl (by kernel_rfl) (by kernel_rfl) (by kernel_rfl) (fun _ _ _ h => h) (Or.inl ⟨by rfl, ?_⟩) (by assumption) ?_
        rotate_left
        · intro wq hSw
          (try dsimp only at hSw)
          (try simp only [List.getElem_toArray, List.getElem_cons_succ, List.getElem_cons_zero])
          go_simp
          (try with_reducible rfl)
        simp only [Act.put, List.getElem_toArray, List.getElem_cons_succ, List.getElem_cons_zero, List.setIfInBounds_toArray, List.set_cons_zero, List.set_cons_succ]
        refine wpAnyH_take (i := 16) (v := ?_) rfl (by kernel_rfl) (by kernel_rfl) (by kernel_rfl) (fun _ _ _ h => h) (Or.inl ⟨by rfl, ?_⟩) (by assumption) ?_
        rotate_left
        · intro wq hSw
          (try dsimp only at hSw)
          (try simp only [List.getElem_toArray, List.getElem_cons_succ, List.getElem_cons_zero])
          go_simp
          (try with_reducible rfl)
        simp only [Act.put, List.getElem_toArray, List.getElem_cons_succ, List.getElem_cons_zero, List.setIfInBounds_toArray, List.set_cons_zero, List.set_cons_succ]
        refine wpAnyH_take (i := 17) (v := ?_) rfl (by kernel_rfl) (by kernel_rfl) (by kernel_rfl) (fun _ _ _ h => h) (Or.inl ⟨by rfl, ?_⟩) (by assumption) ?_
        rotate_left
        · intro wq hSw
          (try dsimp only at hSw)
          (try simp only [List.getElem_toArray, List.getElem_cons_succ, List.getElem_cons_zero])
          go_simp
          (try with_reducible rfl)
        simp only [Act.put, List.getElem_toArray, List.getElem_cons_succ, List.getElem_cons_zero, List.setIfInBounds_toArray, List.set_cons_zero, List.set_cons_succ]
        refine wpAnyH_ready (rs := [18]) (by kernel_rfl) (by simp) ?_
        refine AllReadyH.cons rfl (fun K hK => ?_) AllReadyH.nil
        (try simp only [List.getElem_toArray, List.getElem_cons_succ, List.getElem_cons_zero])
        go_simp
        go_at_call 19
        refine (HI1.out _).mono ?_
        rintro e wx18 ⟨rfl, hbx⟩
        have hbc := hbc.trans (hbx.mono hbc.size)
        have hS := keepS HBh.out HB3.out HW8.out hbc
        clear hbx
        refine hK.out _ _ hS (fun hHeld => ?_)
        clear hK K
        refine wpAnyH_take (i := 19) (v := ?_) rfl (by kernel_rfl) (by kernel_rfl) (by kernel_rfl) (fun _ _ _ h => h) (Or.inl ⟨by rfl, ?_⟩) (by assumption) ?_
        rotate_left
        · intro wq hSw
          (try dsimp only at hSw)
          (try simp only [List.getElem_toArray, List.getElem_cons_succ, List.getElem_cons_zero])
          go_simp
          (try with_reducible rfl)
        simp only [Act.put, List.getElem_toArray, List.getElem_cons_succ, List.getElem_cons_zero, List.setIfInBounds_toArray, List.set_cons_zero, List.set_cons_succ]
        refine wpAnyH_take (i := 20) (v := ?_) rfl (by kernel_rfl) (by kernel_rfl) (by kernel_rfl) (fun _ _ _ h => h) (Or.inl ⟨by rfl, ?_⟩) (by assumption) ?_
        rotate_left
        · intro wq hSw
          (try dsimp only at hSw)
          (try simp only [List.getElem_toArray, List.getElem_cons_succ, List.getElem_cons_zero])
          go_simp
          (try with_reducible rfl)
        simp only [Act.put, List.getElem_toArray, List.getElem_cons_succ, List.getElem_cons_zero, List.setIfInBounds_toArray, List.set_cons_zero, List.set_cons_succ]
        refine wpAnyH_take (i := 21) (v := ?_) rfl (by kernel_rfl) (by kernel_rfl) (by kernel_rfl) (fun _ _ _ h => h) (Or.inl ⟨by rfl, ?_⟩) (by assumption) ?_
        rotate_left
        · intro wq hSw
          (try dsimp only at hSw)
          (try simp only [List.getElem_toArray, List.getElem_cons_succ, List.getElem_cons_zero])
          go_simp
          (try with_reducible rfl)
        simp only [Act.put, List.getElem_toArray, List.getElem_cons_succ, List.getElem_cons_zero, List.setIfInBounds_toArray, List.set_cons_zero, List.set_cons_succ]
        refine wpAnyH_take (i := 22) (v := ?_) rfl (by kernel_rfl) (by kernel_rfl) (by kernel_rfl) (fun _ _ _ h => h) (Or.inl ⟨by rfl, ?_⟩) (by assumption) ?_
        rotate_left
        · intro wq hSw
          (try dsimp only at hSw)
          (try simp only [List.getElem_toArray, List.getElem_cons_succ, List.getElem_cons_zero])
          go_simp
          (try with_reducible rfl)
        simp only [Act.put, List.getElem_toArray, List.getElem_cons_succ, List.getElem_cons_zero, List.setIfInBounds_toArray, List.set_cons_zero, List.set_cons_succ]
        refine wpAnyH_ready (rs := [23]) (by kernel_rfl) (by simp) ?_
        refine AllReadyH.cons rfl (fun K hK => ?_) AllReadyH.nil
        (try simp only [List.getElem_toArray, List.getElem_cons_succ, List.getElem_cons_zero])
        go_simp
        go_at_call 13
        refine (HI3.out _).mono ?_
        rintro e w' ⟨rfl, rfl⟩
        refine hK.out _ _ hS (fun hHeld => ?_)
        clear hK K
        refine wpAnyH_take (i := 24) (v := ?_) rfl (by kernel_rfl) (by kernel_rfl) (by kernel_rfl) (fun _ _ _ h => h) (Or.inl ⟨by rfl, ?_⟩) (by assumption) ?_
        rotate_left
        · intro wq hSw
          (try dsimp only at hSw)
          (try simp only [List.getElem_toArray, List.getElem_cons_succ, List.getElem_cons_zero])
          go_simp
          (try with_reducible rfl)
        simp only [Act.put, List.getElem_toArray, List.getElem_cons_succ, List.getElem_cons_zero, List.setIfInBounds_toArray, List.set_cons_zero, List.set_cons_succ]
        refine wpAnyH_take (i := 25) (v := ?_) rfl (by kernel_rfl) (by kernel_rfl) (by kernel_rfl) (fun _ _ _ h => h) (Or.inl ⟨by rfl, ?_⟩) (by assumption) ?_
        rotate_left
        · intro wq hSw
          (try dsimp only at hSw)
          (try simp only [List.getElem_toArray, List.getElem_cons_succ, List.getElem_cons_zero])
          go_simp
          (try with_reducible rfl)
        simp only [Act.put, List.getElem_toArray, List.getElem_cons_succ, List.getElem_cons_zero, List.setIfInBounds_toArray, List.set_cons_zero, List.set_cons_succ]
        refine wpAnyH_take (i := 26) (v := ?_) rfl (by kernel_rfl) (by kernel_rfl) (by kernel_rfl) (fun _ _ _ h => h) (Or.inl ⟨by rfl, ?_⟩) (by assumption) ?_
        rotate_left
        · intro wq hSw
          (try dsimp only at hSw)
          (try simp only [List.getElem_toArray, List.getElem_cons_succ, List.getElem_cons_zero])
          go_simp
          (try with_reducible rfl)
        simp only [Act.put, List.getElem_toArray, List.getElem_cons_succ, List.getElem_cons_zero, List.setIfInBounds_toArray, List.set_cons_zero, List.set_cons_succ]
        refine wpAnyH_take (i := 27) (v := undef) rfl (by kernel_rfl) (by kernel_rfl) (by kernel_rfl) (fun _ _ _ h => h) (Or.inr ⟨by rfl, rfl⟩) (by assumption) ?_
        simp only [Act.put, List.getElem_toArray, List.getElem_cons_succ, List.getElem_cons_zero, List.setIfInBounds_toArray, List.set_cons_zero, List.set_cons_succ]
        refine wpAnyH_take (i := 28) (v := undef) rfl (by kernel_rfl) (by kernel_rfl) (by kernel_rfl) (fun _ _ _ h => h) (Or.inr ⟨by rfl, rfl⟩) (by assumption) ?_
        simp only [Act.put, List.getElem_toArray, List.getElem_cons_succ, List.getElem_cons_zero, List.setIfInBounds_toArray, List.set_cons_zero, List.set_cons_succ]
        refine wpAnyH_take (i := 29) (v := undef) rfl (by kernel_rfl) (by kernel_rfl) (by kernel_rfl) (fun _ _ _ h => h) (Or.inr ⟨by rfl, rfl⟩) (by assumption) ?_
        simp only [Act.put, List.getElem_toArray, List.getElem_cons_succ, List.getElem_cons_zero, List.setIfInBounds_toArray, List.set_cons_zero, List.set_cons_succ]
        refine wpAnyH_take (i := 30) (v := ?_) rfl (by kernel_rfl) (by kernel_rfl) (by kernel_rfl) (fun _ _ _ h => h) (Or.inl ⟨by rfl, ?_⟩) (by assumption) ?_
        rotate_left
        · intro wq hSw
          (try dsimp only at hSw)
          (try simp only [List.getElem_toArray, List.getElem_cons_succ, List.getElem_cons_zero])
          go_simp
          (try with_reducible rfl)
        simp only [Act.put, List.getElem_toArray, List.getElem_cons_succ, List.getElem_cons_zero, List.setIfInBounds_toArray, List.set_cons_zero, List.set_cons_succ]
        refine wpAnyH_done (by kernel_rfl) ?_ _
        all_goals
          go_wp2
          go_meet
          exact ⟨rfl, by assumption⟩
      case rest =>
        obtain ⟨rfl, hbd⟩ := hcut
        clear hbc hS
        have hbc : Below W.heap.size W wc.drew := hbd.drew
        have hS := keepS HBh.out HB3.out HW8.out hbc
        go_wp2_with fail
        (go_region_held3 (fun wx => Below W.heap.size W wx ∧ (wx.cell? ⟨g6, 0, none⟩ = some (.bool i) ∧ wx.cell? ⟨g6, 1, none⟩ = some (.int .i64 n) ∧ wx.cell? ⟨g6, 2, none⟩ = some (.string b)) ∧ (wx.cell? ⟨g8, 0, none⟩ = some (.bool inn) ∧ wx.cell? ⟨g8, 1, none⟩ = some (.int .i64 m) ∧ wx.cell? ⟨g8, 2, none⟩ = some (.string T)) ∧ (wx.cell? ⟨g10, 0, none⟩ = some (.bool inn) ∧ wx.cell? ⟨g10, 1, none⟩ = some (.int .i64 m) ∧ wx.cell? ⟨g10, 2, none⟩ = some (.string T))) (first | assumption | exact hS) (first | (go_at_call 18; refine (HCt.out _ hbc).mono ?_; rintro e wx ⟨rfl, hbx⟩; have hbc := hbc.trans (hbx.mono hbc.size); have hS := keepS HBh.out HB3.out HW8.out hbc; clear hbx) | (go_at_call 19; refine (HI1.out _).mono ?_; rintro e wx ⟨rfl, hbx⟩; have hbc := hbc.trans (hbx.mono hbc.size); have hS := keepS HBh.out HB3.out HW8.out hbc; clear hbx) | (go_at_call 20; refine (HI2.out _).mono ?_; rintro e wx ⟨rfl, hbx⟩; have hbc := hbc.trans (hbx.mono hbc.size); have hS := keepS HBh.out HB3.out HW8.out hbc; clear hbx) | (go_at_call 13; refine (HI3.out _).mono ?_; rintro e w' ⟨rfl, rfl⟩) | (go_at_call 21; refine (HI4.out _).mono ?_; rintro e w' ⟨rfl, rfl⟩)))
        all_goals
          go_wp2
          go_ret
          exact ⟨rfl, HBe4.out.trans (Below.mono (by assumption) HBe4.out.size)⟩
    | true =>
      rw [hs2] at HI3
      have HS2 := Lib.hid hs2
      clear hs2
      cases hk : kindB kd with
      | false =>
        have HI4 := Lib.hid (fun wx => implStart_no kd wx hk)
        clear hk
        go_cut [75] (fun s75 wx => s75 = .bool true ∧ Below W.heap.size W wx)
        case first =>
          (go_region_held3 (fun wx => Below W.heap.size W wx ∧ (wx.cell? ⟨g6, 0, none⟩ = some (.bool i) ∧ wx.cell? ⟨g6, 1, none⟩ = some (.int .i64 n) ∧ wx.cell? ⟨g6, 2, none⟩ = some (.string b)) ∧ (wx.cell? ⟨g8, 0, none⟩ = some (.bool inn) ∧ wx.cell? ⟨g8, 1, none⟩ = some (.int .i64 m) ∧ wx.cell? ⟨g8, 2, none⟩ = some (.string T)) ∧ (wx.cell? ⟨g10, 0, none⟩ = some (.bool inn) ∧ wx.cell? ⟨g10, 1, none⟩ = some (.int .i64 m) ∧ wx.cell? ⟨g10, 2, none⟩ = some (.string T))) (first | assumption | exact hS) (first | (go_at_call 18; refine (HCt.out _ hbc).mono ?_; rintro e wx ⟨rfl, hbx⟩; have hbc := hbc.trans (hbx.mono hbc.size); have hS := keepS HBh.out HB3.out HW8.out hbc; clear hbx) | (go_at_call 19; refine (HI1.out _).mono ?_; rintro e wx ⟨rfl, hbx⟩; have hbc := hbc.trans (hbx.mono hbc.size); have hS := keepS HBh.out HB3.out HW8.out hbc; clear hbx) | (go_at_call 20; refine (HI2.out _).mono ?_; rintro e wx ⟨rfl, hbx⟩; have hbc := hbc.trans (hbx.mono hbc.size); have hS := keepS HBh.out HB3.out HW8.out hbc; clear hbx) | (go_at_call 13; refine (HI3.out _).mono ?_; rintro e w' ⟨rfl, rfl⟩) | (go_at_call 21; refine (HI4.out _).mono ?_; rintro e w' ⟨rfl, rfl⟩)))
          all_goals
            go_wp2
            go_meet
            exact ⟨rfl, by assumption⟩
        case rest =>
          obtain ⟨rfl, hbd⟩ := hcut
          clear hbc hS
          have hbc : Below W.heap.size W wc.drew := hbd.drew
          have hS := keepS HBh.out HB3.out HW8.out hbc
          go_wp2_with fail
          (go_region_held3 (fun wx => Below W.heap.size W wx ∧ (wx.cell? ⟨g6, 0, none⟩ = some (.bool i) ∧ wx.cell? ⟨g6, 1, none⟩ = some (.int .i64 n) ∧ wx.cell? ⟨g6, 2, none⟩ = some (.string b)) ∧ (wx.cell? ⟨g8, 0, none⟩ = some (.bool inn) ∧ wx.cell? ⟨g8, 1, none⟩ = some (.int .i64 m) ∧ wx.cell? ⟨g8, 2, none⟩ = some (.string T)) ∧ (wx.cell? ⟨g10, 0, none⟩ = some (.bool inn) ∧ wx.cell? ⟨g10, 1, none⟩ = some (.int .i64 m) ∧ wx.cell? ⟨g10, 2, none⟩ = some (.string T))) (first | assumption | exact hS) (first | (go_at_call 18; refine (HCt.out _ hbc).mono ?_; rintro e wx ⟨rfl, hbx⟩; have hbc := hbc.trans (hbx.mono hbc.size); have hS := keepS HBh.out HB3.out HW8.out hbc; clear hbx) | (go_at_call 19; refine (HI1.out _).mono ?_; rintro e wx ⟨rfl, hbx⟩; have hbc := hbc.trans (hbx.mono hbc.size); have hS := keepS HBh.out HB3.out HW8.out hbc; clear hbx) | (go_at_call 20; refine (HI2.out _).mono ?_; rintro e wx ⟨rfl, hbx⟩; have hbc := hbc.trans (hbx.mono hbc.size); have hS := keepS HBh.out HB3.out HW8.out hbc; clear hbx) | (go_at_call 13; refine (HI3.out _).mono ?_; rintro e w' ⟨rfl, rfl⟩) | (go_at_call 21; refine (HI4.out _).mono ?_; rintro e w' ⟨rfl, rfl⟩)))
          all_goals
            go_wp2
            go_ret
            exact ⟨rfl, HBe4.out.trans (Below.mono (by assumption) HBe4.out.size)⟩
      | true =>
        have HI4 := Lib.hid (fun wx => implStart_yes kd wx hk)
        have HK := Lib.hid hk
        clear hk
        have hall : 0 ≤ allOf kd := by unfold allOf; split <;> omega
        have hallb : decide (allOf kd < 0) = false := by simp; omega
        go_cut [75] (fun s75 wx => s75 = .bool false ∧ Below W.heap.size W wx)
        case first =>
          (go_region_held3 (fun wx => Below W.heap.size W wx ∧ (wx.cell? ⟨g6, 0, none⟩ = some (.bool i) ∧ wx.cell? ⟨g6, 1, none⟩ = some (.int .i64 n) ∧ wx.cell? ⟨g6, 2, none⟩ = some (.string b)) ∧ (wx.cell? ⟨g8, 0, none⟩ = some (.bool inn) ∧ wx.cell? ⟨g8, 1, none⟩ = some (.int .i64 m) ∧ wx.cell? ⟨g8, 2, none⟩ = some (.string T)) ∧ (wx.cell? ⟨g10, 0, none⟩ = some (.bool inn) ∧ wx.cell? ⟨g10, 1, none⟩ = some (.int .i64 m) ∧ wx.cell? ⟨g10, 2, none⟩ = some (.string T))) (first | assumption | exact hS) (first | (go_at_call 18; refine (HCt.out _ hbc).mono ?_; rintro e wx ⟨rfl, hbx⟩; have hbc := hbc.trans (hbx.mono hbc.size); have hS := keepS HBh.out HB3.out HW8.out hbc; clear hbx) | (go_at_call 19; refine (HI1.out _).mono ?_; rintro e wx ⟨rfl, hbx⟩; have hbc := hbc.trans (hbx.mono hbc.size); have hS := keepS HBh.out HB3.out HW8.out hbc; clear hbx) | (go_at_call 20; refine (HI2.out _).mono ?_; rintro e wx ⟨rfl, hbx⟩; have hbc := hbc.trans (hbx.mono hbc.size); have hS := keepS HBh.out HB3.out HW8.out hbc; clear hbx) | (go_at_call 13; refine (HI3.out _).mono ?_; rintro e w' ⟨rfl, rfl⟩) | (go_at_call 21; refine (HI4.out _).mono ?_; rintro e w' ⟨rfl, rfl⟩)))
          all_goals
            go_wp2
            go_meet
            exact ⟨rfl, by assumption⟩
        case rest =>
          obtain ⟨rfl, hbd⟩ := hcut
          clear hbc hS q1 q2 q3 q4
          obtain ⟨h0n, h7n, hokn⟩ := okH_hok HO.out
          obtain ⟨n', rfl⟩ : ∃ n' : Nat, n = n' := ⟨n.toNat, by omega⟩
          rw [Int.toNat_natCast] at hokn
          have HP := Lib.hid (HPP.out (by unfold validB; rw [HK.out, HO.out, HS2.out]; rfl))
          rw [Int.toNat_natCast] at HP
          obtain ⟨q, hq⟩ : ∃ q, len1 % (s.size + 1) = q := ⟨_, rfl⟩
          have hqs : q ≤ s.size := by have := Nat.mod_lt len1 (show 0 < s.size + 1 by omega); omega
          have hqi : (len1 : Int) % ((s.size : Int) + 1) = (q : Int) := by rw [← hq]; simp
          have hqi2 : (len1 : Int).tmod ((s.size : Int) + 1) = (q : Int) := by rw [Int.tmod_eq_emod_of_nonneg (by omega)]; exact hqi
          clear hq h0n h7n
          have hE1 : (s.extract 0 q).data.toList = s.data.toList.take q := ext_head s q
          have hE2 : (s.extract q s.size).data.toList = s.data.toList.drop q := by
            rw [ByteArray.data_extract, Array.toList_extract, List.extract_eq_take_drop, List.take_of_length_le]
            rw [List.length_drop, size_list]; exact Nat.le_refl _
          have hok1 : okB (s.extract 0 q).data.toList = true := by
            rw [hE1]; exact ok_of (take_bits (ok_bits HS2.out) q) (by rw [List.length_take, size_list]; omega)
          have hok2 : okB (s.extract q s.size).data.toList = true := by
            rw [hE2]
            refine ok_of ?_ (by rw [List.length_drop, size_list]; omega)
            have := ok_bits HS2.out
            rw [List.all_eq_true] at this ⊢
            exact fun x hx => this x (List.mem_of_mem_drop hx)
          have HF1 := Lib.hid (fun W => implFeed_yes kd i n' b (s.extract 0 q) W HK.out hokn hok1)
          rw [hE1] at HF1
          have hok1y := hfeed_ok kd (s.data.toList.take q) _ hokn
          have happ := hfeed_append kd ⟨i, n', b.data.toList⟩ (s.data.toList.take q) (s.data.toList.drop q)
          rw [List.take_append_drop, HP.out] at happ
          generalize hfeed kd ⟨i, n', b.data.toList⟩ (s.data.toList.take q) = p1 at *
          obtain ⟨⟨i1, n1, bs1⟩, es1⟩ := p1
          obtain ⟨b1, rfl⟩ : ∃ b1 : ByteArray, b1.data.toList = bs1 := ⟨⟨bs1.toArray⟩, rfl⟩
          simp only at happ hok1y
          have HF2 := Lib.hid (fun W => implFeed_yes kd i1 n1 b1 (s.extract q s.size) W HK.out hok1y hok2)
          rw [hE2] at HF2
          rw [← Prod.eta (hfeed kd ⟨i1, n1, b1.data.toList⟩ (s.data.toList.drop q))] at HF2
          injection happ with ha1 ha2
          rw [← ha1] at HF2
          generalize (hfeed kd ⟨i1, n1, b1.data.toList⟩ (s.data.toList.drop q)).2 = es2 at *
          have HEv := Lib.hid ha2
          have HXok := Lib.hid (HVal.out (by unfold validB; rw [HK.out, HO.out, HS2.out]; rfl))
          have hl12 : es1.length + es2.length ≤ 1200 := by rw [← List.length_append, ← ha2]; exact hlen2
          clear ha1 ha2 hE1 hE2 hok1 hok2 hok1y HI1 HI2 HI3 HI4
          have HBd := Lib.hid hbd
          have HBw := Lib.hid (HBe4.out.trans (hbd.mono HBe4.out.size))
          have h6 := HBh.out.below hbd
          obtain ⟨c0, c1, c2⟩ := h6.cells
          have hg6 := h6.lt
          have ca0 : ∀ o : Obj, (wc.drew.alloc o).cell? ⟨g6, 0, none⟩ = some (.bool i) := fun o => (World.cell?_alloc_lt wc.drew o ⟨g6, 0, none⟩ hg6).trans c0
          have ca1 : ∀ o : Obj, (wc.drew.alloc o).cell? ⟨g6, 1, none⟩ = some (.int .i64 n') := fun o => (World.cell?_alloc_lt wc.drew o ⟨g6, 1, none⟩ hg6).trans c1
          have ca2 : ∀ o : Obj, (wc.drew.alloc o).cell? ⟨g6, 2, none⟩ = some (.string b) := fun o => (World.cell?_alloc_lt wc.drew o ⟨g6, 2, none⟩ hg6).trans c2
          have cb0 : ∀ o : Obj, (wc.alloc o).cell? ⟨g6, 0, none⟩ = some (.bool i) := fun o => (World.cell?_alloc_lt wc o ⟨g6, 0, none⟩ hg6).trans c0
          have cb1 : ∀ o : Obj, (wc.alloc o).cell? ⟨g6, 1, none⟩ = some (.int .i64 n') := fun o => (World.cell?_alloc_lt wc o ⟨g6, 1, none⟩ hg6).trans c1
          have cb2 : ∀ o : Obj, (wc.alloc o).cell? ⟨g6, 2, none⟩ = some (.string b) := fun o => (World.cell?_alloc_lt wc o ⟨g6, 2, none⟩ hg6).trans c2
          have hz := zero_hdlc
          clear hbd h6
          go_upto_region 9 with fail
          go_cut [13, 14] (fun s13 s14 wx => ∃ g13, s13 = .pointer (some ⟨g13, 0, none⟩) ∧ FeedAt w wc wx g13 (⟨i1, n1, b1.data.toList⟩, es1) s14)
          case first =>
            go_region_with ((go_at_call 14; refine (HF1.out _).mono ?_; rintro e w5 ⟨⟨v5, rfl, hoe5⟩, hb5⟩; rw [hV]; simp only [Lib.mk_data]; obtain ⟨hc5, hf5⟩ := old_cells hb5; have hz5 := hb5.size; have HB5 := Lib.hid hb5; have HO5 := Lib.hid hoe5; clear hb5 hoe5))
            all_goals
              (first
                | (have hfa := feed_ahead (p := (⟨i1, n1, b1.data.toList⟩, es1)) HBw.out HB5.out HO5.out)
                | (have hfa := feed_last (p := (⟨i1, n1, b1.data.toList⟩, es1)) HBw.out HB5.out HO5.out))
              have HFA := Lib.hid hfa
              clear hfa hc5 hf5 ca0 ca1 ca2 cb0 cb1 cb2 c0 c1 c2
              go_wp2
              go_meet
              exact ⟨_, rfl, HFA.out⟩
          case rest =>
            obtain ⟨g13, rfl, h13, hg13, hre1, hbl1, hbw1⟩ := hcut
            simp only [Lib.mk_data] at h13
            have HRE1 := Lib.hid hre1
            have HBw1 := Lib.hid hbw1
            have HBd1 := Lib.hid (HBd.out.trans (hbl1.mono HBd.out.size))
            have hy : B3 wc g13 (.bool i1) (.int .i64 n1) (.string b1) := h13
            obtain ⟨c0, c1, c2⟩ := hy.cells
            have hg13l := hy.lt
            have ca0 : ∀ o : Obj, (wc.drew.alloc o).cell? ⟨g13, 0, none⟩ = some (.bool i1) := fun o => (World.cell?_alloc_lt wc.drew o ⟨g13, 0, none⟩ hg13l).trans c0
            have ca1 : ∀ o : Obj, (wc.drew.alloc o).cell? ⟨g13, 1, none⟩ = some (.int .i64 n1) := fun o => (World.cell?_alloc_lt wc.drew o ⟨g13, 1, none⟩ hg13l).trans c1
            have ca2 : ∀ o : Obj, (wc.drew.alloc o).cell? ⟨g13, 2, none⟩ = some (.string b1) := fun o => (World.cell?_alloc_lt wc.drew o ⟨g13, 2, none⟩ hg13l).trans c2
            have cb0 : ∀ o : Obj, (wc.alloc o).cell? ⟨g13, 0, none⟩ = some (.bool i1) := fun o => (World.cell?_alloc_lt wc o ⟨g13, 0, none⟩ hg13l).trans c0
            have cb1 : ∀ o : Obj, (wc.alloc o).cell? ⟨g13, 1, none⟩ = some (.int .i64 n1) := fun o => (World.cell?_alloc_lt wc o ⟨g13, 1, none⟩ hg13l).trans c1
            have cb2 : ∀ o : Obj, (wc.alloc o).cell? ⟨g13, 2, none⟩ = some (.string b1) := fun o => (World.cell?_alloc_lt wc o ⟨g13, 2, none⟩ hg13l).trans c2
            clear h13 hg13 hre1 hbl1 hbw1 hy
            go_upto_region 10 with fail
            go_cut [15, 16] (fun s15 s16 wx => ∃ g15, s15 = .pointer (some ⟨g15, 0, none⟩) ∧ FeedAt w wc wx g15 (⟨inn, m, bs⟩, es2) s16)
            case first =>
              go_region_with ((go_at_call 14; refine (HF2.out _).mono ?_; rintro e w5 ⟨⟨v5, rfl, hoe5⟩, hb5⟩; rw [hV]; obtain ⟨hc5, hf5⟩ := old_cells hb5; have hz5 := hb5.size; have HB5 := Lib.hid hb5; have HO5 := Lib.hid hoe5; clear hb5 hoe5))
              all_goals
                (first
                  | (have hfa := feed_ahead (p := (⟨inn, m, bs⟩, es2)) HBw1.out HB5.out HO5.out)
                  | (have hfa := feed_last (p := (⟨inn, m, bs⟩, es2)) HBw1.out HB5.out HO5.out))
                have HFA := Lib.hid hfa
                clear hfa hc5 hf5 ca0 ca1 ca2 cb0 cb1 cb2 c0 c1 c2
                go_wp2
                go_meet
                exact ⟨_, rfl, HFA.out⟩
            case rest =>
              obtain ⟨g15, rfl, h15, hg15, hre2, hbl2, hbw2⟩ := hcut
              simp only [← HTT.out] at h15
              have HBd2 := Lib.hid (HBd1.out.trans (hbl2.mono HBd1.out.size))
              have HR1 := Lib.hid ((HRE1.out.below hbl2).mono (Nat.le_refl _) hbl2.size)
              have HR2 := Lib.hid hre2
              have HBw2 := Lib.hid hbw2
              have hx8 := HB3.out.below HBd2.out
              have hx15 : B3 wc g15 (.bool inn) (.int .i64 m) (.string T) := h15
              obtain ⟨x0, x1, x2⟩ := hx8.cells
              have HX8 := Lib.hid hx8
              have HX15 := Lib.hid hx15
              have hbs1 : bs.length ≤ 240 := ((hok_iff _).1 HXok.out).2.1
              have hTm : T.size ≤ maxLen := by rw [HTT.out, mk_size]; unfold maxLen; omega
              have HOkx := Lib.hid (fun W => implHok_any inn m T W hTm)
              have hokx : okH inn m T.data.toList = true := by rw [HTT.out]; exact hok_okH HXok.out
              rw [hokx] at HOkx
              obtain ⟨i0, hi0, hz0, hz1, hz2⟩ := info_parts info_ev
              have HI := Lib.hid hi0
              have HZ0 := Lib.hid hz0
              have HZ1 := Lib.hid hz1
              have HZ2 := Lib.hid hz2
              clear hi0 hz0 hz1 hz2 hokx hbs1 hx8 hx15 h15 hg15 hre2 hbl2 hbw2 c0 c1 c2 ca0 ca1 ca2 cb0 cb1 cb2
              go_wp2_with fail
              refine (HOkx.out _).mono ?_
              rintro e w6 ⟨rfl, hb6⟩
              obtain ⟨x0', x1', x2'⟩ := (HX8.out.below hb6).cells
              obtain ⟨y0, y1, y2⟩ := (HX15.out.below hb6).cells
              have hre1 := HR1.out.below hb6
              have hre2 := HR2.out.below hb6
              have HRe1 := Lib.hid hre1
              have HRe2 := Lib.hid hre2
              have HB6 := Lib.hid hb6
              have q2 := guard_hd
              have q3 := hd_eq 9998 inn m T
              have q4 := hd_eql inn m T
              have HOE0 := Lib.hid (OE_empty w6)
              have HBa := Lib.hid ((Below.refl w6.heap.size w6).alloc (Nat.le_refl _) (.cells #[] 42))
              clear hre1 hre2 hb6 x0 x1 x2
              go_wp2_with (first | (at_builtin; refine wpList_append_evg _ (by rfl) _ _ 30 rfl w6.heap.size i0 Try.underlying30 HI.out HZ0.out HZ1.out HZ2.out _ [] rfl HOE0.out _ _ _ es1 rfl (HRe1.out.below (HBa.out.mono HB6.out.size)) (by simp; omega) (by simp) ?_; intro v7 w7 ho7 hg7 hat7; have HOE7 := Lib.hid ho7; have HB7 := Lib.hid (HBa.out.grown hg7 (by simp) (fun k hk => (HOE0.out.lt k hk).1)); clear ho7 hg7 hat7) | (at_builtin; refine wpList_append_evg _ (by rfl) _ _ 30 rfl w6.heap.size i0 Try.underlying30 HI.out HZ0.out HZ1.out HZ2.out _ _ rfl HOE7.out _ _ _ es2 rfl (HRe2.out.below (HB7.out.mono HB6.out.size)) (by simp; omega) HB7.out.size ?_; intro v8 w8 ho8 hg8 hat8; have HOE8 := Lib.hid ho8; have HB8 := Lib.hid (HB7.out.grown hg8 HB7.out.size (fun k hk => (HOE7.out.lt k hk).1)); clear ho8 hg8 hat8))
              have he : ([] ++ es1) ++ es2 = evs := by rw [List.nil_append]; exact HEv.out.symm
              have ho8 := HOE8.out
              rw [he] at ho8
              have hW8 : Below W.heap.size W w8 := HBd2.out.trans ((HB6.out.mono HBd2.out.size).trans (HB8.out.mono (Nat.le_trans HBd2.out.size HB6.out.size)))
              have hw8 : Below w.heap.size w w8 := HBw2.out.trans ((HB6.out.mono HBw2.out.size).trans (HB8.out.mono (Nat.le_trans HBw2.out.size HB6.out.size)))
              refine (ctEvents_same v8 _ evs w8 _ _ _ _ ho8.reads (HO5.out.reads.below hW8) (Nat.le_refl _) hW8.size (by omega)).mono ?_
              rintro e w9 ⟨rfl, hb9⟩
              have HB9 := Lib.hid (hw8.trans (hb9.mono hw8.size))
              clear ho8 hW8 hw8 hb9 he
              go_wp2
              go_ret
              exact ⟨rfl, HB9.out⟩
theorem own : ownKnob Try.prog.godebug = none := by kernel_rfl
theorem laidOut : laidOutB Try.prog = true := by kernel_rfl
set_option maxRecDepth 100000 in
theorem lifted (os : Os) (started : os.Started) (H : Type) (enc : TypeId × Value → H) :
    ReturnsInHanded {} Try.checked os 4 .any (Rows.fnHdlcFeedSpec.pre6 enc Try.prog Try.f4 Rows.fnHdlcFeedRow.domain false) (Rows.fnHdlcFeedSpec.post enc Try.prog Try.f4 false true false false) := by
  refine returnsInHanded_of_change (C := Try.checked) own started (by kernel_rfl) Try.func4
    (ChangeSpec.witness6 (enc := enc) (C := Try.checked) false ⟨#[], #[.slice none 0 0, .slice none 0 0], []⟩ 8 (by kernel_rfl) (by kernel_rfl) (by kernel_rfl) (by kernel_rfl)) ?_
  intro W base args ds gs before hval0 hW hcnd _
  have hval : ∀ (j : Nat) t v, Try.f4.params[j]? = some t → args[j]? = some v → Value.okWide Try.prog W .any base t v := hval0
  have hW' := hW
  obtain ⟨p, q, hA0, hV, rfl, hfz, hnd⟩ := hW
  have hA : DataW.TrodAll enc Try.prog W 0 (fun _ => true) true Try.f4.params.toList args.toList ds p := hA0
  rw [Try.params4] at hA hval
  obtain ⟨v0, vs0, d0, ds0, p0, q0, hargs, rfl, rfl, h0, r0⟩ := trodAll_cons hA
  obtain ⟨v1, vs1, d1, ds1, p1, q1, rfl, rfl, rfl, h1, r1⟩ := trodAll_cons r0
  obtain ⟨rfl, rfl, rfl⟩ := trodAll_nil r1
  obtain rfl : args = #[v0, v1] := by cases args; simp_all
  obtain ⟨rfl, rfl⟩ := trodVars_none hV
  obtain ⟨a0, len0, cap0, rfl⟩ := okWide_slice Try.underlying22 (hval 0 22 v0 rfl rfl)
  have k0 := h0
  have lt0 : ∀ x ∈ p0, x.block < W.heap.size := by obtain ⟨m, hm⟩ := k0; exact DataW.trod_lt m _ _ _ hm
  obtain ⟨z0, w0⟩ : ∃ zs, IsRow .u8 W a0 len0 cap0 zs := by
    obtain ⟨fuel, hf⟩ := h0
    rcases open_ints Try.underlying22 Try.underlying5 (by kernel_rfl) hf with ⟨hcs, _⟩ | ⟨x, l, c, zs, hcs, _, hl, hm, hz, _, hcell, hwz⟩
    · simp [Value.cells] at hcs
      obtain ⟨rfl, rfl, rfl⟩ := hcs
      exact ⟨[], .inl ⟨rfl, rfl, rfl, rfl⟩⟩
    · simp [Value.cells] at hcs
      obtain ⟨rfl, rfl, rfl⟩ := hcs
      exact ⟨zs, .inr ⟨_, rfl, hl, hm, by simpa using hz, hcell, hwz⟩⟩
  obtain ⟨a1, len1, cap1, rfl⟩ := okWide_slice Try.underlying22 (hval 1 22 v1 rfl rfl)
  have k1 := h1
  have lt1 : ∀ x ∈ p1, x.block < W.heap.size := by obtain ⟨m, hm⟩ := k1; exact DataW.trod_lt m _ _ _ hm
  obtain ⟨z1, w1⟩ : ∃ zs, IsRow .u8 W a1 len1 cap1 zs := by
    obtain ⟨fuel, hf⟩ := h1
    rcases open_ints Try.underlying22 Try.underlying5 (by kernel_rfl) hf with ⟨hcs, _⟩ | ⟨x, l, c, zs, hcs, _, hl, hm, hz, _, hcell, hwz⟩
    · simp [Value.cells] at hcs
      obtain ⟨rfl, rfl, rfl⟩ := hcs
      exact ⟨[], .inl ⟨rfl, rfl, rfl, rfl⟩⟩
    · simp [Value.cells] at hcs
      obtain ⟨rfl, rfl, rfl⟩ := hcs
      exact ⟨zs, .inr ⟨_, rfl, hl, hm, by simpa using hz, hcell, hwz⟩⟩
  clear hA0 hval0
  refine (walk a0 len0 cap0 z0 a1 len1 cap1 z1 W w0 w1).mono fun e W' ⟨he, bel⟩ => ?_
  subst he
  exact ⟨_, rfl, _, _, _, [], _, [], hW', trodAll_mk1 (shut_bool Try.underlying4 _), (trodAll_cons_mk (Below.trod laidOut (by kernel_rfl) (of_decide_eq_true (by kernel_rfl)) k0 bel lt0) (trodAll_cons_mk (Below.trod laidOut (by kernel_rfl) (of_decide_eq_true (by kernel_rfl)) k1 bel lt1) trodAll_mk0)), rfl, bel.frame _, fun h => by cases h⟩
theorem over : Rows.fnHdlcFeedRow.holds Try.pinned (OpenSpec.ofChange Rows.fnHdlcFeedSpec) :=
  OpenClaim.holds_of_wide 4 Try.f4 rfl rfl rfl rfl rfl rfl rfl ⟨rfl, rfl, rfl, rfl, rfl⟩ rfl rfl rfl rfl rfl (by kernel_rfl) Try.func4 (by kernel_rfl)
    (of_decide_eq_true (by kernel_rfl)) (by unfold Func.isWrapper; first | (rw [if_pos (by decide +kernel)]; kernel_rfl) | (rw [if_neg (by decide +kernel)]; exact ⟨rfl, rfl⟩))
    (fun os started H enc _ => lifted os started H enc)
theorem proved : Rows.FnHdlcFeedSaid := over
end Go.Proofs.Ytekhakapmpdnaaa.fnHdlcFeed
