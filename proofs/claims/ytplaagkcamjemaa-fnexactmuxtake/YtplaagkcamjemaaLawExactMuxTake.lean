/- FnExactMuxTake: MuxTake of the program answers as the model's, at every Mux and piece; it writes into none, and its answer owns its memory. No condition. -/
import Derived.Test.YtplaagkcamjemaaKitA
import Derived.Test.YtplaagkcamjemaaMbG
import Derived.Test.YtplaagkcamjemaaTEvL
namespace Go.Proofs.Ytplaagkcamjemaa.fnExactMuxTake
open Go.ChangeShapes Go.WideShapes Go.ChangeAt Go.RowKit
open Go.ChangeMaps (open_string shut_string)
set_option linter.unusedVariables false
theorem take_both (SS : List ByteArray) (s1 : ByteArray) (hl : SS.length ≤ 1048576) (ht : s1.size ≤ 1048576) : ∃ (NN : List ByteArray) (LL : List Ev), NN.length ≤ 3 ∧ LL.length ≤ 1 ∧
    (∀ (W : World) (v1 : Value), RS W W.heap.size v1 SS → Calls Try.prog 17 #[.agg #[v1], .string s1] W (fun e w' => ∃ v u, e = .returned (.tuple #[.agg #[v], u]) ∧ OS w' W.heap.size v NN ∧ OE w' W.heap.size u LL ∧ Below W.heap.size W w')) ∧
    (∀ (W : World) (v1 : Value), RS W W.heap.size v1 SS → Calls Try.prog 16 #[.agg #[v1], .string s1] W (fun e w' => ∃ v u, e = .returned (.tuple #[.agg #[v], u]) ∧ OS w' W.heap.size v NN ∧ OE w' W.heap.size u LL ∧ Below W.heap.size W w')) := by
  cases hok : muxSB SS with
  | true =>
    have h3 : SS.length = 3 := by unfold muxSB at hok; rw [Bool.and_eq_true, decide_eq_true_eq] at hok; exact hok.1
    refine ⟨strs (takeOpen (txts SS) s1.data.toList), takeTold (txts SS) s1.data.toList, by rw [strs_len, takeOpen_len]; unfold txts; rw [List.length_map]; omega, takeTold_len _ _, fun W v1 h => specTake_any v1 SS s1 W _ h (Nat.le_refl _) hok ht, fun W v1 h => implMTake_yes v1 SS s1 W _ h (Nat.le_refl _) hok ht⟩
  | false =>
    refine ⟨[], [], by simp, by simp, fun W v1 h => ?_, fun W v1 h => ?_⟩
    · refine (specMTake_zero v1 SS s1 W _ h (Nat.le_refl _) hok hl).mono ?_
      rintro e w' ⟨rfl, hb⟩
      exact ⟨_, _, rfl, OS_nil _ _, World.ownsRow_nil _ _ _ _, hb⟩
    · refine (implMTake_no v1 SS s1 W _ h (Nat.le_refl _) hok hl).mono ?_
      rintro e w' ⟨rfl, hb⟩
      exact ⟨_, _, rfl, OS_nil _ _, World.ownsRow_nil _ _ _ _, hb⟩
set_option maxRecDepth 100000 in
set_option maxHeartbeats 8000000 in
theorem walk (a0 : Option Addr) (len0 cap0 : Nat) (z0 : List ByteArray) (s1 : ByteArray) (w : World) (w0 : IsStrs w a0 len0 cap0 z0) (w1 : s1.size ≤ maxLen) :
    Calls Try.prog 7 #[.agg #[.slice a0 len0 cap0], .string s1] w fun e w' => e = .returned (.bool true) ∧ Below w.heap.size w w' := by
  obtain ⟨hr, hlen, hz⟩ := RS.of_arg w0
  have hw0 : len0 ≤ maxLen := by
    rcases w0 with ⟨_, rfl, _⟩ | ⟨x, _, h1, h2, _⟩
    · exact Nat.zero_le _
    · omega
  generalize z0.take len0 = SS at hr hlen hz
  subst hlen
  have HAa := Lib.hid hr
  have HMZ := Lib.hid hz
  clear w0 hr hz
  have hzm := zero_mux
  by_cases hbig : 1048576 < s1.size
  · go_enter Try.func7, Try.ntmps7
    go_wp2
    go_ret
    exact ⟨rfl, (Below.refl _ _).alloc (Nat.le_refl _) _⟩
  have ht1 : s1.size ≤ 1048576 := by omega
  clear hbig
  have HB := Lib.hid (Below.refl w.heap.size w)
  go_enter Try.func7, Try.ntmps7
  have hbx := (Below.refl _ w).alloc (Nat.le_refl _) (.cells #[(.slice a0 SS.length cap0)] 50)
  have HKa := Lib.hid (BK.new w #[(.slice a0 SS.length cap0)] 50)
  have HAa := Lib.hid (HAa.out.below (hbx.mono HB.out.size))
  have HB := Lib.hid (HB.out.trans (hbx.mono HB.out.size))
  clear hbx
  have ca := HKa.out.cell (i := 0) rfl
  go_wp2_with fail
  clear ca
  refine (szMux_any _ SS _ _ HAa.out HB.out.size hw0 HMZ.out).mono ?_
  rintro e w1 ⟨x, rfl, hb, hx⟩
  have HAa := Lib.hid (HAa.out.below (hb.mono HB.out.size))
  have HKa := Lib.hid (HKa.out.from hb)
  have HB := Lib.hid (HB.out.trans (hb.mono HB.out.size))
  clear hb
  rcases hx with rfl | ⟨hx0, hl, hzs⟩
  · go_wp2
    go_ret
    exact ⟨rfl, HB.out⟩
  have HLEN := Lib.hid hl
  have HZS := Lib.hid hzs
  clear hl hzs
  obtain ⟨NN, LL, hNN, hLL, HSP, HIM⟩ := take_both SS s1 HLEN.out ht1
  have ca := HKa.out.cell (i := 0) rfl
  go_wp2_with fail
  clear ca
  refine (toMux_any _ SS _ _ HAa.out HB.out.size HLEN.out).mono ?_
  rintro e w2 ⟨⟨v1, rfl, ho⟩, hb⟩
  obtain ⟨va1, vc1, rfl⟩ := ho.reads.shape
  have szw := HB.out.size
  have hsz := hb.size
  have HO1 := Lib.hid (ho.mono (base' := w.heap.size) szw)
  clear szw
  clear ho hsz
  have HAa := Lib.hid (HAa.out.below (hb.mono HB.out.size))
  have HKa := Lib.hid (HKa.out.from hb)
  have HB := Lib.hid (HB.out.trans (hb.mono HB.out.size))
  clear hb
  have ca := HKa.out.cell (i := 0) rfl
  go_wp2_with fail
  clear ca
  refine (HSP _ _ HO1.out.reads).mono ?_
  rintro e w3 ⟨va, vb, rfl, ho, hu, hb⟩
  have hab := os_oe_apart ho hu
  obtain ⟨vaW, vcW, rfl⟩ := ho.reads.shape
  obtain ⟨vaX, vcX, rfl⟩ := hu.reads.shape
  have szw := HB.out.size
  have old1 := HO1.out.low
  have hsz := hb.size
  have AP1W := Lib.hid (show ∀ k, (Value.slice va1 SS.length vc1).ownBlock = some k → ¬ (Value.slice vaW NN.length vcW).ownBlock = some k from fun k h1 h2 => by have e1 := (old1 k h1).2; have e2 := (ho.low k h2).1; omega)
  have HOW := Lib.hid (ho.mono (base' := w.heap.size) szw)
  have AP1X := Lib.hid (show ∀ k, (Value.slice va1 SS.length vc1).ownBlock = some k → ¬ (Value.slice vaX LL.length vcX).ownBlock = some k from fun k h1 h2 => by have e1 := (old1 k h1).2; have e2 := (hu.low k h2).1; omega)
  have HOX := Lib.hid (hu.mono (base' := w.heap.size) szw)
  have APWX := Lib.hid (show ∀ k, (Value.slice vaW NN.length vcW).ownBlock = some k → ¬ (Value.slice vaX LL.length vcX).ownBlock = some k from fun k h1 h2 => by rcases hab with e | e; (rw [e] at h1; cases h1); exact e (h1.trans h2.symm))
  clear szw old1
  clear ho hu hsz hab
  have HO1 := Lib.hid (HO1.out.below hb)
  have HAa := Lib.hid (HAa.out.below (hb.mono HB.out.size))
  have HKa := Lib.hid (HKa.out.from hb)
  have HB := Lib.hid (HB.out.trans (hb.mono HB.out.size))
  clear hb
  have hbx := (Below.refl _ w3).alloc (Nat.le_refl _) (.cells #[(.slice vaW NN.length vcW)] 35)
  have HKW := Lib.hid (BK.new w3 #[(.slice vaW NN.length vcW)] 35)
  have HO1 := Lib.hid (HO1.out.below hbx)
  have HOW := Lib.hid (HOW.out.below hbx)
  have HOX := Lib.hid (HOX.out.below hbx)
  have HAa := Lib.hid (HAa.out.below (hbx.mono HB.out.size))
  have HKa := Lib.hid (HKa.out.from hbx)
  have HB := Lib.hid (HB.out.trans (hbx.mono HB.out.size))
  clear hbx
  have ca := HKa.out.cell (i := 0) rfl
  have cW := HKW.out.cell (i := 0) rfl
  go_wp2_with fail
  clear ca
  clear cW
  refine (toMux_any _ SS _ _ HAa.out HB.out.size HLEN.out).mono ?_
  rintro e w4 ⟨⟨v2, rfl, ho⟩, hb⟩
  obtain ⟨va2, vc2, rfl⟩ := ho.reads.shape
  have szw := HB.out.size
  have oldW := HOW.out.low
  have oldX := HOX.out.low
  have hsz := hb.size
  have APW2 := Lib.hid (show ∀ k, (Value.slice vaW NN.length vcW).ownBlock = some k → ¬ (Value.slice va2 SS.length vc2).ownBlock = some k from fun k h1 h2 => by have e1 := (oldW k h1).2; have e2 := (ho.low k h2).1; omega)
  have APX2 := Lib.hid (show ∀ k, (Value.slice vaX LL.length vcX).ownBlock = some k → ¬ (Value.slice va2 SS.length vc2).ownBlock = some k from fun k h1 h2 => by have e1 := (oldX k h1).2; have e2 := (ho.low k h2).1; omega)
  have HO2 := Lib.hid (ho.mono (base' := w.heap.size) szw)
  clear szw oldW oldX
  clear ho hsz
  have HOW := Lib.hid (HOW.out.below hb)
  have HOX := Lib.hid (HOX.out.below hb)
  have HAa := Lib.hid (HAa.out.below (hb.mono HB.out.size))
  have HKa := Lib.hid (HKa.out.from hb)
  have HKW := Lib.hid (HKW.out.from hb)
  have HB := Lib.hid (HB.out.trans (hb.mono HB.out.size))
  clear hb
  have hbx := (Below.refl _ w4).alloc (Nat.le_refl _) (.cells #[(.slice va2 SS.length vc2)] 35)
  have HK2 := Lib.hid (BK.new w4 #[(.slice va2 SS.length vc2)] 35)
  have HOW := Lib.hid (HOW.out.below hbx)
  have HOX := Lib.hid (HOX.out.below hbx)
  have HO2 := Lib.hid (HO2.out.below hbx)
  have HAa := Lib.hid (HAa.out.below (hbx.mono HB.out.size))
  have HKa := Lib.hid (HKa.out.from hbx)
  have HKW := Lib.hid (HKW.out.from hbx)
  have HB := Lib.hid (HB.out.trans (hbx.mono HB.out.size))
  clear hbx
  have ca := HKa.out.cell (i := 0) rfl
  have cW := HKW.out.cell (i := 0) rfl
  have c2 := HK2.out.cell (i := 0) rfl
  go_wp2_with fail
  clear ca
  clear cW
  clear c2
  refine (HIM _ _ HO2.out.reads).mono ?_
  rintro e w5 ⟨va, vb, rfl, ho, hu, hb⟩
  have hab := os_oe_apart ho hu
  obtain ⟨vaG, vcG, rfl⟩ := ho.reads.shape
  obtain ⟨vaH, vcH, rfl⟩ := hu.reads.shape
  have szw := HB.out.size
  have oldW := HOW.out.low
  have oldX := HOX.out.low
  have old2 := HO2.out.low
  have hsz := hb.size
  have APWG := Lib.hid (show ∀ k, (Value.slice vaW NN.length vcW).ownBlock = some k → ¬ (Value.slice vaG NN.length vcG).ownBlock = some k from fun k h1 h2 => by have e1 := (oldW k h1).2; have e2 := (ho.low k h2).1; omega)
  have APXG := Lib.hid (show ∀ k, (Value.slice vaX LL.length vcX).ownBlock = some k → ¬ (Value.slice vaG NN.length vcG).ownBlock = some k from fun k h1 h2 => by have e1 := (oldX k h1).2; have e2 := (ho.low k h2).1; omega)
  have AP2G := Lib.hid (show ∀ k, (Value.slice va2 SS.length vc2).ownBlock = some k → ¬ (Value.slice vaG NN.length vcG).ownBlock = some k from fun k h1 h2 => by have e1 := (old2 k h1).2; have e2 := (ho.low k h2).1; omega)
  have HOG := Lib.hid (ho.mono (base' := w.heap.size) szw)
  have APWH := Lib.hid (show ∀ k, (Value.slice vaW NN.length vcW).ownBlock = some k → ¬ (Value.slice vaH LL.length vcH).ownBlock = some k from fun k h1 h2 => by have e1 := (oldW k h1).2; have e2 := (hu.low k h2).1; omega)
  have APXH := Lib.hid (show ∀ k, (Value.slice vaX LL.length vcX).ownBlock = some k → ¬ (Value.slice vaH LL.length vcH).ownBlock = some k from fun k h1 h2 => by have e1 := (oldX k h1).2; have e2 := (hu.low k h2).1; omega)
  have AP2H := Lib.hid (show ∀ k, (Value.slice va2 SS.length vc2).ownBlock = some k → ¬ (Value.slice vaH LL.length vcH).ownBlock = some k from fun k h1 h2 => by have e1 := (old2 k h1).2; have e2 := (hu.low k h2).1; omega)
  have HOH := Lib.hid (hu.mono (base' := w.heap.size) szw)
  have APGH := Lib.hid (show ∀ k, (Value.slice vaG NN.length vcG).ownBlock = some k → ¬ (Value.slice vaH LL.length vcH).ownBlock = some k from fun k h1 h2 => by rcases hab with e | e; (rw [e] at h1; cases h1); exact e (h1.trans h2.symm))
  clear szw oldW oldX old2
  clear ho hu hsz hab
  have HOW := Lib.hid (HOW.out.below hb)
  have HOX := Lib.hid (HOX.out.below hb)
  have HO2 := Lib.hid (HO2.out.below hb)
  have HAa := Lib.hid (HAa.out.below (hb.mono HB.out.size))
  have HKa := Lib.hid (HKa.out.from hb)
  have HKW := Lib.hid (HKW.out.from hb)
  have HK2 := Lib.hid (HK2.out.from hb)
  have HB := Lib.hid (HB.out.trans (hb.mono HB.out.size))
  clear hb
  have hbx := (Below.refl _ w5).alloc (Nat.le_refl _) (.cells #[(.slice vaG NN.length vcG)] 35)
  have HKG := Lib.hid (BK.new w5 #[(.slice vaG NN.length vcG)] 35)
  have HOW := Lib.hid (HOW.out.below hbx)
  have HOX := Lib.hid (HOX.out.below hbx)
  have HO2 := Lib.hid (HO2.out.below hbx)
  have HOG := Lib.hid (HOG.out.below hbx)
  have HOH := Lib.hid (HOH.out.below hbx)
  have HAa := Lib.hid (HAa.out.below (hbx.mono HB.out.size))
  have HKa := Lib.hid (HKa.out.from hbx)
  have HKW := Lib.hid (HKW.out.from hbx)
  have HK2 := Lib.hid (HK2.out.from hbx)
  have HB := Lib.hid (HB.out.trans (hbx.mono HB.out.size))
  clear hbx
  have ca := HKa.out.cell (i := 0) rfl
  have cW := HKW.out.cell (i := 0) rfl
  have c2 := HK2.out.cell (i := 0) rfl
  have cG := HKG.out.cell (i := 0) rfl
  go_wp2_with fail
  clear ca
  clear cW
  clear c2
  clear cG
  refine (eqMux_same _ _ NN _ _ _ HOG.out.reads HOW.out.reads (Nat.le_refl _) (Nat.le_refl _) (by have := hNN; omega)).mono ?_
  rintro e w6 ⟨rfl, hb⟩
  have HOW := Lib.hid (HOW.out.below hb)
  have HOX := Lib.hid (HOX.out.below hb)
  have HO2 := Lib.hid (HO2.out.below hb)
  have HOG := Lib.hid (HOG.out.below hb)
  have HOH := Lib.hid (HOH.out.below hb)
  have HAa := Lib.hid (HAa.out.below (hb.mono HB.out.size))
  have HKa := Lib.hid (HKa.out.from hb)
  have HKW := Lib.hid (HKW.out.from hb)
  have HK2 := Lib.hid (HK2.out.from hb)
  have HKG := Lib.hid (HKG.out.from hb)
  have HB := Lib.hid (HB.out.trans (hb.mono HB.out.size))
  clear hb
  have ca := HKa.out.cell (i := 0) rfl
  have cW := HKW.out.cell (i := 0) rfl
  have c2 := HK2.out.cell (i := 0) rfl
  have cG := HKG.out.cell (i := 0) rfl
  go_wp2_with fail
  clear ca
  clear cW
  clear c2
  clear cG
  refine (eqEvents_same _ _ LL _ _ _ _ _ HOH.out.reads HOX.out.reads (Nat.le_refl _) (Nat.le_refl _) (by have := hLL; omega)).mono ?_
  rintro e w7 ⟨rfl, hb⟩
  have HOW := Lib.hid (HOW.out.below hb)
  have HOX := Lib.hid (HOX.out.below hb)
  have HO2 := Lib.hid (HO2.out.below hb)
  have HOG := Lib.hid (HOG.out.below hb)
  have HOH := Lib.hid (HOH.out.below hb)
  have HAa := Lib.hid (HAa.out.below (hb.mono HB.out.size))
  have HKa := Lib.hid (HKa.out.from hb)
  have HKW := Lib.hid (HKW.out.from hb)
  have HK2 := Lib.hid (HK2.out.from hb)
  have HKG := Lib.hid (HKG.out.from hb)
  have HB := Lib.hid (HB.out.trans (hb.mono HB.out.size))
  clear hb
  have ca := HKa.out.cell (i := 0) rfl
  have cW := HKW.out.cell (i := 0) rfl
  have c2 := HK2.out.cell (i := 0) rfl
  have cG := HKG.out.cell (i := 0) rfl
  go_wp2_with fail
  clear ca
  clear cW
  clear c2
  clear cG
  have hS := And.intro (HK2.out.cell (i := 0) rfl) (HKa.out.cell (i := 0) rfl)
  have HOW := Lib.hid HOW.out.drew
  have HOX := Lib.hid HOX.out.drew
  have HO2 := Lib.hid HO2.out.drew
  have HOG := Lib.hid HOG.out.drew
  have HOH := Lib.hid HOH.out.drew
  have HAa := Lib.hid HAa.out.drew
  have HKa := Lib.hid HKa.out.drew
  have HKW := Lib.hid HKW.out.drew
  have HK2 := Lib.hid HK2.out.drew
  have HKG := Lib.hid HKG.out.drew
  have HB := Lib.hid HB.out.drew
  refine wp_region_held_drew (S := (fun wx => wx.cell? ⟨w4.heap.size, 0, none⟩ = some (Value.slice va2 SS.length vc2) ∧ wx.cell? ⟨w.heap.size, 0, none⟩ = some (Value.slice a0 SS.length cap0))) (by kernel_rfl) hS (fun hHeld => ?_)
  refine wpAnyH_take (i := 0) (v := ?_) rfl (by kernel_rfl) (by kernel_rfl) (by kernel_rfl) (fun _ _ _ h => h) (Or.inl ⟨by rfl, ?_⟩) (by assumption) ?_
  rotate_left
  · intro wq hSw
    (try dsimp only at hSw)
    (try simp only [List.getElem_toArray, List.getElem_cons_zero])
    go_simp
    (try with_reducible rfl)
  simp only [Act.put, List.getElem_toArray, List.getElem_cons_zero, List.setIfInBounds_toArray, List.set_cons_zero, List.set_cons_succ]
  refine wpAnyH_take (i := 1) (v := ?_) rfl (by kernel_rfl) (by kernel_rfl) (by kernel_rfl) (fun _ _ _ h => h) (Or.inl ⟨by rfl, ?_⟩) (by assumption) ?_
  rotate_left
  · intro wq hSw
    (try dsimp only at hSw)
    (try simp only [List.getElem_toArray, List.getElem_cons_succ, List.getElem_cons_zero])
    go_simp
    (try with_reducible rfl)
  simp only [Act.put, List.getElem_toArray, List.getElem_cons_succ, List.getElem_cons_zero, List.setIfInBounds_toArray, List.set_cons_zero, List.set_cons_succ]
  refine wpAnyH_ready (rs := [2]) (by kernel_rfl) (by simp) ?_
  refine AllReadyH.cons rfl (fun K hK => ?_) AllReadyH.nil
  (try simp only [List.getElem_toArray, List.getElem_cons_succ, List.getElem_cons_zero])
  go_simp
  go_at_call 30
  refine (toMux_any _ SS _ _ HAa.out HB.out.size HLEN.out).mono ?_
  rintro e y1 ⟨⟨v9, rfl, ho⟩, hb⟩
  obtain ⟨va9, vc9, rfl⟩ := ho.reads.shape
  have szw := HB.out.size
  have oldW := HOW.out.low
  have oldX := HOX.out.low
  have old2 := HO2.out.low
  have oldG := HOG.out.low
  have oldH := HOH.out.low
  have hsz := hb.size
  have APW9 := Lib.hid (show ∀ k, (Value.slice vaW NN.length vcW).ownBlock = some k → ¬ (Value.slice va9 SS.length vc9).ownBlock = some k from fun k h1 h2 => by have e1 := (oldW k h1).2; have e2 := (ho.low k h2).1; omega)
  have APX9 := Lib.hid (show ∀ k, (Value.slice vaX LL.length vcX).ownBlock = some k → ¬ (Value.slice va9 SS.length vc9).ownBlock = some k from fun k h1 h2 => by have e1 := (oldX k h1).2; have e2 := (ho.low k h2).1; omega)
  have AP29 := Lib.hid (show ∀ k, (Value.slice va2 SS.length vc2).ownBlock = some k → ¬ (Value.slice va9 SS.length vc9).ownBlock = some k from fun k h1 h2 => by have e1 := (old2 k h1).2; have e2 := (ho.low k h2).1; omega)
  have APG9 := Lib.hid (show ∀ k, (Value.slice vaG NN.length vcG).ownBlock = some k → ¬ (Value.slice va9 SS.length vc9).ownBlock = some k from fun k h1 h2 => by have e1 := (oldG k h1).2; have e2 := (ho.low k h2).1; omega)
  have APH9 := Lib.hid (show ∀ k, (Value.slice vaH LL.length vcH).ownBlock = some k → ¬ (Value.slice va9 SS.length vc9).ownBlock = some k from fun k h1 h2 => by have e1 := (oldH k h1).2; have e2 := (ho.low k h2).1; omega)
  have HO9 := Lib.hid (ho.mono (base' := w.heap.size) szw)
  clear szw oldW oldX old2 oldG oldH
  clear ho hsz
  have HOW := Lib.hid (HOW.out.below hb)
  have HOX := Lib.hid (HOX.out.below hb)
  have HO2 := Lib.hid (HO2.out.below hb)
  have HOG := Lib.hid (HOG.out.below hb)
  have HOH := Lib.hid (HOH.out.below hb)
  have HAa := Lib.hid (HAa.out.below (hb.mono HB.out.size))
  have HKa := Lib.hid (HKa.out.from hb)
  have HKW := Lib.hid (HKW.out.from hb)
  have HK2 := Lib.hid (HK2.out.from hb)
  have HKG := Lib.hid (HKG.out.from hb)
  have HB := Lib.hid (HB.out.trans (hb.mono HB.out.size))
  clear hb
  have hS := And.intro (HK2.out.cell (i := 0) rfl) (HKa.out.cell (i := 0) rfl)
  refine hK.out _ _ hS (fun hHeld => ?_)
  clear hK K
  refine wpAnyH_ready (rs := [3]) (by kernel_rfl) (by simp) ?_
  refine AllReadyH.cons rfl (fun K hK => ?_) AllReadyH.nil
  (try simp only [List.getElem_toArray, List.getElem_cons_succ, List.getElem_cons_zero])
  go_simp
  go_at_call 31
  refine (eqMux_same _ _ SS _ _ _ HO2.out.reads HO9.out.reads (Nat.le_refl _) (Nat.le_refl _) HLEN.out).mono ?_
  rintro e y2 ⟨rfl, hb⟩
  have HOW := Lib.hid (HOW.out.below hb)
  have HOX := Lib.hid (HOX.out.below hb)
  have HO2 := Lib.hid (HO2.out.below hb)
  have HOG := Lib.hid (HOG.out.below hb)
  have HOH := Lib.hid (HOH.out.below hb)
  have HO9 := Lib.hid (HO9.out.below hb)
  have HAa := Lib.hid (HAa.out.below (hb.mono HB.out.size))
  have HKa := Lib.hid (HKa.out.from hb)
  have HKW := Lib.hid (HKW.out.from hb)
  have HK2 := Lib.hid (HK2.out.from hb)
  have HKG := Lib.hid (HKG.out.from hb)
  have HB := Lib.hid (HB.out.trans (hb.mono HB.out.size))
  clear hb
  have hS := And.intro (HK2.out.cell (i := 0) rfl) (HKa.out.cell (i := 0) rfl)
  refine hK.out _ _ hS (fun hHeld => ?_)
  clear hK K
  refine wpAnyH_take (i := 4) (v := ?_) rfl (by kernel_rfl) (by kernel_rfl) (by kernel_rfl) (fun _ _ _ h => h) (Or.inl ⟨by rfl, ?_⟩) (by assumption) ?_
  rotate_left
  · intro wq hSw
    (try dsimp only at hSw)
    (try simp only [List.getElem_toArray, List.getElem_cons_succ, List.getElem_cons_zero])
    go_simp
    (try with_reducible rfl)
  simp only [Act.put, List.getElem_toArray, List.getElem_cons_succ, List.getElem_cons_zero, List.setIfInBounds_toArray, List.set_cons_zero, List.set_cons_succ]
  refine wpAnyH_done (by kernel_rfl) ?_ _
  clear hHeld hS
  have ca := HKa.out.cell (i := 0) rfl
  have cW := HKW.out.cell (i := 0) rfl
  have c2 := HK2.out.cell (i := 0) rfl
  have cG := HKG.out.cell (i := 0) rfl
  go_wp2_with fail
  clear ca
  clear cW
  clear c2
  clear cG
  refine (markMux_any _ SS 1 _ _ HO2.out (by omega) (by have := HLEN.out; omega)).mono ?_
  rintro e w8 ⟨rfl, hm, hg⟩
  have HOW := Lib.hid (HOW.out.kept hg (apart_of (fun k h1 h2 => APW2.out k h1 h2)))
  have HOX := Lib.hid (HOX.out.kept hg (apart_of (fun k h1 h2 => APX2.out k h1 h2)))
  have HOG := Lib.hid (HOG.out.kept hg (apart_of (fun k h1 h2 => AP2G.out k h2 h1)))
  have HOH := Lib.hid (HOH.out.kept hg (apart_of (fun k h1 h2 => AP2H.out k h2 h1)))
  have HAa := Lib.hid (HAa.out.below (Below.grown (Below.refl _ _) hg HB.out.size (fun k hk => (HO2.out.low k hk).1)))
  have HKa := Lib.hid (HKa.out.grown hg (fun e => HO2.out.not_box HKa.out (by decide) e))
  have HKW := Lib.hid (HKW.out.grown hg (fun e => HO2.out.not_box HKW.out (by decide) e))
  have HK2 := Lib.hid (HK2.out.grown hg (fun e => HO2.out.not_box HK2.out (by decide) e))
  have HKG := Lib.hid (HKG.out.grown hg (fun e => HO2.out.not_box HKG.out (by decide) e))
  have HB := Lib.hid (HB.out.grown hg HB.out.size (fun k hk => (HO2.out.low k hk).1))
  have HO2 := Lib.hid hm
  clear hm hg
  obtain ⟨k1, hk1⟩ : ∃ k1, k1 = 1 + SS.length := ⟨_, rfl⟩
  rw [← hk1]
  have hk1b : 1 ≤ k1 ∧ k1 ≤ 1048577 := by have := HLEN.out; omega
  clear hk1
  have ca := HKa.out.cell (i := 0) rfl
  have cW := HKW.out.cell (i := 0) rfl
  have c2 := HK2.out.cell (i := 0) rfl
  have cG := HKG.out.cell (i := 0) rfl
  go_wp2_with fail
  clear ca
  clear cW
  clear c2
  clear cG
  refine (eqMux_same _ _ NN _ _ _ HOG.out.reads HOW.out.reads (Nat.le_refl _) (Nat.le_refl _) (by have := hNN; omega)).mono ?_
  rintro e w9 ⟨rfl, hb⟩
  have HOW := Lib.hid (HOW.out.below hb)
  have HOX := Lib.hid (HOX.out.below hb)
  have HOG := Lib.hid (HOG.out.below hb)
  have HOH := Lib.hid (HOH.out.below hb)
  have HAa := Lib.hid (HAa.out.below (hb.mono HB.out.size))
  have HKa := Lib.hid (HKa.out.from hb)
  have HKW := Lib.hid (HKW.out.from hb)
  have HK2 := Lib.hid (HK2.out.from hb)
  have HKG := Lib.hid (HKG.out.from hb)
  have HB := Lib.hid (HB.out.trans (hb.mono HB.out.size))
  clear hb
  have ca := HKa.out.cell (i := 0) rfl
  have cW := HKW.out.cell (i := 0) rfl
  have c2 := HK2.out.cell (i := 0) rfl
  have cG := HKG.out.cell (i := 0) rfl
  go_wp2_with fail
  clear ca
  clear cW
  clear c2
  clear cG
  refine (eqEvents_same _ _ LL _ _ _ _ _ HOH.out.reads HOX.out.reads (Nat.le_refl _) (Nat.le_refl _) (by have := hLL; omega)).mono ?_
  rintro e w10 ⟨rfl, hb⟩
  have HOW := Lib.hid (HOW.out.below hb)
  have HOX := Lib.hid (HOX.out.below hb)
  have HOG := Lib.hid (HOG.out.below hb)
  have HOH := Lib.hid (HOH.out.below hb)
  have HAa := Lib.hid (HAa.out.below (hb.mono HB.out.size))
  have HKa := Lib.hid (HKa.out.from hb)
  have HKW := Lib.hid (HKW.out.from hb)
  have HK2 := Lib.hid (HK2.out.from hb)
  have HKG := Lib.hid (HKG.out.from hb)
  have HB := Lib.hid (HB.out.trans (hb.mono HB.out.size))
  clear hb
  have ca := HKa.out.cell (i := 0) rfl
  have cW := HKW.out.cell (i := 0) rfl
  have c2 := HK2.out.cell (i := 0) rfl
  have cG := HKG.out.cell (i := 0) rfl
  go_wp2_with fail
  clear ca
  clear cW
  clear c2
  clear cG
  refine (markMux_any _ NN 1 _ _ HOG.out (by omega) (by have := hNN; omega)).mono ?_
  rintro e w11 ⟨rfl, hm, hg⟩
  have HOW := Lib.hid (HOW.out.kept hg (apart_of (fun k h1 h2 => APWG.out k h1 h2)))
  have HOX := Lib.hid (HOX.out.kept hg (apart_of (fun k h1 h2 => APXG.out k h1 h2)))
  have HOH := Lib.hid (HOH.out.kept hg (apart_of (fun k h1 h2 => APGH.out k h2 h1)))
  have HAa := Lib.hid (HAa.out.below (Below.grown (Below.refl _ _) hg HB.out.size (fun k hk => (HOG.out.low k hk).1)))
  have HKa := Lib.hid (HKa.out.grown hg (fun e => HOG.out.not_box HKa.out (by decide) e))
  have HKW := Lib.hid (HKW.out.grown hg (fun e => HOG.out.not_box HKW.out (by decide) e))
  have HK2 := Lib.hid (HK2.out.grown hg (fun e => HOG.out.not_box HK2.out (by decide) e))
  have HKG := Lib.hid (HKG.out.grown hg (fun e => HOG.out.not_box HKG.out (by decide) e))
  have HB := Lib.hid (HB.out.grown hg HB.out.size (fun k hk => (HOG.out.low k hk).1))
  have HOG := Lib.hid hm
  clear hm hg
  obtain ⟨k2, hk2⟩ : ∃ k2, k2 = 1 + NN.length := ⟨_, rfl⟩
  rw [← hk2]
  have hk2b : 1 ≤ k2 ∧ k2 ≤ 1000 := by have := hNN; omega
  have HK22 := Lib.hid hk2
  clear hk2
  have ca := HKa.out.cell (i := 0) rfl
  have cW := HKW.out.cell (i := 0) rfl
  have c2 := HK2.out.cell (i := 0) rfl
  have cG := HKG.out.cell (i := 0) rfl
  go_wp2_with fail
  clear ca
  clear cW
  clear c2
  clear cG
  refine (markK_any k2 _ LL _ _ (by omega) HOH.out (by have := hLL; omega)).mono ?_
  rintro e w12 ⟨rfl, hm, hg⟩
  have HOW := Lib.hid (HOW.out.kept hg (apart_of (fun k h1 h2 => APWH.out k h1 h2)))
  have HOX := Lib.hid (HOX.out.kept hg (apart_of (fun k h1 h2 => APXH.out k h1 h2)))
  have HOG := Lib.hid (HOG.out.kept hg (apart_of (fun k h1 h2 => APGH.out k h1 h2)))
  have HAa := Lib.hid (HAa.out.below (Below.grown (Below.refl _ _) hg HB.out.size (fun k hk => (HOH.out.low k hk).1)))
  have HKa := Lib.hid (HKa.out.grown hg (fun e => HOH.out.not_box HKa.out (by decide) e))
  have HKW := Lib.hid (HKW.out.grown hg (fun e => HOH.out.not_box HKW.out (by decide) e))
  have HK2 := Lib.hid (HK2.out.grown hg (fun e => HOH.out.not_box HK2.out (by decide) e))
  have HKG := Lib.hid (HKG.out.grown hg (fun e => HOH.out.not_box HKG.out (by decide) e))
  have HB := Lib.hid (HB.out.grown hg HB.out.size (fun k hk => (HOH.out.low k hk).1))
  have HOH := Lib.hid hm
  clear hm hg
  have hll := hLL
  have ca := HKa.out.cell (i := 0) rfl
  have cW := HKW.out.cell (i := 0) rfl
  have c2 := HK2.out.cell (i := 0) rfl
  have cG := HKG.out.cell (i := 0) rfl
  go_wp2_with fail
  clear ca
  clear cW
  clear c2
  clear cG
  refine (heldMux_any _ 1 NN.length _ _ HOG.out.reads (Nat.le_refl _) (by omega) (by have := hNN; omega)).mono ?_
  rintro e w13 ⟨rfl, hb⟩
  have HOW := Lib.hid (HOW.out.below hb)
  have HOX := Lib.hid (HOX.out.below hb)
  have HOG := Lib.hid (HOG.out.below hb)
  have HOH := Lib.hid (HOH.out.below hb)
  have HAa := Lib.hid (HAa.out.below (hb.mono HB.out.size))
  have HKa := Lib.hid (HKa.out.from hb)
  have HKW := Lib.hid (HKW.out.from hb)
  have HK2 := Lib.hid (HK2.out.from hb)
  have HKG := Lib.hid (HKG.out.from hb)
  have HB := Lib.hid (HB.out.trans (hb.mono HB.out.size))
  clear hb
  rw [← HK22.out]
  have ca := HKa.out.cell (i := 0) rfl
  have cW := HKW.out.cell (i := 0) rfl
  have c2 := HK2.out.cell (i := 0) rfl
  have cG := HKG.out.cell (i := 0) rfl
  go_wp2_with fail
  clear ca
  clear cW
  clear c2
  clear cG
  refine (heldK_any k2 _ LL.length _ _ _ (by omega) HOH.out.reads (Nat.le_refl _) (by have := hLL; omega)).mono ?_
  rintro e w14 ⟨rfl, hb⟩
  have HOW := Lib.hid (HOW.out.below hb)
  have HOX := Lib.hid (HOX.out.below hb)
  have HOG := Lib.hid (HOG.out.below hb)
  have HOH := Lib.hid (HOH.out.below hb)
  have HAa := Lib.hid (HAa.out.below (hb.mono HB.out.size))
  have HKa := Lib.hid (HKa.out.from hb)
  have HKW := Lib.hid (HKW.out.from hb)
  have HK2 := Lib.hid (HK2.out.from hb)
  have HKG := Lib.hid (HKG.out.from hb)
  have HB := Lib.hid (HB.out.trans (hb.mono HB.out.size))
  clear hb
  have ca := HKa.out.cell (i := 0) rfl
  have cW := HKW.out.cell (i := 0) rfl
  have c2 := HK2.out.cell (i := 0) rfl
  have cG := HKG.out.cell (i := 0) rfl
  go_wp2_with fail
  clear ca
  clear cW
  clear c2
  clear cG
  refine (toMux_any _ SS _ _ HAa.out HB.out.size HLEN.out).mono ?_
  rintro e w15 ⟨⟨vu, rfl, ho⟩, hb⟩
  obtain ⟨vau, vcu, rfl⟩ := ho.reads.shape
  have szw := HB.out.size
  have oldW := HOW.out.low
  have oldX := HOX.out.low
  have oldG := HOG.out.low
  have oldH := HOH.out.low
  have hsz := hb.size
  have APWu := Lib.hid (show ∀ k, (Value.slice vaW NN.length vcW).ownBlock = some k → ¬ (Value.slice vau SS.length vcu).ownBlock = some k from fun k h1 h2 => by have e1 := (oldW k h1).2; have e2 := (ho.low k h2).1; omega)
  have APXu := Lib.hid (show ∀ k, (Value.slice vaX LL.length vcX).ownBlock = some k → ¬ (Value.slice vau SS.length vcu).ownBlock = some k from fun k h1 h2 => by have e1 := (oldX k h1).2; have e2 := (ho.low k h2).1; omega)
  have APGu := Lib.hid (show ∀ k, (Value.slice vaG NN.length vcG).ownBlock = some k → ¬ (Value.slice vau SS.length vcu).ownBlock = some k from fun k h1 h2 => by have e1 := (oldG k h1).2; have e2 := (ho.low k h2).1; omega)
  have APHu := Lib.hid (show ∀ k, (Value.slice vaH LL.length vcH).ownBlock = some k → ¬ (Value.slice vau SS.length vcu).ownBlock = some k from fun k h1 h2 => by have e1 := (oldH k h1).2; have e2 := (ho.low k h2).1; omega)
  have HOu := Lib.hid (ho.mono (base' := w.heap.size) szw)
  clear szw oldW oldX oldG oldH
  clear ho hsz
  have HOW := Lib.hid (HOW.out.below hb)
  have HOX := Lib.hid (HOX.out.below hb)
  have HOG := Lib.hid (HOG.out.below hb)
  have HOH := Lib.hid (HOH.out.below hb)
  have HAa := Lib.hid (HAa.out.below (hb.mono HB.out.size))
  have HKa := Lib.hid (HKa.out.from hb)
  have HKW := Lib.hid (HKW.out.from hb)
  have HK2 := Lib.hid (HK2.out.from hb)
  have HKG := Lib.hid (HKG.out.from hb)
  have HB := Lib.hid (HB.out.trans (hb.mono HB.out.size))
  clear hb
  have ca := HKa.out.cell (i := 0) rfl
  have cW := HKW.out.cell (i := 0) rfl
  have c2 := HK2.out.cell (i := 0) rfl
  have cG := HKG.out.cell (i := 0) rfl
  go_wp2_with fail
  clear ca
  clear cW
  clear c2
  clear cG
  refine (HIM _ _ HOu.out.reads).mono ?_
  rintro e w16 ⟨va, vb, rfl, ho, hu, hb⟩
  have hab := os_oe_apart ho hu
  obtain ⟨vaI, vcI, rfl⟩ := ho.reads.shape
  obtain ⟨vaJ, vcJ, rfl⟩ := hu.reads.shape
  have szw := HB.out.size
  have oldW := HOW.out.low
  have oldX := HOX.out.low
  have oldG := HOG.out.low
  have oldH := HOH.out.low
  have oldu := HOu.out.low
  have hsz := hb.size
  have APWI := Lib.hid (show ∀ k, (Value.slice vaW NN.length vcW).ownBlock = some k → ¬ (Value.slice vaI NN.length vcI).ownBlock = some k from fun k h1 h2 => by have e1 := (oldW k h1).2; have e2 := (ho.low k h2).1; omega)
  have APXI := Lib.hid (show ∀ k, (Value.slice vaX LL.length vcX).ownBlock = some k → ¬ (Value.slice vaI NN.length vcI).ownBlock = some k from fun k h1 h2 => by have e1 := (oldX k h1).2; have e2 := (ho.low k h2).1; omega)
  have APGI := Lib.hid (show ∀ k, (Value.slice vaG NN.length vcG).ownBlock = some k → ¬ (Value.slice vaI NN.length vcI).ownBlock = some k from fun k h1 h2 => by have e1 := (oldG k h1).2; have e2 := (ho.low k h2).1; omega)
  have APHI := Lib.hid (show ∀ k, (Value.slice vaH LL.length vcH).ownBlock = some k → ¬ (Value.slice vaI NN.length vcI).ownBlock = some k from fun k h1 h2 => by have e1 := (oldH k h1).2; have e2 := (ho.low k h2).1; omega)
  have APuI := Lib.hid (show ∀ k, (Value.slice vau SS.length vcu).ownBlock = some k → ¬ (Value.slice vaI NN.length vcI).ownBlock = some k from fun k h1 h2 => by have e1 := (oldu k h1).2; have e2 := (ho.low k h2).1; omega)
  have HOI := Lib.hid (ho.mono (base' := w.heap.size) szw)
  have APWJ := Lib.hid (show ∀ k, (Value.slice vaW NN.length vcW).ownBlock = some k → ¬ (Value.slice vaJ LL.length vcJ).ownBlock = some k from fun k h1 h2 => by have e1 := (oldW k h1).2; have e2 := (hu.low k h2).1; omega)
  have APXJ := Lib.hid (show ∀ k, (Value.slice vaX LL.length vcX).ownBlock = some k → ¬ (Value.slice vaJ LL.length vcJ).ownBlock = some k from fun k h1 h2 => by have e1 := (oldX k h1).2; have e2 := (hu.low k h2).1; omega)
  have APGJ := Lib.hid (show ∀ k, (Value.slice vaG NN.length vcG).ownBlock = some k → ¬ (Value.slice vaJ LL.length vcJ).ownBlock = some k from fun k h1 h2 => by have e1 := (oldG k h1).2; have e2 := (hu.low k h2).1; omega)
  have APHJ := Lib.hid (show ∀ k, (Value.slice vaH LL.length vcH).ownBlock = some k → ¬ (Value.slice vaJ LL.length vcJ).ownBlock = some k from fun k h1 h2 => by have e1 := (oldH k h1).2; have e2 := (hu.low k h2).1; omega)
  have APuJ := Lib.hid (show ∀ k, (Value.slice vau SS.length vcu).ownBlock = some k → ¬ (Value.slice vaJ LL.length vcJ).ownBlock = some k from fun k h1 h2 => by have e1 := (oldu k h1).2; have e2 := (hu.low k h2).1; omega)
  have HOJ := Lib.hid (hu.mono (base' := w.heap.size) szw)
  have APIJ := Lib.hid (show ∀ k, (Value.slice vaI NN.length vcI).ownBlock = some k → ¬ (Value.slice vaJ LL.length vcJ).ownBlock = some k from fun k h1 h2 => by rcases hab with e | e; (rw [e] at h1; cases h1); exact e (h1.trans h2.symm))
  clear szw oldW oldX oldG oldH oldu
  clear ho hu hsz hab
  have HOW := Lib.hid (HOW.out.below hb)
  have HOX := Lib.hid (HOX.out.below hb)
  have HOG := Lib.hid (HOG.out.below hb)
  have HOH := Lib.hid (HOH.out.below hb)
  have HOu := Lib.hid (HOu.out.below hb)
  have HAa := Lib.hid (HAa.out.below (hb.mono HB.out.size))
  have HKa := Lib.hid (HKa.out.from hb)
  have HKW := Lib.hid (HKW.out.from hb)
  have HK2 := Lib.hid (HK2.out.from hb)
  have HKG := Lib.hid (HKG.out.from hb)
  have HB := Lib.hid (HB.out.trans (hb.mono HB.out.size))
  clear hb
  have hbx := (Below.refl _ w16).alloc (Nat.le_refl _) (.cells #[(.slice vaI NN.length vcI)] 35)
  have HKI := Lib.hid (BK.new w16 #[(.slice vaI NN.length vcI)] 35)
  have HOW := Lib.hid (HOW.out.below hbx)
  have HOX := Lib.hid (HOX.out.below hbx)
  have HOG := Lib.hid (HOG.out.below hbx)
  have HOH := Lib.hid (HOH.out.below hbx)
  have HOu := Lib.hid (HOu.out.below hbx)
  have HOI := Lib.hid (HOI.out.below hbx)
  have HOJ := Lib.hid (HOJ.out.below hbx)
  have HAa := Lib.hid (HAa.out.below (hbx.mono HB.out.size))
  have HKa := Lib.hid (HKa.out.from hbx)
  have HKW := Lib.hid (HKW.out.from hbx)
  have HK2 := Lib.hid (HK2.out.from hbx)
  have HKG := Lib.hid (HKG.out.from hbx)
  have HB := Lib.hid (HB.out.trans (hbx.mono HB.out.size))
  clear hbx
  have ca := HKa.out.cell (i := 0) rfl
  have cW := HKW.out.cell (i := 0) rfl
  have c2 := HK2.out.cell (i := 0) rfl
  have cG := HKG.out.cell (i := 0) rfl
  have cI := HKI.out.cell (i := 0) rfl
  go_wp2_with fail
  clear ca
  clear cW
  clear c2
  clear cG
  clear cI
  refine (eqMux_same _ _ NN _ _ _ HOI.out.reads HOW.out.reads (Nat.le_refl _) (Nat.le_refl _) (by have := hNN; omega)).mono ?_
  rintro e w17 ⟨rfl, hb⟩
  have HOW := Lib.hid (HOW.out.below hb)
  have HOX := Lib.hid (HOX.out.below hb)
  have HOG := Lib.hid (HOG.out.below hb)
  have HOH := Lib.hid (HOH.out.below hb)
  have HOI := Lib.hid (HOI.out.below hb)
  have HOJ := Lib.hid (HOJ.out.below hb)
  have HAa := Lib.hid (HAa.out.below (hb.mono HB.out.size))
  have HKa := Lib.hid (HKa.out.from hb)
  have HKW := Lib.hid (HKW.out.from hb)
  have HK2 := Lib.hid (HK2.out.from hb)
  have HKG := Lib.hid (HKG.out.from hb)
  have HKI := Lib.hid (HKI.out.from hb)
  have HB := Lib.hid (HB.out.trans (hb.mono HB.out.size))
  clear hb
  have ca := HKa.out.cell (i := 0) rfl
  have cW := HKW.out.cell (i := 0) rfl
  have c2 := HK2.out.cell (i := 0) rfl
  have cG := HKG.out.cell (i := 0) rfl
  have cI := HKI.out.cell (i := 0) rfl
  go_wp2_with fail
  clear ca
  clear cW
  clear c2
  clear cG
  clear cI
  refine (eqEvents_same _ _ LL _ _ _ _ _ HOJ.out.reads HOX.out.reads (Nat.le_refl _) (Nat.le_refl _) (by have := hLL; omega)).mono ?_
  rintro e w18 ⟨rfl, hb⟩
  have HOW := Lib.hid (HOW.out.below hb)
  have HOX := Lib.hid (HOX.out.below hb)
  have HOG := Lib.hid (HOG.out.below hb)
  have HOH := Lib.hid (HOH.out.below hb)
  have HOI := Lib.hid (HOI.out.below hb)
  have HOJ := Lib.hid (HOJ.out.below hb)
  have HAa := Lib.hid (HAa.out.below (hb.mono HB.out.size))
  have HKa := Lib.hid (HKa.out.from hb)
  have HKW := Lib.hid (HKW.out.from hb)
  have HK2 := Lib.hid (HK2.out.from hb)
  have HKG := Lib.hid (HKG.out.from hb)
  have HKI := Lib.hid (HKI.out.from hb)
  have HB := Lib.hid (HB.out.trans (hb.mono HB.out.size))
  clear hb
  have ca := HKa.out.cell (i := 0) rfl
  have cW := HKW.out.cell (i := 0) rfl
  have c2 := HK2.out.cell (i := 0) rfl
  have cG := HKG.out.cell (i := 0) rfl
  have cI := HKI.out.cell (i := 0) rfl
  go_wp2_with fail
  clear ca
  clear cW
  clear c2
  clear cG
  clear cI
  refine (heldMux_any _ 1 NN.length _ _ HOG.out.reads (Nat.le_refl _) (by omega) (by have := hNN; omega)).mono ?_
  rintro e w19 ⟨rfl, hb⟩
  have HOW := Lib.hid (HOW.out.below hb)
  have HOX := Lib.hid (HOX.out.below hb)
  have HOG := Lib.hid (HOG.out.below hb)
  have HOH := Lib.hid (HOH.out.below hb)
  have HOI := Lib.hid (HOI.out.below hb)
  have HOJ := Lib.hid (HOJ.out.below hb)
  have HAa := Lib.hid (HAa.out.below (hb.mono HB.out.size))
  have HKa := Lib.hid (HKa.out.from hb)
  have HKW := Lib.hid (HKW.out.from hb)
  have HK2 := Lib.hid (HK2.out.from hb)
  have HKG := Lib.hid (HKG.out.from hb)
  have HKI := Lib.hid (HKI.out.from hb)
  have HB := Lib.hid (HB.out.trans (hb.mono HB.out.size))
  clear hb
  rw [← HK22.out]
  have ca := HKa.out.cell (i := 0) rfl
  have cW := HKW.out.cell (i := 0) rfl
  have c2 := HK2.out.cell (i := 0) rfl
  have cG := HKG.out.cell (i := 0) rfl
  have cI := HKI.out.cell (i := 0) rfl
  go_wp2_with fail
  clear ca
  clear cW
  clear c2
  clear cG
  clear cI
  refine (heldK_any k2 _ LL.length _ _ _ (by omega) HOH.out.reads (Nat.le_refl _) (by have := hLL; omega)).mono ?_
  rintro e w20 ⟨rfl, hb⟩
  have HOW := Lib.hid (HOW.out.below hb)
  have HOX := Lib.hid (HOX.out.below hb)
  have HOG := Lib.hid (HOG.out.below hb)
  have HOH := Lib.hid (HOH.out.below hb)
  have HOI := Lib.hid (HOI.out.below hb)
  have HOJ := Lib.hid (HOJ.out.below hb)
  have HAa := Lib.hid (HAa.out.below (hb.mono HB.out.size))
  have HKa := Lib.hid (HKa.out.from hb)
  have HKW := Lib.hid (HKW.out.from hb)
  have HK2 := Lib.hid (HK2.out.from hb)
  have HKG := Lib.hid (HKG.out.from hb)
  have HKI := Lib.hid (HKI.out.from hb)
  have HB := Lib.hid (HB.out.trans (hb.mono HB.out.size))
  clear hb
  go_wp2
  go_ret
  exact ⟨rfl, HB.out⟩
theorem own : ownKnob Try.prog.godebug = none := by kernel_rfl
theorem laidOut : laidOutB Try.prog = true := by kernel_rfl
set_option maxRecDepth 100000 in
theorem lifted (os : Os) (started : os.Started) (H : Type) (enc : TypeId × Value → H) :
    ReturnsInHanded {} Try.checked os 7 .any (Rows.fnExactMuxTakeSpec.pre6 enc Try.prog Try.f7 Rows.fnExactMuxTakeRow.domain false) (Rows.fnExactMuxTakeSpec.post enc Try.prog Try.f7 false true false false) := by
  refine returnsInHanded_of_change (C := Try.checked) own started (by kernel_rfl) Try.func7
    (ChangeSpec.witness6 (enc := enc) (C := Try.checked) false ⟨#[], #[.agg #[.slice none 0 0], .string .empty], []⟩ 8 (by kernel_rfl) (by kernel_rfl) (by kernel_rfl) (by kernel_rfl)) ?_
  intro W base args ds gs before hval0 hW hcnd _
  have hval : ∀ (j : Nat) t v, Try.f7.params[j]? = some t → args[j]? = some v → Value.okWide Try.prog W .any base t v := hval0
  have hW' := hW
  obtain ⟨p, q, hA0, hV, rfl, hfz, hnd⟩ := hW
  have hA : DataW.TrodAll enc Try.prog W 0 (fun _ => true) true Try.f7.params.toList args.toList ds p := hA0
  rw [Try.params7] at hA hval
  obtain ⟨v0, vs0, d0, ds0, p0, q0, hargs, rfl, rfl, h0, r0⟩ := trodAll_cons hA
  obtain ⟨v1, vs1, d1, ds1, p1, q1, rfl, rfl, rfl, h1, r1⟩ := trodAll_cons r0
  obtain ⟨rfl, rfl, rfl⟩ := trodAll_nil r1
  obtain rfl : args = #[v0, v1] := by cases args; simp_all
  obtain ⟨rfl, rfl⟩ := trodVars_none hV
  have k0 := h0
  have lt0 : ∀ x ∈ p0, x.block < W.heap.size := by obtain ⟨m, hm⟩ := k0; exact DataW.trod_lt m _ _ _ hm
  obtain ⟨a0, len0, cap0, z0, hmux0, w0⟩ := isMux_open (hval 0 50 v0 rfl rfl) h0
  subst hmux0
  obtain ⟨s1, rfl, rfl, rfl, w1⟩ := open_string Try.underlying9 (hval 1 9 v1 rfl rfl) h1
  clear hA0 hval0
  refine (walk a0 len0 cap0 z0 s1 W w0 w1).mono fun e W' ⟨he, bel⟩ => ?_
  subst he
  exact ⟨_, rfl, _, _, _, [], _, [], hW', trodAll_mk1 (shut_bool Try.underlying4 _), (trodAll_cons_mk (Below.trod laidOut (by kernel_rfl) (of_decide_eq_true (by kernel_rfl)) k0 bel lt0) (trodAll_cons_mk (shut_string Try.underlying9 w1) trodAll_mk0)), rfl, bel.frame _, fun h => by cases h⟩
theorem over : Rows.fnExactMuxTakeRow.holds Try.pinned (OpenSpec.ofChange Rows.fnExactMuxTakeSpec) :=
  OpenClaim.holds_of_wide 7 Try.f7 rfl rfl rfl rfl rfl rfl rfl ⟨rfl, rfl, rfl, rfl, rfl⟩ rfl rfl rfl rfl rfl (by kernel_rfl) Try.func7 (by kernel_rfl)
    (of_decide_eq_true (by kernel_rfl)) (by unfold Func.isWrapper; first | (rw [if_pos (by decide +kernel)]; kernel_rfl) | (rw [if_neg (by decide +kernel)]; exact ⟨rfl, rfl⟩))
    (fun os started H enc _ => lifted os started H enc)
theorem proved : Rows.FnExactMuxTakeSaid := over
end Go.Proofs.Ytplaagkcamjemaa.fnExactMuxTake
