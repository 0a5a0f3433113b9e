/- FnExactMuxWeave: MuxWeave of the program answers as the model's, at every two lists and turns; it writes into none, and its answer owns its memory. No condition. -/
import Derived.Test.YtiffeddeobhndaaKitA
import Derived.Test.YtiffeddeobhndaaMxX
namespace Go.Proofs.Ytiffeddeobhndaa.fnExactMuxWeave
open Go.ChangeShapes Go.WideShapes Go.ChangeAt Go.RowKit
open Go.ChangeMaps (open_string shut_string)
set_option linter.unusedVariables false
set_option maxRecDepth 100000 in
set_option maxHeartbeats 8000000 in
theorem walk (a0 : Option Addr) (len0 cap0 : Nat) (z0 : List ByteArray) (a1 : Option Addr) (len1 cap1 : Nat) (z1 : List ByteArray) (a2 : Option Addr) (len2 cap2 : Nat) (z2 : List Bool) (w : World) (w0 : IsStrs w a0 len0 cap0 z0) (w1 : IsStrs w a1 len1 cap1 z1) (w2 : IsBools w a2 len2 cap2 z2) :
    Calls Try.prog 13 #[.slice a0 len0 cap0, .slice a1 len1 cap1, .slice a2 len2 cap2] w fun e w' => e = .returned (.bool true) ∧ Below w.heap.size w w' := by
  obtain ⟨hr, hlen, hz⟩ := RS.of_arg w0
  have hw0 : len0 ≤ maxLen := by
    rcases w0 with ⟨_, rfl, _⟩ | ⟨x, _, h1, h2, _⟩
    · exact Nat.zero_le _
    · omega
  generalize z0.take len0 = SA at hr hlen hz
  subst hlen
  have HAa := Lib.hid hr
  have HMZa := Lib.hid hz
  clear w0 hr hz
  obtain ⟨hr, hlen, hz⟩ := RS.of_arg w1
  have hw1 : len1 ≤ maxLen := by
    rcases w1 with ⟨_, rfl, _⟩ | ⟨x, _, h1, h2, _⟩
    · exact Nat.zero_le _
    · omega
  generalize z1.take len1 = SB at hr hlen hz
  subst hlen
  have HAb := Lib.hid hr
  have HMZb := Lib.hid hz
  clear w1 hr hz
  obtain ⟨hr, hlen, hw2⟩ := RO.of_arg w2
  generalize z2.take len2 = ST at hr hlen
  subst hlen
  have HAt := Lib.hid hr
  clear w2 hr
  by_cases hbig : 1048576 < ST.length
  · go_enter Try.func13, Try.ntmps13
    go_wp2
    go_ret
    exact ⟨rfl, Below.refl _ _⟩
  have hST : ST.length ≤ 1048576 := by omega
  clear hbig
  have HB := Lib.hid (Below.refl w.heap.size w)
  go_enter Try.func13, Try.ntmps13
  go_wp2_with fail
  refine (szT_any _ SA 1048576 _ _ HAa.out (by omega) hw0 HMZa.out).mono ?_
  rintro e x1 ⟨x, rfl, hb, hx⟩
  have HAa := Lib.hid (HAa.out.below (hb.mono HB.out.size))
  have HAb := Lib.hid (HAb.out.below (hb.mono HB.out.size))
  have HAt := Lib.hid (HAt.out.below (hb.mono HB.out.size))
  have HB := Lib.hid (HB.out.trans (hb.mono HB.out.size))
  clear hb
  rcases hx with rfl | ⟨ya, rfl, hlSA, hzsSA⟩
  · go_wp2
    go_ret
    exact ⟨rfl, HB.out⟩
  have HZSSA := Lib.hid hzsSA
  clear hzsSA
  go_wp2_with fail
  refine (szT_any _ SB ya _ _ HAb.out (by omega) hw1 HMZb.out).mono ?_
  rintro e x2 ⟨x, rfl, hb, hx⟩
  have HAa := Lib.hid (HAa.out.below (hb.mono HB.out.size))
  have HAb := Lib.hid (HAb.out.below (hb.mono HB.out.size))
  have HAt := Lib.hid (HAt.out.below (hb.mono HB.out.size))
  have HB := Lib.hid (HB.out.trans (hb.mono HB.out.size))
  clear hb
  rcases hx with rfl | ⟨yb, rfl, hlSB, hzsSB⟩
  · go_wp2
    go_ret
    exact ⟨rfl, HB.out⟩
  have HZSSB := Lib.hid hzsSB
  clear hzsSB
  have hSA : SA.length ≤ 1048576 := by omega
  have hSB : SB.length ≤ 1048576 := by omega
  obtain ⟨SS, hSS⟩ : ∃ SS, SS = weaveL SA SB ST 0 := ⟨_, rfl⟩
  have HLS := Lib.hid (show SS.length ≤ 1048576 by rw [hSS, weaveL_len]; omega)
  have HALL := Lib.hid (show ∀ q ∈ SA ++ SB, q.size ≤ 1048576 from fun q hq => by rcases List.mem_append.1 hq with h | h; exact HZSSA.out q h; exact HZSSB.out q h)
  have HSP := Lib.hid (show ∀ (W : World) (v1 v2 v3 : Value), RC W W.heap.size v1 SA → RC W W.heap.size v2 SB → RO W W.heap.size v3 ST → Calls Try.prog 33 #[v1, v2, v3] W (fun e w' => (∃ v, e = .returned v ∧ OS w' W.heap.size v SS) ∧ Below W.heap.size W w') from fun W v1 v2 v3 h1 h2 h3 => by rw [hSS]; exact specWeave_any v1 v2 v3 SA SB ST W _ h1 h2 h3 (Nat.le_refl _) hSA hSB hST HALL.out)
  have HIM := Lib.hid (show ∀ (W : World) (v1 v2 v3 : Value), RC W W.heap.size v1 SA → RC W W.heap.size v2 SB → RO W W.heap.size v3 ST → Calls Try.prog 32 #[v1, v2, v3] W (fun e w' => (∃ v, e = .returned v ∧ OS w' W.heap.size v SS) ∧ Below W.heap.size W w') from fun W v1 v2 v3 h1 h2 h3 => by rw [hSS]; exact implWeave_any v1 v2 v3 SA SB ST W _ h1 h2 h3 (Nat.le_refl _) hSA hSB hST HALL.out)
  clear hSS
  go_wp2_with fail
  refine (copy_any _ SA _ _ HAa.out HB.out.size hSA).mono ?_
  rintro e w1 ⟨⟨v1, rfl, ho0⟩, hb⟩
  have ho : OS w1 _ v1 SA := ho0
  clear ho0
  obtain ⟨va1, vc1, rfl⟩ := ho.reads.shape
  have szw := HB.out.size
  have hsz := hb.size
  have HO1 := Lib.hid (ho.mono (base' := w.heap.size) szw)
  clear szw
  clear ho hsz
  have HAa := Lib.hid (HAa.out.below (hb.mono HB.out.size))
  have HAb := Lib.hid (HAb.out.below (hb.mono HB.out.size))
  have HAt := Lib.hid (HAt.out.below (hb.mono HB.out.size))
  have HB := Lib.hid (HB.out.trans (hb.mono HB.out.size))
  clear hb
  go_wp2_with fail
  refine (copy_any _ SB _ _ HAb.out HB.out.size hSB).mono ?_
  rintro e w2 ⟨⟨v2, rfl, ho0⟩, hb⟩
  have ho : OS w2 _ v2 SB := ho0
  clear ho0
  obtain ⟨va2, vc2, rfl⟩ := ho.reads.shape
  have szw := HB.out.size
  have old1 := HO1.out.low
  have hsz := hb.size
  have AP12 := Lib.hid (show ∀ k, (Value.slice va1 SA.length vc1).ownBlock = some k → ¬ (Value.slice va2 SB.length vc2).ownBlock = some k from fun k h1 h2 => by have e1 := (old1 k h1).2; have e2 := (ho.low k h2).1; omega)
  have HO2 := Lib.hid (ho.mono (base' := w.heap.size) szw)
  clear szw old1
  clear ho hsz
  have HO1 := Lib.hid (HO1.out.below hb)
  have HAa := Lib.hid (HAa.out.below (hb.mono HB.out.size))
  have HAb := Lib.hid (HAb.out.below (hb.mono HB.out.size))
  have HAt := Lib.hid (HAt.out.below (hb.mono HB.out.size))
  have HB := Lib.hid (HB.out.trans (hb.mono HB.out.size))
  clear hb
  go_wp2_with fail
  refine (toBools_any _ ST _ _ HAt.out HB.out.size hST).mono ?_
  rintro e w3 ⟨⟨v3, rfl, ho0⟩, hb⟩
  have ho : OO w3 _ v3 ST := ho0
  clear ho0
  obtain ⟨va3, vc3, rfl⟩ := ho.reads.shape
  have szw := HB.out.size
  have old1 := HO1.out.low
  have old2 := HO2.out.low
  have hsz := hb.size
  have AP13 := Lib.hid (show ∀ k, (Value.slice va1 SA.length vc1).ownBlock = some k → ¬ (Value.slice va3 ST.length vc3).ownBlock = some k from fun k h1 h2 => by have e1 := (old1 k h1).2; have e2 := (ho.low k h2).1; omega)
  have AP23 := Lib.hid (show ∀ k, (Value.slice va2 SB.length vc2).ownBlock = some k → ¬ (Value.slice va3 ST.length vc3).ownBlock = some k from fun k h1 h2 => by have e1 := (old2 k h1).2; have e2 := (ho.low k h2).1; omega)
  have HO3 := Lib.hid (ho.mono (base' := w.heap.size) szw)
  clear szw old1 old2
  clear ho hsz
  have HO1 := Lib.hid (HO1.out.below hb)
  have HO2 := Lib.hid (HO2.out.below hb)
  have HAa := Lib.hid (HAa.out.below (hb.mono HB.out.size))
  have HAb := Lib.hid (HAb.out.below (hb.mono HB.out.size))
  have HAt := Lib.hid (HAt.out.below (hb.mono HB.out.size))
  have HB := Lib.hid (HB.out.trans (hb.mono HB.out.size))
  clear hb
  go_wp2_with fail
  refine (HSP.out _ _ _ _ (RC.of_own HO1.out) (RC.of_own HO2.out) HO3.out.reads).mono ?_
  rintro e w4 ⟨⟨vS, rfl, ho0⟩, hb⟩
  have ho : OS w4 _ vS SS := ho0
  clear ho0
  obtain ⟨vaS, vcS, rfl⟩ := ho.reads.shape
  have szw := HB.out.size
  have old1 := HO1.out.low
  have old2 := HO2.out.low
  have old3 := HO3.out.low
  have hsz := hb.size
  have AP1S := Lib.hid (show ∀ k, (Value.slice va1 SA.length vc1).ownBlock = some k → ¬ (Value.slice vaS SS.length vcS).ownBlock = some k from fun k h1 h2 => by have e1 := (old1 k h1).2; have e2 := (ho.low k h2).1; omega)
  have AP2S := Lib.hid (show ∀ k, (Value.slice va2 SB.length vc2).ownBlock = some k → ¬ (Value.slice vaS SS.length vcS).ownBlock = some k from fun k h1 h2 => by have e1 := (old2 k h1).2; have e2 := (ho.low k h2).1; omega)
  have AP3S := Lib.hid (show ∀ k, (Value.slice va3 ST.length vc3).ownBlock = some k → ¬ (Value.slice vaS SS.length vcS).ownBlock = some k from fun k h1 h2 => by have e1 := (old3 k h1).2; have e2 := (ho.low k h2).1; omega)
  have HOS := Lib.hid (ho.mono (base' := w.heap.size) szw)
  clear szw old1 old2 old3
  clear ho hsz
  have HO1 := Lib.hid (HO1.out.below hb)
  have HO2 := Lib.hid (HO2.out.below hb)
  have HO3 := Lib.hid (HO3.out.below hb)
  have HAa := Lib.hid (HAa.out.below (hb.mono HB.out.size))
  have HAb := Lib.hid (HAb.out.below (hb.mono HB.out.size))
  have HAt := Lib.hid (HAt.out.below (hb.mono HB.out.size))
  have HB := Lib.hid (HB.out.trans (hb.mono HB.out.size))
  clear hb
  go_wp2_with fail
  refine (copy_any _ SA _ _ HAa.out HB.out.size hSA).mono ?_
  rintro e w5 ⟨⟨v4, rfl, ho0⟩, hb⟩
  have ho : OS w5 _ v4 SA := ho0
  clear ho0
  obtain ⟨va4, vc4, rfl⟩ := ho.reads.shape
  have szw := HB.out.size
  have oldS := HOS.out.low
  have hsz := hb.size
  have APS4 := Lib.hid (show ∀ k, (Value.slice vaS SS.length vcS).ownBlock = some k → ¬ (Value.slice va4 SA.length vc4).ownBlock = some k from fun k h1 h2 => by have e1 := (oldS k h1).2; have e2 := (ho.low k h2).1; omega)
  have HO4 := Lib.hid (ho.mono (base' := w.heap.size) szw)
  clear szw oldS
  clear ho hsz
  have HOS := Lib.hid (HOS.out.below hb)
  have HAa := Lib.hid (HAa.out.below (hb.mono HB.out.size))
  have HAb := Lib.hid (HAb.out.below (hb.mono HB.out.size))
  have HAt := Lib.hid (HAt.out.below (hb.mono HB.out.size))
  have HB := Lib.hid (HB.out.trans (hb.mono HB.out.size))
  clear hb
  go_wp2_with fail
  refine (copy_any _ SB _ _ HAb.out HB.out.size hSB).mono ?_
  rintro e w6 ⟨⟨v5, rfl, ho0⟩, hb⟩
  have ho : OS w6 _ v5 SB := ho0
  clear ho0
  obtain ⟨va5, vc5, rfl⟩ := ho.reads.shape
  have szw := HB.out.size
  have oldS := HOS.out.low
  have old4 := HO4.out.low
  have hsz := hb.size
  have APS5 := Lib.hid (show ∀ k, (Value.slice vaS SS.length vcS).ownBlock = some k → ¬ (Value.slice va5 SB.length vc5).ownBlock = some k from fun k h1 h2 => by have e1 := (oldS k h1).2; have e2 := (ho.low k h2).1; omega)
  have AP45 := Lib.hid (show ∀ k, (Value.slice va4 SA.length vc4).ownBlock = some k → ¬ (Value.slice va5 SB.length vc5).ownBlock = some k from fun k h1 h2 => by have e1 := (old4 k h1).2; have e2 := (ho.low k h2).1; omega)
  have HO5 := Lib.hid (ho.mono (base' := w.heap.size) szw)
  clear szw oldS old4
  clear ho hsz
  have HOS := Lib.hid (HOS.out.below hb)
  have HO4 := Lib.hid (HO4.out.below hb)
  have HAa := Lib.hid (HAa.out.below (hb.mono HB.out.size))
  have HAb := Lib.hid (HAb.out.below (hb.mono HB.out.size))
  have HAt := Lib.hid (HAt.out.below (hb.mono HB.out.size))
  have HB := Lib.hid (HB.out.trans (hb.mono HB.out.size))
  clear hb
  go_wp2_with fail
  refine (toBools_any _ ST _ _ HAt.out HB.out.size hST).mono ?_
  rintro e w7 ⟨⟨v6, rfl, ho0⟩, hb⟩
  have ho : OO w7 _ v6 ST := ho0
  clear ho0
  obtain ⟨va6, vc6, rfl⟩ := ho.reads.shape
  have szw := HB.out.size
  have oldS := HOS.out.low
  have old4 := HO4.out.low
  have old5 := HO5.out.low
  have hsz := hb.size
  have APS6 := Lib.hid (show ∀ k, (Value.slice vaS SS.length vcS).ownBlock = some k → ¬ (Value.slice va6 ST.length vc6).ownBlock = some k from fun k h1 h2 => by have e1 := (oldS k h1).2; have e2 := (ho.low k h2).1; omega)
  have AP46 := Lib.hid (show ∀ k, (Value.slice va4 SA.length vc4).ownBlock = some k → ¬ (Value.slice va6 ST.length vc6).ownBlock = some k from fun k h1 h2 => by have e1 := (old4 k h1).2; have e2 := (ho.low k h2).1; omega)
  have AP56 := Lib.hid (show ∀ k, (Value.slice va5 SB.length vc5).ownBlock = some k → ¬ (Value.slice va6 ST.length vc6).ownBlock = some k from fun k h1 h2 => by have e1 := (old5 k h1).2; have e2 := (ho.low k h2).1; omega)
  have HO6 := Lib.hid (ho.mono (base' := w.heap.size) szw)
  clear szw oldS old4 old5
  clear ho hsz
  have HOS := Lib.hid (HOS.out.below hb)
  have HO4 := Lib.hid (HO4.out.below hb)
  have HO5 := Lib.hid (HO5.out.below hb)
  have HAa := Lib.hid (HAa.out.below (hb.mono HB.out.size))
  have HAb := Lib.hid (HAb.out.below (hb.mono HB.out.size))
  have HAt := Lib.hid (HAt.out.below (hb.mono HB.out.size))
  have HB := Lib.hid (HB.out.trans (hb.mono HB.out.size))
  clear hb
  go_wp2_with fail
  refine (HIM.out _ _ _ _ (RC.of_own HO4.out) (RC.of_own HO5.out) HO6.out.reads).mono ?_
  rintro e w8 ⟨⟨vG, rfl, ho0⟩, hb⟩
  have ho : OS w8 _ vG SS := ho0
  clear ho0
  obtain ⟨vaG, vcG, rfl⟩ := ho.reads.shape
  have szw := HB.out.size
  have oldS := HOS.out.low
  have old4 := HO4.out.low
  have old5 := HO5.out.low
  have old6 := HO6.out.low
  have hsz := hb.size
  have APSG := Lib.hid (show ∀ k, (Value.slice vaS SS.length vcS).ownBlock = some k → ¬ (Value.slice vaG SS.length vcG).ownBlock = some k from fun k h1 h2 => by have e1 := (oldS k h1).2; have e2 := (ho.low k h2).1; omega)
  have AP4G := Lib.hid (show ∀ k, (Value.slice va4 SA.length vc4).ownBlock = some k → ¬ (Value.slice vaG SS.length vcG).ownBlock = some k from fun k h1 h2 => by have e1 := (old4 k h1).2; have e2 := (ho.low k h2).1; omega)
  have AP5G := Lib.hid (show ∀ k, (Value.slice va5 SB.length vc5).ownBlock = some k → ¬ (Value.slice vaG SS.length vcG).ownBlock = some k from fun k h1 h2 => by have e1 := (old5 k h1).2; have e2 := (ho.low k h2).1; omega)
  have AP6G := Lib.hid (show ∀ k, (Value.slice va6 ST.length vc6).ownBlock = some k → ¬ (Value.slice vaG SS.length vcG).ownBlock = some k from fun k h1 h2 => by have e1 := (old6 k h1).2; have e2 := (ho.low k h2).1; omega)
  have HOG := Lib.hid (ho.mono (base' := w.heap.size) szw)
  clear szw oldS old4 old5 old6
  clear ho hsz
  have HOS := Lib.hid (HOS.out.below hb)
  have HO4 := Lib.hid (HO4.out.below hb)
  have HO5 := Lib.hid (HO5.out.below hb)
  have HO6 := Lib.hid (HO6.out.below hb)
  have HAa := Lib.hid (HAa.out.below (hb.mono HB.out.size))
  have HAb := Lib.hid (HAb.out.below (hb.mono HB.out.size))
  have HAt := Lib.hid (HAt.out.below (hb.mono HB.out.size))
  have HB := Lib.hid (HB.out.trans (hb.mono HB.out.size))
  clear hb
  go_wp2_with fail
  refine (eqStrs_same _ _ SS _ _ _ HOG.out.reads HOS.out.reads (Nat.le_refl _) (Nat.le_refl _) HLS.out).mono ?_
  rintro e w9 ⟨rfl, hb⟩
  have HOS := Lib.hid (HOS.out.below hb)
  have HO4 := Lib.hid (HO4.out.below hb)
  have HO5 := Lib.hid (HO5.out.below hb)
  have HO6 := Lib.hid (HO6.out.below hb)
  have HOG := Lib.hid (HOG.out.below hb)
  have HAa := Lib.hid (HAa.out.below (hb.mono HB.out.size))
  have HAb := Lib.hid (HAb.out.below (hb.mono HB.out.size))
  have HAt := Lib.hid (HAt.out.below (hb.mono HB.out.size))
  have HB := Lib.hid (HB.out.trans (hb.mono HB.out.size))
  clear hb
  go_wp2_with fail
  refine (copy_any _ SA _ _ HAa.out HB.out.size hSA).mono ?_
  rintro e w10 ⟨⟨v7, rfl, ho0⟩, hb⟩
  have ho : OS w10 _ v7 SA := ho0
  clear ho0
  obtain ⟨va7, vc7, rfl⟩ := ho.reads.shape
  have szw := HB.out.size
  have oldS := HOS.out.low
  have old4 := HO4.out.low
  have old5 := HO5.out.low
  have old6 := HO6.out.low
  have oldG := HOG.out.low
  have hsz := hb.size
  have APS7 := Lib.hid (show ∀ k, (Value.slice vaS SS.length vcS).ownBlock = some k → ¬ (Value.slice va7 SA.length vc7).ownBlock = some k from fun k h1 h2 => by have e1 := (oldS k h1).2; have e2 := (ho.low k h2).1; omega)
  have AP47 := Lib.hid (show ∀ k, (Value.slice va4 SA.length vc4).ownBlock = some k → ¬ (Value.slice va7 SA.length vc7).ownBlock = some k from fun k h1 h2 => by have e1 := (old4 k h1).2; have e2 := (ho.low k h2).1; omega)
  have AP57 := Lib.hid (show ∀ k, (Value.slice va5 SB.length vc5).ownBlock = some k → ¬ (Value.slice va7 SA.length vc7).ownBlock = some k from fun k h1 h2 => by have e1 := (old5 k h1).2; have e2 := (ho.low k h2).1; omega)
  have AP67 := Lib.hid (show ∀ k, (Value.slice va6 ST.length vc6).ownBlock = some k → ¬ (Value.slice va7 SA.length vc7).ownBlock = some k from fun k h1 h2 => by have e1 := (old6 k h1).2; have e2 := (ho.low k h2).1; omega)
  have APG7 := Lib.hid (show ∀ k, (Value.slice vaG SS.length vcG).ownBlock = some k → ¬ (Value.slice va7 SA.length vc7).ownBlock = some k from fun k h1 h2 => by have e1 := (oldG k h1).2; have e2 := (ho.low k h2).1; omega)
  have HO7 := Lib.hid (ho.mono (base' := w.heap.size) szw)
  clear szw oldS old4 old5 old6 oldG
  clear ho hsz
  have HOS := Lib.hid (HOS.out.below hb)
  have HO4 := Lib.hid (HO4.out.below hb)
  have HO5 := Lib.hid (HO5.out.below hb)
  have HO6 := Lib.hid (HO6.out.below hb)
  have HOG := Lib.hid (HOG.out.below hb)
  have HAa := Lib.hid (HAa.out.below (hb.mono HB.out.size))
  have HAb := Lib.hid (HAb.out.below (hb.mono HB.out.size))
  have HAt := Lib.hid (HAt.out.below (hb.mono HB.out.size))
  have HB := Lib.hid (HB.out.trans (hb.mono HB.out.size))
  clear hb
  go_wp2_with fail
  refine (eqStrs_same _ _ SA _ _ _ HO4.out.reads HO7.out.reads (Nat.le_refl _) (Nat.le_refl _) hSA).mono ?_
  rintro e w11 ⟨rfl, hb⟩
  have HOS := Lib.hid (HOS.out.below hb)
  have HO4 := Lib.hid (HO4.out.below hb)
  have HO5 := Lib.hid (HO5.out.below hb)
  have HO6 := Lib.hid (HO6.out.below hb)
  have HOG := Lib.hid (HOG.out.below hb)
  have HO7 := Lib.hid (HO7.out.below hb)
  have HAa := Lib.hid (HAa.out.below (hb.mono HB.out.size))
  have HAb := Lib.hid (HAb.out.below (hb.mono HB.out.size))
  have HAt := Lib.hid (HAt.out.below (hb.mono HB.out.size))
  have HB := Lib.hid (HB.out.trans (hb.mono HB.out.size))
  clear hb
  go_wp2_with fail
  refine (copy_any _ SB _ _ HAb.out HB.out.size hSB).mono ?_
  rintro e w12 ⟨⟨v8, rfl, ho0⟩, hb⟩
  have ho : OS w12 _ v8 SB := ho0
  clear ho0
  obtain ⟨va8, vc8, rfl⟩ := ho.reads.shape
  have szw := HB.out.size
  have oldS := HOS.out.low
  have old4 := HO4.out.low
  have old5 := HO5.out.low
  have old6 := HO6.out.low
  have oldG := HOG.out.low
  have hsz := hb.size
  have APS8 := Lib.hid (show ∀ k, (Value.slice vaS SS.length vcS).ownBlock = some k → ¬ (Value.slice va8 SB.length vc8).ownBlock = some k from fun k h1 h2 => by have e1 := (oldS k h1).2; have e2 := (ho.low k h2).1; omega)
  have AP48 := Lib.hid (show ∀ k, (Value.slice va4 SA.length vc4).ownBlock = some k → ¬ (Value.slice va8 SB.length vc8).ownBlock = some k from fun k h1 h2 => by have e1 := (old4 k h1).2; have e2 := (ho.low k h2).1; omega)
  have AP58 := Lib.hid (show ∀ k, (Value.slice va5 SB.length vc5).ownBlock = some k → ¬ (Value.slice va8 SB.length vc8).ownBlock = some k from fun k h1 h2 => by have e1 := (old5 k h1).2; have e2 := (ho.low k h2).1; omega)
  have AP68 := Lib.hid (show ∀ k, (Value.slice va6 ST.length vc6).ownBlock = some k → ¬ (Value.slice va8 SB.length vc8).ownBlock = some k from fun k h1 h2 => by have e1 := (old6 k h1).2; have e2 := (ho.low k h2).1; omega)
  have APG8 := Lib.hid (show ∀ k, (Value.slice vaG SS.length vcG).ownBlock = some k → ¬ (Value.slice va8 SB.length vc8).ownBlock = some k from fun k h1 h2 => by have e1 := (oldG k h1).2; have e2 := (ho.low k h2).1; omega)
  have HO8 := Lib.hid (ho.mono (base' := w.heap.size) szw)
  clear szw oldS old4 old5 old6 oldG
  clear ho hsz
  have HOS := Lib.hid (HOS.out.below hb)
  have HO4 := Lib.hid (HO4.out.below hb)
  have HO5 := Lib.hid (HO5.out.below hb)
  have HO6 := Lib.hid (HO6.out.below hb)
  have HOG := Lib.hid (HOG.out.below hb)
  have HAa := Lib.hid (HAa.out.below (hb.mono HB.out.size))
  have HAb := Lib.hid (HAb.out.below (hb.mono HB.out.size))
  have HAt := Lib.hid (HAt.out.below (hb.mono HB.out.size))
  have HB := Lib.hid (HB.out.trans (hb.mono HB.out.size))
  clear hb
  go_wp2_with fail
  refine (eqStrs_same _ _ SB _ _ _ HO5.out.reads HO8.out.reads (Nat.le_refl _) (Nat.le_refl _) hSB).mono ?_
  rintro e w13 ⟨rfl, hb⟩
  have HOS := Lib.hid (HOS.out.below hb)
  have HO4 := Lib.hid (HO4.out.below hb)
  have HO5 := Lib.hid (HO5.out.below hb)
  have HO6 := Lib.hid (HO6.out.below hb)
  have HOG := Lib.hid (HOG.out.below hb)
  have HO8 := Lib.hid (HO8.out.below hb)
  have HAa := Lib.hid (HAa.out.below (hb.mono HB.out.size))
  have HAb := Lib.hid (HAb.out.below (hb.mono HB.out.size))
  have HAt := Lib.hid (HAt.out.below (hb.mono HB.out.size))
  have HB := Lib.hid (HB.out.trans (hb.mono HB.out.size))
  clear hb
  go_wp2_with fail
  refine (toBools_any _ ST _ _ HAt.out HB.out.size hST).mono ?_
  rintro e w14 ⟨⟨v9, rfl, ho0⟩, hb⟩
  have ho : OO w14 _ v9 ST := ho0
  clear ho0
  obtain ⟨va9, vc9, rfl⟩ := ho.reads.shape
  have szw := HB.out.size
  have oldS := HOS.out.low
  have old4 := HO4.out.low
  have old5 := HO5.out.low
  have old6 := HO6.out.low
  have oldG := HOG.out.low
  have hsz := hb.size
  have APS9 := Lib.hid (show ∀ k, (Value.slice vaS SS.length vcS).ownBlock = some k → ¬ (Value.slice va9 ST.length vc9).ownBlock = some k from fun k h1 h2 => by have e1 := (oldS k h1).2; have e2 := (ho.low k h2).1; omega)
  have AP49 := Lib.hid (show ∀ k, (Value.slice va4 SA.length vc4).ownBlock = some k → ¬ (Value.slice va9 ST.length vc9).ownBlock = some k from fun k h1 h2 => by have e1 := (old4 k h1).2; have e2 := (ho.low k h2).1; omega)
  have AP59 := Lib.hid (show ∀ k, (Value.slice va5 SB.length vc5).ownBlock = some k → ¬ (Value.slice va9 ST.length vc9).ownBlock = some k from fun k h1 h2 => by have e1 := (old5 k h1).2; have e2 := (ho.low k h2).1; omega)
  have AP69 := Lib.hid (show ∀ k, (Value.slice va6 ST.length vc6).ownBlock = some k → ¬ (Value.slice va9 ST.length vc9).ownBlock = some k from fun k h1 h2 => by have e1 := (old6 k h1).2; have e2 := (ho.low k h2).1; omega)
  have APG9 := Lib.hid (show ∀ k, (Value.slice vaG SS.length vcG).ownBlock = some k → ¬ (Value.slice va9 ST.length vc9).ownBlock = some k from fun k h1 h2 => by have e1 := (oldG k h1).2; have e2 := (ho.low k h2).1; omega)
  have HO9 := Lib.hid (ho.mono (base' := w.heap.size) szw)
  clear szw oldS old4 old5 old6 oldG
  clear ho hsz
  have HOS := Lib.hid (HOS.out.below hb)
  have HO4 := Lib.hid (HO4.out.below hb)
  have HO5 := Lib.hid (HO5.out.below hb)
  have HO6 := Lib.hid (HO6.out.below hb)
  have HOG := Lib.hid (HOG.out.below hb)
  have HAa := Lib.hid (HAa.out.below (hb.mono HB.out.size))
  have HAb := Lib.hid (HAb.out.below (hb.mono HB.out.size))
  have HAt := Lib.hid (HAt.out.below (hb.mono HB.out.size))
  have HB := Lib.hid (HB.out.trans (hb.mono HB.out.size))
  clear hb
  go_wp2_with fail
  refine (eqBools_same _ _ ST _ _ _ HO6.out.reads HO9.out.reads (Nat.le_refl _) (Nat.le_refl _) hST).mono ?_
  rintro e w15 ⟨rfl, hb⟩
  have HOS := Lib.hid (HOS.out.below hb)
  have HO4 := Lib.hid (HO4.out.below hb)
  have HO5 := Lib.hid (HO5.out.below hb)
  have HO6 := Lib.hid (HO6.out.below hb)
  have HOG := Lib.hid (HOG.out.below hb)
  have HO9 := Lib.hid (HO9.out.below hb)
  have HAa := Lib.hid (HAa.out.below (hb.mono HB.out.size))
  have HAb := Lib.hid (HAb.out.below (hb.mono HB.out.size))
  have HAt := Lib.hid (HAt.out.below (hb.mono HB.out.size))
  have HB := Lib.hid (HB.out.trans (hb.mono HB.out.size))
  clear hb
  go_wp2_with fail
  refine (markS_any _ SA 1 _ _ HO4.out (by omega) (by omega)).mono ?_
  rintro e w16 ⟨rfl, hm, hg⟩
  have HOS := Lib.hid (HOS.out.kept hg (apart_of (fun k h1 h2 => APS4.out k h1 h2)))
  have HO5 := Lib.hid (HO5.out.kept hg (apart_of (fun k h1 h2 => AP45.out k h2 h1)))
  have HO6 := Lib.hid (HO6.out.kept hg (apart_of (fun k h1 h2 => AP46.out k h2 h1)))
  have HOG := Lib.hid (HOG.out.kept hg (apart_of (fun k h1 h2 => AP4G.out k h2 h1)))
  have HAa := Lib.hid (HAa.out.below (Below.grown (Below.refl _ _) hg HB.out.size (fun k hk => (HO4.out.low k hk).1)))
  have HAb := Lib.hid (HAb.out.below (Below.grown (Below.refl _ _) hg HB.out.size (fun k hk => (HO4.out.low k hk).1)))
  have HAt := Lib.hid (HAt.out.below (Below.grown (Below.refl _ _) hg HB.out.size (fun k hk => (HO4.out.low k hk).1)))
  have HB := Lib.hid (HB.out.grown hg HB.out.size (fun k hk => (HO4.out.low k hk).1))
  have HO4 := Lib.hid hm
  clear hm hg
  have hk1 : ((1 + SA.length : Nat) : Int) = ((1 + SA.length : Nat) : Int) := rfl
  obtain ⟨k1, hk1⟩ : ∃ k1, k1 = 1 + SA.length := ⟨_, rfl⟩
  rw [← hk1]
  have hk1b : 1 ≤ k1 ∧ k1 ≤ 1048577 := by omega
  clear hk1
  go_wp2_with fail
  refine (markS_any _ SB k1 _ _ HO5.out (by omega) (by omega)).mono ?_
  rintro e w17 ⟨rfl, hm, hg⟩
  have HOS := Lib.hid (HOS.out.kept hg (apart_of (fun k h1 h2 => APS5.out k h1 h2)))
  have HO4 := Lib.hid (HO4.out.kept hg (apart_of (fun k h1 h2 => AP45.out k h1 h2)))
  have HO6 := Lib.hid (HO6.out.kept hg (apart_of (fun k h1 h2 => AP56.out k h2 h1)))
  have HOG := Lib.hid (HOG.out.kept hg (apart_of (fun k h1 h2 => AP5G.out k h2 h1)))
  have HAa := Lib.hid (HAa.out.below (Below.grown (Below.refl _ _) hg HB.out.size (fun k hk => (HO5.out.low k hk).1)))
  have HAb := Lib.hid (HAb.out.below (Below.grown (Below.refl _ _) hg HB.out.size (fun k hk => (HO5.out.low k hk).1)))
  have HAt := Lib.hid (HAt.out.below (Below.grown (Below.refl _ _) hg HB.out.size (fun k hk => (HO5.out.low k hk).1)))
  have HB := Lib.hid (HB.out.grown hg HB.out.size (fun k hk => (HO5.out.low k hk).1))
  have HO5 := Lib.hid hm
  clear hm hg
  obtain ⟨k2, hk2⟩ : ∃ k2, k2 = k1 + SB.length := ⟨_, rfl⟩
  rw [← hk2]
  have hk2b : 1 ≤ k2 ∧ k2 ≤ 2097153 := by omega
  clear hk2
  go_wp2_with fail
  refine (markBools_any _ ST k2 _ _ HO6.out (by omega)).mono ?_
  rintro e w18 ⟨rfl, hg⟩
  have HOS := Lib.hid (HOS.out.kept hg (apart_of (fun k h1 h2 => APS6.out k h1 h2)))
  have HO4 := Lib.hid (HO4.out.kept hg (apart_of (fun k h1 h2 => AP46.out k h1 h2)))
  have HO5 := Lib.hid (HO5.out.kept hg (apart_of (fun k h1 h2 => AP56.out k h1 h2)))
  have HOG := Lib.hid (HOG.out.kept hg (apart_of (fun k h1 h2 => AP6G.out k h2 h1)))
  have HAa := Lib.hid (HAa.out.below (Below.grown (Below.refl _ _) hg HB.out.size (fun k hk => (HO6.out.low k hk).1)))
  have HAb := Lib.hid (HAb.out.below (Below.grown (Below.refl _ _) hg HB.out.size (fun k hk => (HO6.out.low k hk).1)))
  have HAt := Lib.hid (HAt.out.below (Below.grown (Below.refl _ _) hg HB.out.size (fun k hk => (HO6.out.low k hk).1)))
  have HB := Lib.hid (HB.out.grown hg HB.out.size (fun k hk => (HO6.out.low k hk).1))
  clear hg
  obtain ⟨k3, hk3⟩ : ∃ k3, k3 = k2 + ST.length := ⟨_, rfl⟩
  rw [← hk3]
  clear hk3
  go_wp2_with fail
  refine (eqStrs_same _ _ SS _ _ _ HOG.out.reads HOS.out.reads (Nat.le_refl _) (Nat.le_refl _) HLS.out).mono ?_
  rintro e w19 ⟨rfl, hb⟩
  have HOS := Lib.hid (HOS.out.below hb)
  have HOG := Lib.hid (HOG.out.below hb)
  have HAa := Lib.hid (HAa.out.below (hb.mono HB.out.size))
  have HAb := Lib.hid (HAb.out.below (hb.mono HB.out.size))
  have HAt := Lib.hid (HAt.out.below (hb.mono HB.out.size))
  have HB := Lib.hid (HB.out.trans (hb.mono HB.out.size))
  clear hb
  go_wp2_with fail
  refine (markS_any _ SS 1 _ _ HOG.out (by omega) (by have := HLS.out; omega)).mono ?_
  rintro e w20 ⟨rfl, hm, hg⟩
  have HOS := Lib.hid (HOS.out.kept hg (apart_of (fun k h1 h2 => APSG.out k h1 h2)))
  have HAa := Lib.hid (HAa.out.below (Below.grown (Below.refl _ _) hg HB.out.size (fun k hk => (HOG.out.low k hk).1)))
  have HAb := Lib.hid (HAb.out.below (Below.grown (Below.refl _ _) hg HB.out.size (fun k hk => (HOG.out.low k hk).1)))
  have HAt := Lib.hid (HAt.out.below (Below.grown (Below.refl _ _) hg HB.out.size (fun k hk => (HOG.out.low k hk).1)))
  have HB := Lib.hid (HB.out.grown hg HB.out.size (fun k hk => (HOG.out.low k hk).1))
  have HOG := Lib.hid hm
  clear hm hg
  go_wp2_with fail
  refine (heldS_any _ 1 SS.length _ _ HOG.out.reads (Nat.le_refl _) (by omega) (by have := HLS.out; omega)).mono ?_
  rintro e w21 ⟨rfl, hb⟩
  have HOS := Lib.hid (HOS.out.below hb)
  have HOG := Lib.hid (HOG.out.below hb)
  have HAa := Lib.hid (HAa.out.below (hb.mono HB.out.size))
  have HAb := Lib.hid (HAb.out.below (hb.mono HB.out.size))
  have HAt := Lib.hid (HAt.out.below (hb.mono HB.out.size))
  have HB := Lib.hid (HB.out.trans (hb.mono HB.out.size))
  clear hb
  have hpos : ((1 + SS.length : Nat) : Int) = ((SS.length : Nat) : Int) + 1 := by omega
  rw [hpos]
  go_wp2_with fail
  refine (copy_any _ SA _ _ HAa.out HB.out.size hSA).mono ?_
  rintro e w22 ⟨⟨vu, rfl, ho0⟩, hb⟩
  have ho : OS w22 _ vu SA := ho0
  clear ho0
  obtain ⟨vau, vcu, rfl⟩ := ho.reads.shape
  have szw := HB.out.size
  have oldS := HOS.out.low
  have oldG := HOG.out.low
  have hsz := hb.size
  have APSu := Lib.hid (show ∀ k, (Value.slice vaS SS.length vcS).ownBlock = some k → ¬ (Value.slice vau SA.length vcu).ownBlock = some k from fun k h1 h2 => by have e1 := (oldS k h1).2; have e2 := (ho.low k h2).1; omega)
  have APGu := Lib.hid (show ∀ k, (Value.slice vaG SS.length vcG).ownBlock = some k → ¬ (Value.slice vau SA.length vcu).ownBlock = some k from fun k h1 h2 => by have e1 := (oldG k h1).2; have e2 := (ho.low k h2).1; omega)
  have HOu := Lib.hid (ho.mono (base' := w.heap.size) szw)
  clear szw oldS oldG
  clear ho hsz
  have HOS := Lib.hid (HOS.out.below hb)
  have HOG := Lib.hid (HOG.out.below hb)
  have HAa := Lib.hid (HAa.out.below (hb.mono HB.out.size))
  have HAb := Lib.hid (HAb.out.below (hb.mono HB.out.size))
  have HAt := Lib.hid (HAt.out.below (hb.mono HB.out.size))
  have HB := Lib.hid (HB.out.trans (hb.mono HB.out.size))
  clear hb
  go_wp2_with fail
  refine (copy_any _ SB _ _ HAb.out HB.out.size hSB).mono ?_
  rintro e w23 ⟨⟨vv, rfl, ho0⟩, hb⟩
  have ho : OS w23 _ vv SB := ho0
  clear ho0
  obtain ⟨vav, vcv, rfl⟩ := ho.reads.shape
  have szw := HB.out.size
  have oldS := HOS.out.low
  have oldG := HOG.out.low
  have oldu := HOu.out.low
  have hsz := hb.size
  have APSv := Lib.hid (show ∀ k, (Value.slice vaS SS.length vcS).ownBlock = some k → ¬ (Value.slice vav SB.length vcv).ownBlock = some k from fun k h1 h2 => by have e1 := (oldS k h1).2; have e2 := (ho.low k h2).1; omega)
  have APGv := Lib.hid (show ∀ k, (Value.slice vaG SS.length vcG).ownBlock = some k → ¬ (Value.slice vav SB.length vcv).ownBlock = some k from fun k h1 h2 => by have e1 := (oldG k h1).2; have e2 := (ho.low k h2).1; omega)
  have APuv := Lib.hid (show ∀ k, (Value.slice vau SA.length vcu).ownBlock = some k → ¬ (Value.slice vav SB.length vcv).ownBlock = some k from fun k h1 h2 => by have e1 := (oldu k h1).2; have e2 := (ho.low k h2).1; omega)
  have HOv := Lib.hid (ho.mono (base' := w.heap.size) szw)
  clear szw oldS oldG oldu
  clear ho hsz
  have HOS := Lib.hid (HOS.out.below hb)
  have HOG := Lib.hid (HOG.out.below hb)
  have HOu := Lib.hid (HOu.out.below hb)
  have HAa := Lib.hid (HAa.out.below (hb.mono HB.out.size))
  have HAb := Lib.hid (HAb.out.below (hb.mono HB.out.size))
  have HAt := Lib.hid (HAt.out.below (hb.mono HB.out.size))
  have HB := Lib.hid (HB.out.trans (hb.mono HB.out.size))
  clear hb
  go_wp2_with fail
  refine (toBools_any _ ST _ _ HAt.out HB.out.size hST).mono ?_
  rintro e w24 ⟨⟨vw, rfl, ho0⟩, hb⟩
  have ho : OO w24 _ vw ST := ho0
  clear ho0
  obtain ⟨vaw, vcw, rfl⟩ := ho.reads.shape
  have szw := HB.out.size
  have oldS := HOS.out.low
  have oldG := HOG.out.low
  have oldu := HOu.out.low
  have oldv := HOv.out.low
  have hsz := hb.size
  have APSw := Lib.hid (show ∀ k, (Value.slice vaS SS.length vcS).ownBlock = some k → ¬ (Value.slice vaw ST.length vcw).ownBlock = some k from fun k h1 h2 => by have e1 := (oldS k h1).2; have e2 := (ho.low k h2).1; omega)
  have APGw := Lib.hid (show ∀ k, (Value.slice vaG SS.length vcG).ownBlock = some k → ¬ (Value.slice vaw ST.length vcw).ownBlock = some k from fun k h1 h2 => by have e1 := (oldG k h1).2; have e2 := (ho.low k h2).1; omega)
  have APuw := Lib.hid (show ∀ k, (Value.slice vau SA.length vcu).ownBlock = some k → ¬ (Value.slice vaw ST.length vcw).ownBlock = some k from fun k h1 h2 => by have e1 := (oldu k h1).2; have e2 := (ho.low k h2).1; omega)
  have APvw := Lib.hid (show ∀ k, (Value.slice vav SB.length vcv).ownBlock = some k → ¬ (Value.slice vaw ST.length vcw).ownBlock = some k from fun k h1 h2 => by have e1 := (oldv k h1).2; have e2 := (ho.low k h2).1; omega)
  have HOw := Lib.hid (ho.mono (base' := w.heap.size) szw)
  clear szw oldS oldG oldu oldv
  clear ho hsz
  have HOS := Lib.hid (HOS.out.below hb)
  have HOG := Lib.hid (HOG.out.below hb)
  have HOu := Lib.hid (HOu.out.below hb)
  have HOv := Lib.hid (HOv.out.below hb)
  have HAa := Lib.hid (HAa.out.below (hb.mono HB.out.size))
  have HAb := Lib.hid (HAb.out.below (hb.mono HB.out.size))
  have HAt := Lib.hid (HAt.out.below (hb.mono HB.out.size))
  have HB := Lib.hid (HB.out.trans (hb.mono HB.out.size))
  clear hb
  go_wp2_with fail
  refine (HIM.out _ _ _ _ (RC.of_own HOu.out) (RC.of_own HOv.out) HOw.out.reads).mono ?_
  rintro e w25 ⟨⟨vH, rfl, ho0⟩, hb⟩
  have ho : OS w25 _ vH SS := ho0
  clear ho0
  obtain ⟨vaH, vcH, rfl⟩ := ho.reads.shape
  have szw := HB.out.size
  have oldS := HOS.out.low
  have oldG := HOG.out.low
  have oldu := HOu.out.low
  have oldv := HOv.out.low
  have oldw := HOw.out.low
  have hsz := hb.size
  have APSH := Lib.hid (show ∀ k, (Value.slice vaS SS.length vcS).ownBlock = some k → ¬ (Value.slice vaH SS.length vcH).ownBlock = some k from fun k h1 h2 => by have e1 := (oldS k h1).2; have e2 := (ho.low k h2).1; omega)
  have APGH := Lib.hid (show ∀ k, (Value.slice vaG SS.length vcG).ownBlock = some k → ¬ (Value.slice vaH SS.length vcH).ownBlock = some k from fun k h1 h2 => by have e1 := (oldG k h1).2; have e2 := (ho.low k h2).1; omega)
  have APuH := Lib.hid (show ∀ k, (Value.slice vau SA.length vcu).ownBlock = some k → ¬ (Value.slice vaH SS.length vcH).ownBlock = some k from fun k h1 h2 => by have e1 := (oldu k h1).2; have e2 := (ho.low k h2).1; omega)
  have APvH := Lib.hid (show ∀ k, (Value.slice vav SB.length vcv).ownBlock = some k → ¬ (Value.slice vaH SS.length vcH).ownBlock = some k from fun k h1 h2 => by have e1 := (oldv k h1).2; have e2 := (ho.low k h2).1; omega)
  have APwH := Lib.hid (show ∀ k, (Value.slice vaw ST.length vcw).ownBlock = some k → ¬ (Value.slice vaH SS.length vcH).ownBlock = some k from fun k h1 h2 => by have e1 := (oldw k h1).2; have e2 := (ho.low k h2).1; omega)
  have HOH := Lib.hid (ho.mono (base' := w.heap.size) szw)
  clear szw oldS oldG oldu oldv oldw
  clear ho hsz
  have HOS := Lib.hid (HOS.out.below hb)
  have HOG := Lib.hid (HOG.out.below hb)
  have HOu := Lib.hid (HOu.out.below hb)
  have HOv := Lib.hid (HOv.out.below hb)
  have HOw := Lib.hid (HOw.out.below hb)
  have HAa := Lib.hid (HAa.out.below (hb.mono HB.out.size))
  have HAb := Lib.hid (HAb.out.below (hb.mono HB.out.size))
  have HAt := Lib.hid (HAt.out.below (hb.mono HB.out.size))
  have HB := Lib.hid (HB.out.trans (hb.mono HB.out.size))
  clear hb
  go_wp2_with fail
  refine (eqStrs_same _ _ SS _ _ _ HOH.out.reads HOS.out.reads (Nat.le_refl _) (Nat.le_refl _) HLS.out).mono ?_
  rintro e w26 ⟨rfl, hb⟩
  have HOS := Lib.hid (HOS.out.below hb)
  have HOG := Lib.hid (HOG.out.below hb)
  have HOH := Lib.hid (HOH.out.below hb)
  have HAa := Lib.hid (HAa.out.below (hb.mono HB.out.size))
  have HAb := Lib.hid (HAb.out.below (hb.mono HB.out.size))
  have HAt := Lib.hid (HAt.out.below (hb.mono HB.out.size))
  have HB := Lib.hid (HB.out.trans (hb.mono HB.out.size))
  clear hb
  go_wp2_with fail
  refine (heldS_any _ 1 SS.length _ _ HOG.out.reads (Nat.le_refl _) (by omega) (by have := HLS.out; omega)).mono ?_
  rintro e w27 ⟨rfl, hb⟩
  have HOS := Lib.hid (HOS.out.below hb)
  have HOG := Lib.hid (HOG.out.below hb)
  have HOH := Lib.hid (HOH.out.below hb)
  have HAa := Lib.hid (HAa.out.below (hb.mono HB.out.size))
  have HAb := Lib.hid (HAb.out.below (hb.mono HB.out.size))
  have HAt := Lib.hid (HAt.out.below (hb.mono HB.out.size))
  have HB := Lib.hid (HB.out.trans (hb.mono HB.out.size))
  clear hb
  rw [hpos]
  go_wp2
  go_ret
  exact ⟨rfl, HB.out⟩
theorem own : ownKnob Try.prog.godebug = none := by kernel_rfl
theorem laidOut : laidOutB Try.prog = true := by kernel_rfl
set_option maxRecDepth 100000 in
theorem lifted (os : Os) (started : os.Started) (H : Type) (enc : TypeId × Value → H) :
    ReturnsInHanded {} Try.checked os 13 .any (Rows.fnExactMuxWeaveSpec.pre6 enc Try.prog Try.f13 Rows.fnExactMuxWeaveRow.domain false) (Rows.fnExactMuxWeaveSpec.post enc Try.prog Try.f13 false true false false) := by
  refine returnsInHanded_of_change (C := Try.checked) own started (by kernel_rfl) Try.func13
    (ChangeSpec.witness6 (enc := enc) (C := Try.checked) false ⟨#[], #[.slice none 0 0, .slice none 0 0, .slice none 0 0], []⟩ 8 (by kernel_rfl) (by kernel_rfl) (by kernel_rfl) (by kernel_rfl)) ?_
  intro W base args ds gs before hval0 hW hcnd _
  have hval : ∀ (j : Nat) t v, Try.f13.params[j]? = some t → args[j]? = some v → Value.okWide Try.prog W .any base t v := hval0
  have hW' := hW
  obtain ⟨p, q, hA0, hV, rfl, hfz, hnd⟩ := hW
  have hA : DataW.TrodAll enc Try.prog W 0 (fun _ => true) true Try.f13.params.toList args.toList ds p := hA0
  rw [Try.params13] at hA hval
  obtain ⟨v0, vs0, d0, ds0, p0, q0, hargs, rfl, rfl, h0, r0⟩ := trodAll_cons hA
  obtain ⟨v1, vs1, d1, ds1, p1, q1, rfl, rfl, rfl, h1, r1⟩ := trodAll_cons r0
  obtain ⟨v2, vs2, d2, ds2, p2, q2, rfl, rfl, rfl, h2, r2⟩ := trodAll_cons r1
  obtain ⟨rfl, rfl, rfl⟩ := trodAll_nil r2
  obtain rfl : args = #[v0, v1, v2] := by cases args; simp_all
  obtain ⟨rfl, rfl⟩ := trodVars_none hV
  obtain ⟨a0, len0, cap0, rfl⟩ := okWide_slice Try.underlying25 (hval 0 25 v0 rfl rfl)
  have k0 := h0
  have lt0 : ∀ x ∈ p0, x.block < W.heap.size := by obtain ⟨m, hm⟩ := k0; exact DataW.trod_lt m _ _ _ hm
  obtain ⟨z0, w0⟩ : ∃ zs, IsStrs W a0 len0 cap0 zs := by
    obtain ⟨fuel, hf⟩ := h0
    rcases open_strings Try.underlying25 Try.underlying9 (by kernel_rfl) hf with ⟨hcs, _⟩ | ⟨x, l, c, zs, hcs, _, hl, hm, hz, _, hcell, hwz⟩
    · simp [Value.cells] at hcs
      obtain ⟨rfl, rfl, rfl⟩ := hcs
      exact ⟨[], .inl ⟨rfl, rfl, rfl, rfl⟩⟩
    · simp [Value.cells] at hcs
      obtain ⟨rfl, rfl, rfl⟩ := hcs
      exact ⟨zs, .inr ⟨_, rfl, hl, hm, by simpa using hz, hcell, hwz⟩⟩
  obtain ⟨a1, len1, cap1, rfl⟩ := okWide_slice Try.underlying25 (hval 1 25 v1 rfl rfl)
  have k1 := h1
  have lt1 : ∀ x ∈ p1, x.block < W.heap.size := by obtain ⟨m, hm⟩ := k1; exact DataW.trod_lt m _ _ _ hm
  obtain ⟨z1, w1⟩ : ∃ zs, IsStrs W a1 len1 cap1 zs := by
    obtain ⟨fuel, hf⟩ := h1
    rcases open_strings Try.underlying25 Try.underlying9 (by kernel_rfl) hf with ⟨hcs, _⟩ | ⟨x, l, c, zs, hcs, _, hl, hm, hz, _, hcell, hwz⟩
    · simp [Value.cells] at hcs
      obtain ⟨rfl, rfl, rfl⟩ := hcs
      exact ⟨[], .inl ⟨rfl, rfl, rfl, rfl⟩⟩
    · simp [Value.cells] at hcs
      obtain ⟨rfl, rfl, rfl⟩ := hcs
      exact ⟨zs, .inr ⟨_, rfl, hl, hm, by simpa using hz, hcell, hwz⟩⟩
  obtain ⟨a2, len2, cap2, rfl⟩ := okWide_slice Try.underlying45 (hval 2 45 v2 rfl rfl)
  have k2 := h2
  have lt2 : ∀ x ∈ p2, x.block < W.heap.size := by obtain ⟨m, hm⟩ := k2; exact DataW.trod_lt m _ _ _ hm
  obtain ⟨z2, w2⟩ : ∃ zs, IsBools W a2 len2 cap2 zs := by
    obtain ⟨fuel, hf⟩ := h2
    exact isBools_open hf
  clear hA0 hval0
  refine (walk a0 len0 cap0 z0 a1 len1 cap1 z1 a2 len2 cap2 z2 W w0 w1 w2).mono fun e W' ⟨he, bel⟩ => ?_
  subst he
  exact ⟨_, rfl, _, _, _, [], _, [], hW', trodAll_mk1 (shut_bool Try.underlying4 _), (trodAll_cons_mk (Below.trod laidOut (by kernel_rfl) (of_decide_eq_true (by kernel_rfl)) k0 bel lt0) (trodAll_cons_mk (Below.trod laidOut (by kernel_rfl) (of_decide_eq_true (by kernel_rfl)) k1 bel lt1) (trodAll_cons_mk (Below.trod laidOut (by kernel_rfl) (of_decide_eq_true (by kernel_rfl)) k2 bel lt2) trodAll_mk0))), rfl, bel.frame _, fun h => by cases h⟩
theorem over : Rows.fnExactMuxWeaveRow.holds Try.pinned (OpenSpec.ofChange Rows.fnExactMuxWeaveSpec) :=
  OpenClaim.holds_of_wide 13 Try.f13 rfl rfl rfl rfl rfl rfl rfl ⟨rfl, rfl, rfl, rfl, rfl⟩ rfl rfl rfl rfl rfl (by kernel_rfl) Try.func13 (by kernel_rfl)
    (of_decide_eq_true (by kernel_rfl)) (by unfold Func.isWrapper; first | (rw [if_pos (by decide +kernel)]; kernel_rfl) | (rw [if_neg (by decide +kernel)]; exact ⟨rfl, rfl⟩))
    (fun os started H enc _ => lifted os started H enc)
theorem proved : Rows.FnExactMuxWeaveSaid := over
end Go.Proofs.Ytiffeddeobhndaa.fnExactMuxWeave
