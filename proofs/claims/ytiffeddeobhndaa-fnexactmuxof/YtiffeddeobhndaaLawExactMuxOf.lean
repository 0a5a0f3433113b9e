/- FnExactMuxOf: MuxOf of the program answers as the model's, at every list and channel; it writes into none, and its answer owns its memory. No condition. -/
import Derived.Test.YtiffeddeobhndaaKitA
import Derived.Test.YtiffeddeobhndaaMxN
import Derived.Test.YtiffeddeobhndaaMxD
import Derived.Test.YtiffeddeobhndaaTos
namespace Go.Proofs.Ytiffeddeobhndaa.fnExactMuxOf
open Go.ChangeShapes Go.WideShapes Go.ChangeAt Go.RowKit
open Go.ChangeMaps (open_string shut_string)
set_option linter.unusedVariables false
set_option maxRecDepth 100000 in
set_option maxHeartbeats 8000000 in
theorem walk (a0 : Option Addr) (len0 cap0 : Nat) (z0 : List Ev) (a1 : Int) (w : World) (w0 : IsEvs w a0 len0 cap0 z0) (w1 : (Lit.int .i64 a1).wf = true) :
    Calls Try.prog 14 #[.slice a0 len0 cap0, .int .i64 a1] w fun e w' => e = .returned (.bool true) ∧ Below w.heap.size w w' := by
  obtain ⟨hr, hlen, hw0, hz⟩ := RX.of w0
  subst hlen
  have HAa := Lib.hid hr
  have HMZ := Lib.hid hz
  clear w0 hr hz
  have HB := Lib.hid (Below.refl w.heap.size w)
  go_enter Try.func14, Try.ntmps14
  go_wp2_with fail
  refine (szEvs_any _ _ z0 _ HAa.out hw0 HMZ.out).mono ?_
  rintro e w1 ⟨x, rfl, hb, hx⟩
  have HAa := Lib.hid (HAa.out.below (hb.mono HB.out.size))
  have HB := Lib.hid (HB.out.trans (hb.mono HB.out.size))
  clear hb
  rcases hx with rfl | ⟨hx0, hl, hzs⟩
  · go_wp2
    go_ret
    exact ⟨rfl, HB.out⟩
  have HLEN := Lib.hid hl
  have HZS := Lib.hid hzs
  clear hl hzs
  obtain ⟨SS, hSS⟩ : ∃ SS, SS = strs (ofL z0 a1) := ⟨_, rfl⟩
  have HLS := Lib.hid (show SS.length ≤ 1048576 by rw [hSS, strs_len]; exact Nat.le_trans (ofL_len _ _) HLEN.out)
  have HSP := Lib.hid (show ∀ (W : World) (lo B : Nat) (v : Value), RE W lo B v z0 → B ≤ W.heap.size → Calls Try.prog 36 #[v, .int .i64 a1] W (fun e w' => (∃ v, e = .returned v ∧ OS w' W.heap.size v SS) ∧ Below W.heap.size W w') from fun W lo B v h1 h2 => by rw [hSS]; exact specMuxOf_any v z0 a1 W lo B h1 h2 HLEN.out)
  have HIM := Lib.hid (show ∀ (W : World) (lo B : Nat) (v : Value), RE W lo B v z0 → B ≤ W.heap.size → Calls Try.prog 34 #[v, .int .i64 a1] W (fun e w' => (∃ v, e = .returned v ∧ OS w' W.heap.size v SS) ∧ Below W.heap.size W w') from fun W lo B v h1 h2 => by rw [hSS]; exact implMuxOf_any v z0 a1 W lo B h1 h2 HLEN.out HZS.out)
  clear hSS
  go_wp2_with fail
  refine (toEvs_any _ _ z0 _ _ HAa.out HB.out.size HLEN.out).mono ?_
  rintro e w2 ⟨⟨v1, rfl, ho⟩, hb⟩
  obtain ⟨va1, vc1, rfl⟩ := ho.reads.shape
  have szw := HB.out.size
  have hsz := hb.size
  have HO1 := Lib.hid (ho.mono (base' := w.heap.size) szw)
  clear szw
  clear ho hsz
  have HAa := Lib.hid (HAa.out.below (hb.mono HB.out.size))
  have HB := Lib.hid (HB.out.trans (hb.mono HB.out.size))
  clear hb
  go_wp2_with fail
  refine (HSP.out _ _ _ _ HO1.out.reads (Nat.le_refl _)).mono ?_
  rintro e w3 ⟨⟨v2, rfl, ho⟩, hb⟩
  obtain ⟨va2, vc2, rfl⟩ := ho.reads.shape
  have szw := HB.out.size
  have old1 := HO1.out.low
  have hsz := hb.size
  have AP12 := Lib.hid (show ∀ k, (Value.slice va1 z0.length vc1).ownBlock = some k → ¬ (Value.slice va2 SS.length vc2).ownBlock = some k from fun k h1 h2 => by have e1 := (old1 k h1).2; have e2 := (ho.low k h2).1; omega)
  have HO2 := Lib.hid (ho.mono (base' := w.heap.size) szw)
  clear szw old1
  clear ho hsz
  have HO1 := Lib.hid (HO1.out.below hb)
  have HAa := Lib.hid (HAa.out.below (hb.mono HB.out.size))
  have HB := Lib.hid (HB.out.trans (hb.mono HB.out.size))
  clear hb
  go_wp2_with fail
  refine (toEvs_any _ _ z0 _ _ HAa.out HB.out.size HLEN.out).mono ?_
  rintro e w4 ⟨⟨v3, rfl, ho⟩, hb⟩
  obtain ⟨va3, vc3, rfl⟩ := ho.reads.shape
  have szw := HB.out.size
  have old1 := HO1.out.low
  have old2 := HO2.out.low
  have hsz := hb.size
  have AP13 := Lib.hid (show ∀ k, (Value.slice va1 z0.length vc1).ownBlock = some k → ¬ (Value.slice va3 z0.length vc3).ownBlock = some k from fun k h1 h2 => by have e1 := (old1 k h1).2; have e2 := (ho.low k h2).1; omega)
  have AP23 := Lib.hid (show ∀ k, (Value.slice va2 SS.length vc2).ownBlock = some k → ¬ (Value.slice va3 z0.length vc3).ownBlock = some k from fun k h1 h2 => by have e1 := (old2 k h1).2; have e2 := (ho.low k h2).1; omega)
  have HO3 := Lib.hid (ho.mono (base' := w.heap.size) szw)
  clear szw old1 old2
  clear ho hsz
  have HO1 := Lib.hid (HO1.out.below hb)
  have HO2 := Lib.hid (HO2.out.below hb)
  have HAa := Lib.hid (HAa.out.below (hb.mono HB.out.size))
  have HB := Lib.hid (HB.out.trans (hb.mono HB.out.size))
  clear hb
  go_wp2_with fail
  refine (HIM.out _ _ _ _ HO3.out.reads (Nat.le_refl _)).mono ?_
  rintro e w5 ⟨⟨v4, rfl, ho⟩, hb⟩
  obtain ⟨va4, vc4, rfl⟩ := ho.reads.shape
  have szw := HB.out.size
  have old1 := HO1.out.low
  have old2 := HO2.out.low
  have old3 := HO3.out.low
  have hsz := hb.size
  have AP14 := Lib.hid (show ∀ k, (Value.slice va1 z0.length vc1).ownBlock = some k → ¬ (Value.slice va4 SS.length vc4).ownBlock = some k from fun k h1 h2 => by have e1 := (old1 k h1).2; have e2 := (ho.low k h2).1; omega)
  have AP24 := Lib.hid (show ∀ k, (Value.slice va2 SS.length vc2).ownBlock = some k → ¬ (Value.slice va4 SS.length vc4).ownBlock = some k from fun k h1 h2 => by have e1 := (old2 k h1).2; have e2 := (ho.low k h2).1; omega)
  have AP34 := Lib.hid (show ∀ k, (Value.slice va3 z0.length vc3).ownBlock = some k → ¬ (Value.slice va4 SS.length vc4).ownBlock = some k from fun k h1 h2 => by have e1 := (old3 k h1).2; have e2 := (ho.low k h2).1; omega)
  have HO4 := Lib.hid (ho.mono (base' := w.heap.size) szw)
  clear szw old1 old2 old3
  clear ho hsz
  have HO1 := Lib.hid (HO1.out.below hb)
  have HO2 := Lib.hid (HO2.out.below hb)
  have HO3 := Lib.hid (HO3.out.below hb)
  have HAa := Lib.hid (HAa.out.below (hb.mono HB.out.size))
  have HB := Lib.hid (HB.out.trans (hb.mono HB.out.size))
  clear hb
  go_wp2_with fail
  refine (eqStrs_same _ _ SS _ _ _ HO4.out.reads HO2.out.reads (Nat.le_refl _) (Nat.le_refl _) HLS.out).mono ?_
  rintro e w6 ⟨rfl, hb⟩
  have HO1 := Lib.hid (HO1.out.below hb)
  have HO2 := Lib.hid (HO2.out.below hb)
  have HO3 := Lib.hid (HO3.out.below hb)
  have HO4 := Lib.hid (HO4.out.below hb)
  have HAa := Lib.hid (HAa.out.below (hb.mono HB.out.size))
  have HB := Lib.hid (HB.out.trans (hb.mono HB.out.size))
  clear hb
  go_wp2_with fail
  refine (toEvs_any _ _ z0 _ _ HAa.out HB.out.size HLEN.out).mono ?_
  rintro e w7 ⟨⟨v5, rfl, ho⟩, hb⟩
  obtain ⟨va5, vc5, rfl⟩ := ho.reads.shape
  have szw := HB.out.size
  have old1 := HO1.out.low
  have old2 := HO2.out.low
  have old3 := HO3.out.low
  have old4 := HO4.out.low
  have hsz := hb.size
  have AP15 := Lib.hid (show ∀ k, (Value.slice va1 z0.length vc1).ownBlock = some k → ¬ (Value.slice va5 z0.length vc5).ownBlock = some k from fun k h1 h2 => by have e1 := (old1 k h1).2; have e2 := (ho.low k h2).1; omega)
  have AP25 := Lib.hid (show ∀ k, (Value.slice va2 SS.length vc2).ownBlock = some k → ¬ (Value.slice va5 z0.length vc5).ownBlock = some k from fun k h1 h2 => by have e1 := (old2 k h1).2; have e2 := (ho.low k h2).1; omega)
  have AP35 := Lib.hid (show ∀ k, (Value.slice va3 z0.length vc3).ownBlock = some k → ¬ (Value.slice va5 z0.length vc5).ownBlock = some k from fun k h1 h2 => by have e1 := (old3 k h1).2; have e2 := (ho.low k h2).1; omega)
  have AP45 := Lib.hid (show ∀ k, (Value.slice va4 SS.length vc4).ownBlock = some k → ¬ (Value.slice va5 z0.length vc5).ownBlock = some k from fun k h1 h2 => by have e1 := (old4 k h1).2; have e2 := (ho.low k h2).1; omega)
  have HO5 := Lib.hid (ho.mono (base' := w.heap.size) szw)
  clear szw old1 old2 old3 old4
  clear ho hsz
  have HO1 := Lib.hid (HO1.out.below hb)
  have HO2 := Lib.hid (HO2.out.below hb)
  have HO3 := Lib.hid (HO3.out.below hb)
  have HO4 := Lib.hid (HO4.out.below hb)
  have HAa := Lib.hid (HAa.out.below (hb.mono HB.out.size))
  have HB := Lib.hid (HB.out.trans (hb.mono HB.out.size))
  clear hb
  go_wp2_with fail
  refine (eqEvents_same _ _ z0 _ _ _ _ _ HO3.out.reads HO5.out.reads (Nat.le_refl _) (Nat.le_refl _) (by have := HLEN.out; omega)).mono ?_
  rintro e w8 ⟨rfl, hb⟩
  have HO1 := Lib.hid (HO1.out.below hb)
  have HO2 := Lib.hid (HO2.out.below hb)
  have HO3 := Lib.hid (HO3.out.below hb)
  have HO4 := Lib.hid (HO4.out.below hb)
  have HO5 := Lib.hid (HO5.out.below hb)
  have HAa := Lib.hid (HAa.out.below (hb.mono HB.out.size))
  have HB := Lib.hid (HB.out.trans (hb.mono HB.out.size))
  clear hb
  go_wp2_with fail
  refine (mark_any _ z0 _ _ HO3.out (by have := HLEN.out; omega)).mono ?_
  rintro e w9 ⟨rfl, hm, hg⟩
  have HO1 := Lib.hid (HO1.out.kept hg (apart_of (fun k h1 h2 => AP13.out k h1 h2)))
  have HO2 := Lib.hid (HO2.out.kept hg (apart_of (fun k h1 h2 => AP23.out k h1 h2)))
  have HO4 := Lib.hid (HO4.out.kept hg (apart_of (fun k h1 h2 => AP34.out k h2 h1)))
  have HO5 := Lib.hid (HO5.out.kept hg (apart_of (fun k h1 h2 => AP35.out k h2 h1)))
  have HAa := Lib.hid (HAa.out.below (Below.grown (Below.refl _ _) hg HB.out.size (fun k hk => (HO3.out.low k hk).1)))
  have HB := Lib.hid (HB.out.grown hg HB.out.size (fun k hk => (HO3.out.low k hk).1))
  have HO3 := Lib.hid hm
  clear hm hg
  have hl0 : z0.length ≤ 1048576 := HLEN.out
  go_wp2_with fail
  refine (eqStrs_same _ _ SS _ _ _ HO4.out.reads HO2.out.reads (Nat.le_refl _) (Nat.le_refl _) HLS.out).mono ?_
  rintro e w10 ⟨rfl, hb⟩
  have HO1 := Lib.hid (HO1.out.below hb)
  have HO2 := Lib.hid (HO2.out.below hb)
  have HO3 := Lib.hid (HO3.out.below hb)
  have HO4 := Lib.hid (HO4.out.below hb)
  have HO5 := Lib.hid (HO5.out.below hb)
  have HAa := Lib.hid (HAa.out.below (hb.mono HB.out.size))
  have HB := Lib.hid (HB.out.trans (hb.mono HB.out.size))
  clear hb
  go_wp2_with fail
  refine (markS_any _ SS 1 _ _ HO4.out (by omega) (by have := HLS.out; omega)).mono ?_
  rintro e w11 ⟨rfl, hm, hg⟩
  have HO1 := Lib.hid (HO1.out.kept hg (apart_of (fun k h1 h2 => AP14.out k h1 h2)))
  have HO2 := Lib.hid (HO2.out.kept hg (apart_of (fun k h1 h2 => AP24.out k h1 h2)))
  have HO3 := Lib.hid (HO3.out.kept hg (apart_of (fun k h1 h2 => AP34.out k h1 h2)))
  have HO5 := Lib.hid (HO5.out.kept hg (apart_of (fun k h1 h2 => AP45.out k h2 h1)))
  have HAa := Lib.hid (HAa.out.below (Below.grown (Below.refl _ _) hg HB.out.size (fun k hk => (HO4.out.low k hk).1)))
  have HB := Lib.hid (HB.out.grown hg HB.out.size (fun k hk => (HO4.out.low k hk).1))
  have HO4 := Lib.hid hm
  clear hm hg
  go_wp2_with fail
  refine (heldS_any _ 1 SS.length _ _ HO4.out.reads (Nat.le_refl _) (by omega) (by have := HLS.out; omega)).mono ?_
  rintro e w12 ⟨rfl, hb⟩
  have HO1 := Lib.hid (HO1.out.below hb)
  have HO2 := Lib.hid (HO2.out.below hb)
  have HO3 := Lib.hid (HO3.out.below hb)
  have HO4 := Lib.hid (HO4.out.below hb)
  have HO5 := Lib.hid (HO5.out.below hb)
  have HAa := Lib.hid (HAa.out.below (hb.mono HB.out.size))
  have HB := Lib.hid (HB.out.trans (hb.mono HB.out.size))
  clear hb
  have hpos : ((1 + SS.length : Nat) : Int) = ((SS.length : Nat) : Int) + 1 := by omega
  rw [hpos]
  go_wp2_with fail
  refine (toEvs_any _ _ z0 _ _ HAa.out HB.out.size HLEN.out).mono ?_
  rintro e w13 ⟨⟨v6, rfl, ho⟩, hb⟩
  obtain ⟨va6, vc6, rfl⟩ := ho.reads.shape
  have szw := HB.out.size
  have old1 := HO1.out.low
  have old2 := HO2.out.low
  have old3 := HO3.out.low
  have old4 := HO4.out.low
  have old5 := HO5.out.low
  have hsz := hb.size
  have AP16 := Lib.hid (show ∀ k, (Value.slice va1 z0.length vc1).ownBlock = some k → ¬ (Value.slice va6 z0.length vc6).ownBlock = some k from fun k h1 h2 => by have e1 := (old1 k h1).2; have e2 := (ho.low k h2).1; omega)
  have AP26 := Lib.hid (show ∀ k, (Value.slice va2 SS.length vc2).ownBlock = some k → ¬ (Value.slice va6 z0.length vc6).ownBlock = some k from fun k h1 h2 => by have e1 := (old2 k h1).2; have e2 := (ho.low k h2).1; omega)
  have AP36 := Lib.hid (show ∀ k, (Value.slice va3 z0.length vc3).ownBlock = some k → ¬ (Value.slice va6 z0.length vc6).ownBlock = some k from fun k h1 h2 => by have e1 := (old3 k h1).2; have e2 := (ho.low k h2).1; omega)
  have AP46 := Lib.hid (show ∀ k, (Value.slice va4 SS.length vc4).ownBlock = some k → ¬ (Value.slice va6 z0.length vc6).ownBlock = some k from fun k h1 h2 => by have e1 := (old4 k h1).2; have e2 := (ho.low k h2).1; omega)
  have AP56 := Lib.hid (show ∀ k, (Value.slice va5 z0.length vc5).ownBlock = some k → ¬ (Value.slice va6 z0.length vc6).ownBlock = some k from fun k h1 h2 => by have e1 := (old5 k h1).2; have e2 := (ho.low k h2).1; omega)
  have HO6 := Lib.hid (ho.mono (base' := w.heap.size) szw)
  clear szw old1 old2 old3 old4 old5
  clear ho hsz
  have HO1 := Lib.hid (HO1.out.below hb)
  have HO2 := Lib.hid (HO2.out.below hb)
  have HO3 := Lib.hid (HO3.out.below hb)
  have HO4 := Lib.hid (HO4.out.below hb)
  have HO5 := Lib.hid (HO5.out.below hb)
  have HAa := Lib.hid (HAa.out.below (hb.mono HB.out.size))
  have HB := Lib.hid (HB.out.trans (hb.mono HB.out.size))
  clear hb
  go_wp2_with fail
  refine (HIM.out _ _ _ _ HO6.out.reads (Nat.le_refl _)).mono ?_
  rintro e w14 ⟨⟨v7, rfl, ho⟩, hb⟩
  obtain ⟨va7, vc7, rfl⟩ := ho.reads.shape
  have szw := HB.out.size
  have old1 := HO1.out.low
  have old2 := HO2.out.low
  have old3 := HO3.out.low
  have old4 := HO4.out.low
  have old5 := HO5.out.low
  have old6 := HO6.out.low
  have hsz := hb.size
  have AP17 := Lib.hid (show ∀ k, (Value.slice va1 z0.length vc1).ownBlock = some k → ¬ (Value.slice va7 SS.length vc7).ownBlock = some k from fun k h1 h2 => by have e1 := (old1 k h1).2; have e2 := (ho.low k h2).1; omega)
  have AP27 := Lib.hid (show ∀ k, (Value.slice va2 SS.length vc2).ownBlock = some k → ¬ (Value.slice va7 SS.length vc7).ownBlock = some k from fun k h1 h2 => by have e1 := (old2 k h1).2; have e2 := (ho.low k h2).1; omega)
  have AP37 := Lib.hid (show ∀ k, (Value.slice va3 z0.length vc3).ownBlock = some k → ¬ (Value.slice va7 SS.length vc7).ownBlock = some k from fun k h1 h2 => by have e1 := (old3 k h1).2; have e2 := (ho.low k h2).1; omega)
  have AP47 := Lib.hid (show ∀ k, (Value.slice va4 SS.length vc4).ownBlock = some k → ¬ (Value.slice va7 SS.length vc7).ownBlock = some k from fun k h1 h2 => by have e1 := (old4 k h1).2; have e2 := (ho.low k h2).1; omega)
  have AP57 := Lib.hid (show ∀ k, (Value.slice va5 z0.length vc5).ownBlock = some k → ¬ (Value.slice va7 SS.length vc7).ownBlock = some k from fun k h1 h2 => by have e1 := (old5 k h1).2; have e2 := (ho.low k h2).1; omega)
  have AP67 := Lib.hid (show ∀ k, (Value.slice va6 z0.length vc6).ownBlock = some k → ¬ (Value.slice va7 SS.length vc7).ownBlock = some k from fun k h1 h2 => by have e1 := (old6 k h1).2; have e2 := (ho.low k h2).1; omega)
  have HO7 := Lib.hid (ho.mono (base' := w.heap.size) szw)
  clear szw old1 old2 old3 old4 old5 old6
  clear ho hsz
  have HO1 := Lib.hid (HO1.out.below hb)
  have HO2 := Lib.hid (HO2.out.below hb)
  have HO3 := Lib.hid (HO3.out.below hb)
  have HO4 := Lib.hid (HO4.out.below hb)
  have HO5 := Lib.hid (HO5.out.below hb)
  have HO6 := Lib.hid (HO6.out.below hb)
  have HAa := Lib.hid (HAa.out.below (hb.mono HB.out.size))
  have HB := Lib.hid (HB.out.trans (hb.mono HB.out.size))
  clear hb
  go_wp2_with fail
  refine (eqStrs_same _ _ SS _ _ _ HO7.out.reads HO2.out.reads (Nat.le_refl _) (Nat.le_refl _) HLS.out).mono ?_
  rintro e w15 ⟨rfl, hb⟩
  have HO1 := Lib.hid (HO1.out.below hb)
  have HO2 := Lib.hid (HO2.out.below hb)
  have HO3 := Lib.hid (HO3.out.below hb)
  have HO4 := Lib.hid (HO4.out.below hb)
  have HO5 := Lib.hid (HO5.out.below hb)
  have HO6 := Lib.hid (HO6.out.below hb)
  have HO7 := Lib.hid (HO7.out.below hb)
  have HAa := Lib.hid (HAa.out.below (hb.mono HB.out.size))
  have HB := Lib.hid (HB.out.trans (hb.mono HB.out.size))
  clear hb
  go_wp2_with fail
  refine (heldS_any _ 1 SS.length _ _ HO4.out.reads (Nat.le_refl _) (by omega) (by have := HLS.out; omega)).mono ?_
  rintro e w16 ⟨rfl, hb⟩
  have HO1 := Lib.hid (HO1.out.below hb)
  have HO2 := Lib.hid (HO2.out.below hb)
  have HO3 := Lib.hid (HO3.out.below hb)
  have HO4 := Lib.hid (HO4.out.below hb)
  have HO5 := Lib.hid (HO5.out.below hb)
  have HO6 := Lib.hid (HO6.out.below hb)
  have HO7 := Lib.hid (HO7.out.below hb)
  have HAa := Lib.hid (HAa.out.below (hb.mono HB.out.size))
  have HB := Lib.hid (HB.out.trans (hb.mono HB.out.size))
  clear hb
  rw [hpos]
  go_wp2
  go_ret
  exact ⟨rfl, HB.out⟩
theorem own : ownKnob Try.prog.godebug = none := by kernel_rfl
theorem laidOut : laidOutB Try.prog = true := by kernel_rfl
set_option maxRecDepth 100000 in
theorem lifted (os : Os) (started : os.Started) (H : Type) (enc : TypeId × Value → H) :
    ReturnsInHanded {} Try.checked os 14 .any (Rows.fnExactMuxOfSpec.pre6 enc Try.prog Try.f14 Rows.fnExactMuxOfRow.domain false) (Rows.fnExactMuxOfSpec.post enc Try.prog Try.f14 false true false false) := by
  refine returnsInHanded_of_change (C := Try.checked) own started (by kernel_rfl) Try.func14
    (ChangeSpec.witness6 (enc := enc) (C := Try.checked) false ⟨#[], #[.slice none 0 0, .int .i64 0], []⟩ 8 (by kernel_rfl) (by kernel_rfl) (by kernel_rfl) (by kernel_rfl)) ?_
  intro W base args ds gs before hval0 hW hcnd _
  have hval : ∀ (j : Nat) t v, Try.f14.params[j]? = some t → args[j]? = some v → Value.okWide Try.prog W .any base t v := hval0
  have hW' := hW
  obtain ⟨p, q, hA0, hV, rfl, hfz, hnd⟩ := hW
  have hA : DataW.TrodAll enc Try.prog W 0 (fun _ => true) true Try.f14.params.toList args.toList ds p := hA0
  rw [Try.params14] at hA hval
  obtain ⟨v0, vs0, d0, ds0, p0, q0, hargs, rfl, rfl, h0, r0⟩ := trodAll_cons hA
  obtain ⟨v1, vs1, d1, ds1, p1, q1, rfl, rfl, rfl, h1, r1⟩ := trodAll_cons r0
  obtain ⟨rfl, rfl, rfl⟩ := trodAll_nil r1
  obtain rfl : args = #[v0, v1] := by cases args; simp_all
  obtain ⟨rfl, rfl⟩ := trodVars_none hV
  obtain ⟨a0, len0, cap0, rfl⟩ := okWide_slice Try.underlying68 (hval 0 68 v0 rfl rfl)
  have k0 := h0
  have lt0 : ∀ x ∈ p0, x.block < W.heap.size := by obtain ⟨m, hm⟩ := k0; exact DataW.trod_lt m _ _ _ hm
  obtain ⟨z0, w0⟩ : ∃ zs, IsEvs W a0 len0 cap0 zs := by
    obtain ⟨fuel, hf⟩ := h0
    exact isEvs_open hf
  obtain ⟨a1, rfl, rfl, rfl, w1⟩ := open_int Try.underlying3 (hval 1 3 v1 rfl rfl) h1
  clear hA0 hval0
  refine (walk a0 len0 cap0 z0 a1 W w0 w1).mono fun e W' ⟨he, bel⟩ => ?_
  subst he
  exact ⟨_, rfl, _, _, _, [], _, [], hW', trodAll_mk1 (shut_bool Try.underlying4 _), (trodAll_cons_mk (Below.trod laidOut (by kernel_rfl) (of_decide_eq_true (by kernel_rfl)) k0 bel lt0) (trodAll_cons_mk (shut_int Try.underlying3 w1) trodAll_mk0)), rfl, bel.frame _, fun h => by cases h⟩
theorem over : Rows.fnExactMuxOfRow.holds Try.pinned (OpenSpec.ofChange Rows.fnExactMuxOfSpec) :=
  OpenClaim.holds_of_wide 14 Try.f14 rfl rfl rfl rfl rfl rfl rfl ⟨rfl, rfl, rfl, rfl, rfl⟩ rfl rfl rfl rfl rfl (by kernel_rfl) Try.func14 (by kernel_rfl)
    (of_decide_eq_true (by kernel_rfl)) (by unfold Func.isWrapper; first | (rw [if_pos (by decide +kernel)]; kernel_rfl) | (rw [if_neg (by decide +kernel)]; exact ⟨rfl, rfl⟩))
    (fun os started H enc _ => lifted os started H enc)
theorem proved : Rows.FnExactMuxOfSaid := over
end Go.Proofs.Ytiffeddeobhndaa.fnExactMuxOf
