/- Parts of a proof, 13: LkA LkB. -/
import Derived.Test.YtmggoiabcboaiaaGreatZe1
import Derived.Test.YtmggoiabcboaiaaGreatZe2
import Derived.Test.YtmggoiabcboaiaaGreatZe3
import Derived.Test.YtmggoiabcboaiaaGreatZe4
import Derived.Test.YtmggoiabcboaiaaGreatZe5
import Derived.Test.YtmggoiabcboaiaaGreatZe6
import Derived.Test.YtmggoiabcboaiaaGreatZe7
import Derived.Test.YtmggoiabcboaiaaGreatZe8
import Derived.Test.YtmggoiabcboaiaaGreatZe9
import Derived.Test.YtmggoiabcboaiaaGreatZe10
import Derived.Test.YtmggoiabcboaiaaGreatZe11
import Derived.Test.YtmggoiabcboaiaaGreatZe12
namespace Go.Proofs.YtmggoiabcboaiaaGreat
open Go.ChangeShapes Go.WideShapes Go.ChangeAt Go.RowKit
def parB (n : Nat) : UInt8 := if n % 2 = 0 then 48 else 49
theorem parity_any (n : Nat) (w : World) (hn : n ≤ 1000000000) :
  Calls Tryz.prog 88 #[.int .i64 n] w fun e w' => e = .returned (.string ⟨#[parB n]⟩) ∧ w = w' := by
 by_cases h : n % 2 = 0
 ·have HP := Lib.hid (show parB n = 48 by unfold parB; rw [if_pos h])
  have h1 : (n : Int) % 2 = 0 := by omega
  have h2 : (n : Int).tmod 2 = 0 := by rw [Int.tmod_eq_emod_of_nonneg (by omega)]; exact h1
  clear h
  go_enter Tryz.func88, Tryz.ntmps88
  go_wp2
  go_ret
  exact ⟨by rw [HP.out]; rfl, rfl⟩
 ·have HP := Lib.hid (show parB n = 49 by unfold parB; rw [if_neg h])
  have h1 : (n : Int) % 2 = 1 := by omega
  have h2 : (n : Int).tmod 2 = 1 := by rw [Int.tmod_eq_emod_of_nonneg (by omega)]; exact h1
  clear h
  go_enter Tryz.func88, Tryz.ntmps88
  go_wp2
  go_ret
  exact ⟨by rw [HP.out]; rfl, rfl⟩
def WC (w : World) (base g i : Nat) (cs : Array Value) (t : TypeId) (v : Value) (ss : List ByteArray) : Prop := BK w g cs t ∧ cs[i]? = some v ∧ OS w base v ss ∧ t ≠ 9 ∧ g < w.heap.size ∧ base ≤ w.heap.size
def WPost (w : World) (base g i : Nat) (cs : Array Value) (t : TypeId) (v : Value) (ss : List ByteArray) (w' : World) : Prop :=
 ∃ v', BK w' g (cs.setIfInBounds i v') t ∧ OS w' base v' ss ∧ w.heap.size ≤ w'.heap.size ∧ w.os = w'.os ∧ w.tape = w'.tape ∧ w.output = w'.output ∧ (v'.ownBlock = v.ownBlock ∨ ∀ k, v'.ownBlock = some k → w.heap.size ≤ k) ∧ ∀ k, k < w.heap.size → k ≠ g → v.ownBlock ≠ some k → w'.heap[k]? = w.heap[k]?
set_option maxHeartbeats 2000000 in
theorem put_full (g i base : Nat) (cs : Array Value) (t : TypeId) (v : Value) (ss : List ByteArray) (s : ByteArray) (w : World) (h : WC w base g i cs t v ss) (h5 : 5 ≤ ss.length) (hl : ss.length ≤ 1000000) :
  Calls Tryz.prog 86 #[.pointer (some ⟨g, i, none⟩), .string s] w fun e w' => e = .returned (.bool false) ∧ w = w' := by
 obtain ⟨hk, hi, ho, _⟩ := h
 obtain ⟨a, cap, rfl⟩ := ho.reads.shape
 have c0 := hk.cell hi
 clear hk hi ho
 go_enter Tryz.func86, Tryz.ntmps86
 go_wp2
 go_ret
 exact ⟨rfl, rfl⟩
theorem wpost_mk {w w2 : World} {base g i : Nat} {cs : Array Value} {t : TypeId} {v v2 : Value} {ss ss2 : List ByteArray} (h : WC w base g i cs t v ss) (hb : base ≤ g)
  (hk2 : BK w2 g cs t) (ho2 : OS w2 base v2 ss2) (hg : w.grownBy w2 v.ownBlock) (hv : v2.ownBlock = v.ownBlock ∨ ∀ k, v2.ownBlock = some k → w.heap.size ≤ k) : WPost w base g i cs t v ss2 (w2.setCell ⟨g, i, none⟩ v2) := by
 have hne : v2.ownBlock ≠ some g := by
  intro e
  rcases ho2.2 with ⟨rfl, _⟩ | ⟨g', cap', cur', rfl, _, hg', _⟩
  ·simp [Value.ownBlock] at e
  ·simp [Value.ownBlock] at e
   subst e
   unfold BK at hk2
   rw [hg'] at hk2
   injection hk2 with h1
   injection h1 with _ h2 _
   exact h.2.2.2.1 h2.symm
 refine ⟨v2, hk2.set i v2, ?_, by simpa using hg.size, hg.os.symm, hg.tape.symm, hg.output.symm, hv, fun k hk hkg hkv => ?_⟩
 ·obtain ⟨h1, h2⟩ := ho2
  refine ⟨h1, ?_⟩
  rcases h2 with h2 | ⟨g', cap', cur', rfl, hb', hgg, rest⟩
  ·exact .inl h2
  ·refine .inr ⟨g', cap', cur', rfl, hb', ?_, rest⟩
   rw [Below.heap_setCell w2 ⟨g, i, none⟩ _ g' (by intro e; simp only at e; exact hne (by simp [Value.ownBlock, e]))]
   exact hgg
 ·rw [Below.heap_setCell w2 ⟨g, i, none⟩ v2 k hkg]
  exact hg.block k hk (fun e => hkv e.symm)
set_option maxRecDepth 100000 in
set_option maxHeartbeats 2000000 in
theorem put_room (g i base : Nat) (cs : Array Value) (t : TypeId) (v : Value) (ss : List ByteArray) (s : ByteArray) (w : World) (h : WC w base g i cs t v ss) (hb : base ≤ g) (h5 : ss.length < 5) :
  Calls Tryz.prog 86 #[.pointer (some ⟨g, i, none⟩), .string s] w fun e w' => e = .returned (.bool true) ∧ WPost w base g i cs t v (ss ++ [s]) w' := by
 obtain ⟨i0, hi0, hz0, hz1, hz2⟩ := info_parts info_str
 have HI := Lib.hid hi0
 have HZ0 := Lib.hid hz0
 have HZ1 := Lib.hid hz1
 have HZ2 := Lib.hid hz2
 have H := Lib.hid h
 obtain ⟨hk, hi, ho, ht, hgl, hbw⟩ := h
 obtain ⟨a, cap, rfl⟩ := ho.reads.shape
 have c0 := hk.cell hi
 have HO := Lib.hid ho
 have HK := Lib.hid hk
 have HC := Lib.hid hi
 clear hk hi ho hi0 hz0 hz1 hz2
 go_enter Tryz.func86, Tryz.ntmps86
 go_wp2_with (at_builtin; refine wpList_append_os _ rfl _ _ 86 rfl base i0 Tryz.underlying86 HI.out HZ0.out HZ1.out HZ2.out _ ss rfl (HO.out.alloc _) _ _ [s] rfl (RS_one w s) (by simp; omega) (by simp; omega) ?_; intro v2 w2 hown2 hg2' hv2'; have hg2 : (w.alloc (.cells #[.string s] 9)).grownBy w2 (Value.slice a ss.length cap).ownBlock := hg2'; have hv2 : v2.ownBlock = (Value.slice a ss.length cap).ownBlock ∨ v2.ownBlock = some (w.alloc (.cells #[.string s] 9)).heap.size := hv2'; obtain ⟨a2, cap2, hsh⟩ := hown2.reads.shape; have hln : (ss ++ [s]).length = ss.length + 1 := (by simp); rw [hln] at hsh; subst hsh; clear hg2' hv2' hln; have hk2 := (HK.out.alloc (.cells #[.string s] 9)).os ht (HO.out.alloc _) hg2; have c2 := hk2.cell HC.out; have f2 := hk2.free i; have HK2 := Lib.hid hk2; have HO2 := Lib.hid hown2; have HG2 := Lib.hid hg2; have HV2 := Lib.hid hv2; clear hk2 hown2 hg2 hv2)
 go_ret
 refine ⟨rfl, wpost_mk H.out hb HK2.out HO2.out ?_ ?_⟩
 ·exact ⟨HG2.out.os, HG2.out.tape, HG2.out.output, Nat.le_trans (by simp) HG2.out.size, fun k hk hne => (HG2.out.block k (by simp; omega) hne).trans (Below.heap_alloc w _ k hk)⟩
 ·rcases HV2.out with e | e
  ·exact .inl e
  ·exact .inr (fun k hk => by rw [e] at hk; injection hk with hk; simp at hk; omega)
set_option maxHeartbeats 2000000 in
theorem take_none (g i base : Nat) (cs : Array Value) (t : TypeId) (v : Value) (w : World) (h : WC w base g i cs t v []) :
  Calls Tryz.prog 89 #[.pointer (some ⟨g, i, none⟩)] w fun e w' => e = .returned (.tuple #[.string ⟨#[]⟩, .bool false]) ∧ w = w' := by
 obtain ⟨hk, hi, ho, _⟩ := h
 obtain ⟨a, cap, rfl⟩ := ho.reads.shape
 have c0 := hk.cell hi
 clear hk hi ho
 go_enter Tryz.func89, Tryz.ntmps89
 go_wp2
 go_ret2
 exact ⟨rfl, rfl⟩
set_option maxRecDepth 100000 in
set_option maxHeartbeats 2000000 in
theorem take_some (g i base : Nat) (cs : Array Value) (t : TypeId) (v : Value) (s : ByteArray) (ss : List ByteArray) (w : World) (h : WC w base g i cs t v (s :: ss)) (hb : base ≤ g) (hl : ss.length ≤ 1000) (hz : ∀ x ∈ ss, x.size ≤ 1048576) :
  Calls Tryz.prog 89 #[.pointer (some ⟨g, i, none⟩)] w fun e w' => e = .returned (.tuple #[.string s, .bool true]) ∧ WPost w base g i cs t v ss w' := by
 have H := Lib.hid h
 obtain ⟨hk, hi, ho, ht, hgl, hbw⟩ := h
 obtain ⟨r, cap, hv, hr1, hr2⟩ := ho.pos (by simp)
 have hln : (s :: ss).length = ss.length + 1 := by simp
 rw [hln] at hv
 subst hv
 have c0 := hk.cell hi
 have d0 := ho.cellAt (k := 0) (by simp)
 simp only [List.getElem_cons_zero] at d0
 have HO := Lib.hid ho
 have HK := Lib.hid hk
 have HC := Lib.hid hi
 clear hk hi ho
 have hnc : ss.length + 1 ≤ cap := by
  rcases HO.out.2 with ⟨h1, _⟩ | ⟨g', cap', cur', h1, _, _, h2, _⟩
  ·cases h1
  ·injection h1 with _ _ h1
   simp only [List.length_cons] at h2
   omega
 have HZ := Lib.hid hz
 clear hz
 by_cases hcap : cap = 1
 ·subst hcap
  have hss : ss = [] := List.eq_nil_of_length_eq_zero (by omega)
  subst hss
  have HRS := Lib.hid (show RS w w.heap.size (.slice (some ⟨r, 0, none⟩) 0 0) [] from ⟨_, _, rfl, fun h => by simp at h⟩)
  go_enter Tryz.func89, Tryz.ntmps89
  go_wp2_with fail
  refine (copied_any _ [] _ w.heap.size HRS.out (Nat.le_refl _) (by simp) HZ.out).mono ?_
  rintro e w3 ⟨⟨v3, rfl, ho3⟩, hb3⟩
  obtain ⟨a3, cap3, hsh⟩ := ho3.reads.shape
  subst hsh
  have hk3 := HK.out.from hb3
  have c3 := hk3.cell HC.out
  have f3 := hk3.free i
  have HK3 := Lib.hid hk3
  have HO3 := Lib.hid ho3
  have HB3 := Lib.hid hb3
  clear hk3 ho3 hb3
  go_wp2
  go_ret2
  exact ⟨rfl, wpost_mk H.out hb HK3.out (HO3.out.mono hbw) (below_grown HB3.out _) (.inr fun k hk => (HO3.out.low k hk).1)⟩
 have HRS := Lib.hid (show RS w w.heap.size (.slice (some ⟨r, 1, none⟩) ss.length (cap - 1)) ss from ⟨_, _, rfl, fun _ => ⟨_, rfl, hr2, fun j hj => by
  have := HO.out.cellAt (k := j + 1) (by simp; omega)
  have hadd : (⟨r, 1, none⟩ : Addr).add j = ⟨r, j + 1, none⟩ := by unfold Addr.add; split <;> simp_all [Nat.add_comm]
  rw [hadd, this]
  simp⟩⟩)
 have hcap2 : 2 ≤ cap := by omega
 go_enter Tryz.func89, Tryz.ntmps89
 go_wp2_with fail
 refine (copied_any _ ss _ w.heap.size HRS.out (Nat.le_refl _) (by omega) HZ.out).mono ?_
 rintro e w3 ⟨⟨v3, rfl, ho3⟩, hb3⟩
 obtain ⟨a3, cap3, hsh⟩ := ho3.reads.shape
 subst hsh
 have hk3 := HK.out.from hb3
 have c3 := hk3.cell HC.out
 have f3 := hk3.free i
 have HK3 := Lib.hid hk3
 have HO3 := Lib.hid ho3
 have HB3 := Lib.hid hb3
 clear hk3 ho3 hb3
 go_wp2
 go_ret2
 exact ⟨rfl, wpost_mk H.out hb HK3.out (HO3.out.mono hbw) (below_grown HB3.out _) (.inr fun k hk => (HO3.out.low k hk).1)⟩
set_option maxHeartbeats 2000000 in
theorem twice_none (g i base : Nat) (cs : Array Value) (t : TypeId) (v : Value) (w : World) (h : WC w base g i cs t v []) :
  Calls Tryz.prog 93 #[.pointer (some ⟨g, i, none⟩)] w fun e w' => e = .returned (.bool false) ∧ w = w' := by
 obtain ⟨hk, hi, ho, _⟩ := h
 obtain ⟨a, cap, rfl⟩ := ho.reads.shape
 have c0 := hk.cell hi
 clear hk hi ho
 go_enter Tryz.func93, Tryz.ntmps93
 go_wp2
 go_ret
 exact ⟨rfl, rfl⟩
set_option maxHeartbeats 2000000 in
theorem twice_full (g i base : Nat) (cs : Array Value) (t : TypeId) (v : Value) (ss : List ByteArray) (w : World) (h : WC w base g i cs t v ss) (h5 : 5 ≤ ss.length) (hl : ss.length ≤ 1000000) :
  Calls Tryz.prog 93 #[.pointer (some ⟨g, i, none⟩)] w fun e w' => e = .returned (.bool true) ∧ w = w' := by
 obtain ⟨hk, hi, ho, _⟩ := h
 obtain ⟨a, cap, rfl⟩ := ho.reads.shape
 have c0 := hk.cell hi
 have hn0 : ((ss.length : Int) == 0) = false := beq_eq_false_iff_ne.2 (by omega)
 clear hk hi ho
 go_enter Tryz.func93, Tryz.ntmps93
 go_wp2
 go_ret
 exact ⟨rfl, rfl⟩
theorem OS_new1 (w : World) (s : ByteArray) (base : Nat) (hb : base ≤ w.heap.size) : OS (w.alloc (.cells #[.string s] 9)) base (.slice (some ⟨w.heap.size, 0, none⟩) 1 1) [s] :=
 ⟨rfl, .inr ⟨w.heap.size, 1, _, rfl, hb, heap_alloc_new w _, Nat.le_refl _, by unfold maxLen; omega, rfl, rfl⟩⟩
set_option maxRecDepth 100000 in
set_option maxHeartbeats 2000000 in
theorem twice_room (g i base : Nat) (cs : Array Value) (t : TypeId) (v : Value) (s : ByteArray) (ss : List ByteArray) (w : World) (h : WC w base g i cs t v (s :: ss)) (hb : base ≤ g) (h5 : ss.length < 4) :
  Calls Tryz.prog 93 #[.pointer (some ⟨g, i, none⟩)] w fun e w' => e = .returned (.bool true) ∧ WPost w base g i cs t v (s :: s :: ss) w' := by
 obtain ⟨i0, hi0, hz0, hz1, hz2⟩ := info_parts info_str
 have H := Lib.hid h
 obtain ⟨hk, hi, ho, ht, hgl, hbw⟩ := h
 have HR := Lib.hid ho.reads
 have HI := Lib.hid hi0
 have HZ0 := Lib.hid hz0
 have HZ1 := Lib.hid hz1
 have HZ2 := Lib.hid hz2
 obtain ⟨r, cap, hv, hr1, hr2⟩ := ho.pos (by simp)
 have hln : (s :: ss).length = ss.length + 1 := by simp
 rw [hln] at hv
 have hln2 : ([s] ++ (s :: ss)).length = ss.length + 2 := by simp
 subst hv
 have c0 := hk.cell hi
 have d0 := ho.cellAt (k := 0) (by simp)
 simp only [List.getElem_cons_zero] at d0
 have hO1 : OS (w.drew.alloc (.cells #[.string s] 9)) w.heap.size (.slice (some ⟨w.heap.size, 0, none⟩) 1 1) [s] := OS_new1 w.drew s w.heap.size (Nat.le_refl _)
 have hR1 : RS (w.drew.alloc (.cells #[.string s] 9)) w.heap.size (.slice (some ⟨r, 0, none⟩) (ss.length + 1) cap) (s :: ss) := HR.out.below (((Below.refl _ w).drew).alloc (Nat.le_refl _) _)
 have HK1 := Lib.hid (show BK (w.drew.alloc (.cells #[.string s] 9)) g cs t from hk.drew.alloc _)
 have HC := Lib.hid hi
 have hn0 : ((ss.length : Int) + 1 == 0) = false := beq_eq_false_iff_ne.2 (by omega)
 have grw : ∀ {w2 : World}, (w.drew.alloc (.cells #[.string s] 9)).grownBy w2 (some w.heap.size) → w.grownBy w2 (Value.slice (some ⟨r, 0, none⟩) (ss.length + 1) cap).ownBlock := fun hg => ⟨hg.os, hg.tape, hg.output, Nat.le_trans (by simp) hg.size, fun k hk hne => (hg.block k (by simp; omega) (fun e => by injection e with e; omega)).trans (Below.heap_alloc w.drew _ k hk)⟩
 clear hk hi ho hi0 hz0 hz1 hz2
 go_enter Tryz.func93, Tryz.ntmps93
 go_wp2_with fail
 have hS : True := trivial
 refine wp_region_held_drew (S := (fun _ => True)) (by kernel_rfl) hS (fun hHeld => ?_)
 refine tkH 0 ?_ rfl (Or.inl ⟨by rfl, ?_⟩) ?_; rotate_left
 ·intro wq hSw; (try dsimp only at hSw); (try simp only [gT, gZ]); go_simp; (try with_reducible rfl)
 simp only [Act.put, gT, gZ, sT, sZ, sS]
 refine tkH 1 ?_ rfl (Or.inl ⟨by rfl, ?_⟩) ?_; rotate_left
 ·intro wq hSw; (try dsimp only at hSw); (try simp only [gT, gS, gZ]); go_simp; (try with_reducible rfl)
 simp only [Act.put, gT, gS, gZ, sT, sZ, sS]
 refine tkH 2 ?_ rfl (Or.inl ⟨by rfl, ?_⟩) ?_; rotate_left
 ·intro wq hSw; (try dsimp only at hSw); (try simp only [gT, gS, gZ]); go_simp; (try with_reducible rfl)
 simp only [Act.put, gT, gS, gZ, sT, sZ, sS]
 refine tkH 7 ?_ rfl (Or.inl ⟨by rfl, ?_⟩) ?_; rotate_left
 ·intro wq hSw; (try dsimp only at hSw); (try simp only [gT, gS, gZ]); go_simp; (try with_reducible rfl)
 simp only [Act.put, gT, gS, gZ, sT, sZ, sS]
 refine tkH 8 ?_ rfl (Or.inl ⟨by rfl, ?_⟩) ?_; rotate_left
 ·intro wq hSw; (try dsimp only at hSw); (try simp only [gT, gS, gZ]); go_simp; (try with_reducible rfl)
 simp only [Act.put, gT, gS, gZ, sT, sZ, sS]
 refine wpAnyH_ready (rs := [3, 9]) (by kernel_rfl) (by simp) ?_
 refine AllReadyH.cons rfl ?_ (AllReadyH.cons rfl ?_ AllReadyH.nil)
 ·intro K hK
  (try simp only [gT, gS, gZ])
  go_simp
  refine hK.out _ _ trivial (fun hHeld => ?_)
  clear hK K
  refine tkH 4 ?_ rfl (Or.inl ⟨by rfl, ?_⟩) ?_; rotate_left
  ·intro wq hSw; (try dsimp only at hSw); (try simp only [gT, gS, gZ]); go_simp; (try with_reducible rfl)
  simp only [Act.put, gT, gS, gZ, sT, sZ, sS]
  refine wpAnyH_ready (rs := [5, 9]) (by kernel_rfl) (by simp) ?_
  refine AllReadyH.cons rfl ?_ (AllReadyH.cons rfl ?_ AllReadyH.nil)
  ·intro K hK
   (try simp only [gT, gS, gZ])
   go_simp
   refine hK.out _ _ trivial (fun hHeld => ?_)
   clear hK K
   refine wpAnyH_ready (rs := [6, 9]) (by kernel_rfl) (by simp) ?_
   refine AllReadyH.cons rfl ?_ (AllReadyH.cons rfl ?_ AllReadyH.nil)
   ·intro K hK
    (try simp only [gT, gS, gZ])
    go_simp
    refine hK.out _ _ trivial (fun hHeld => ?_)
    clear hK K
    refine wpAnyH_ready (rs := [9]) (by kernel_rfl) (by simp) ?_
    refine AllReadyH.cons rfl ?_ AllReadyH.nil
    intro K hK
    (try simp only [gT, gS, gZ])
    go_simp
    refine hK.out _ _ trivial (fun hHeld => ?_)
    clear hK K
    refine wpAnyH_ready (rs := [10]) (by kernel_rfl) (by simp) ?_
    refine AllReadyH.cons rfl ?_ AllReadyH.nil
    intro K hK
    (try simp only [gT, gS, gZ])
    rw [if_pos (by rfl)]
    refine opwp_append_os _ _ 86 rfl w.heap.size i0 Tryz.underlying86 HI.out HZ0.out HZ1.out HZ2.out _ [s] rfl hO1 _ _ (s :: ss) rfl hR1 (by simp; omega) (by simp) ?_
    intro v2 w2 hown2 hg2
    obtain ⟨a2, cap2, hsh⟩ := hown2.reads.shape
    rw [hln2] at hsh
    subst hsh
    have hk2 : BK w2 g cs t := HK1.out.os ht hO1 hg2
    have c2 := hk2.cell HC.out
    have f2 := hk2.free i
    refine hK.out _ _ trivial (fun hHeld => ?_)
    clear hK K
    simp only [Act.put, sT, sZ, sS]
    refine tkH 11 ?_ rfl (Or.inl ⟨by rfl, ?_⟩) ?_; rotate_left
    ·intro wq hSw; (try dsimp only at hSw); (try simp only [gT, gS, gZ]); go_simp; (try with_reducible rfl)
    simp only [Act.put, gT, gS, gZ, sT, sZ, sS]
    refine wpAnyH_ready (rs := [12]) (by kernel_rfl) (by simp) ?_
    refine AllReadyH.cons rfl ?_ AllReadyH.nil
    intro K hK
    (try simp only [gT, gS, gZ])
    go_simp
    refine hK.out _ _ trivial (fun hHeld => ?_)
    clear hK K
    refine wpAnyH_done (by kernel_rfl) ?_ _
    have HX := Lib.hid (wpost_mk H.out hb hk2 (hown2.mono hbw) (grw hg2) (.inr fun k hk => (hown2.low k hk).1))
    clear hk2 hown2 hg2 c2 f2
    go_wp2
    go_ret
    exact ⟨rfl, HX.out⟩
   ·intro K hK
    (try simp only [gT, gS, gZ])
    go_simp
    refine hK.out _ _ trivial (fun hHeld => ?_)
    clear hK K
    refine wpAnyH_ready (rs := [6]) (by kernel_rfl) (by simp) ?_
    refine AllReadyH.cons rfl ?_ AllReadyH.nil
    intro K hK
    (try simp only [gT, gS, gZ])
    go_simp
    refine hK.out _ _ trivial (fun hHeld => ?_)
    clear hK K
    refine wpAnyH_ready (rs := [10]) (by kernel_rfl) (by simp) ?_
    refine AllReadyH.cons rfl ?_ AllReadyH.nil
    intro K hK
    (try simp only [gT, gS, gZ])
    rw [if_pos (by rfl)]
    refine opwp_append_os _ _ 86 rfl w.heap.size i0 Tryz.underlying86 HI.out HZ0.out HZ1.out HZ2.out _ [s] rfl hO1 _ _ (s :: ss) rfl hR1 (by simp; omega) (by simp) ?_
    intro v2 w2 hown2 hg2
    obtain ⟨a2, cap2, hsh⟩ := hown2.reads.shape
    rw [hln2] at hsh
    subst hsh
    have hk2 : BK w2 g cs t := HK1.out.os ht hO1 hg2
    have c2 := hk2.cell HC.out
    have f2 := hk2.free i
    refine hK.out _ _ trivial (fun hHeld => ?_)
    clear hK K
    simp only [Act.put, sT, sZ, sS]
    refine tkH 11 ?_ rfl (Or.inl ⟨by rfl, ?_⟩) ?_; rotate_left
    ·intro wq hSw; (try dsimp only at hSw); (try simp only [gT, gS, gZ]); go_simp; (try with_reducible rfl)
    simp only [Act.put, gT, gS, gZ, sT, sZ, sS]
    refine wpAnyH_ready (rs := [12]) (by kernel_rfl) (by simp) ?_
    refine AllReadyH.cons rfl ?_ AllReadyH.nil
    intro K hK
    (try simp only [gT, gS, gZ])
    go_simp
    refine hK.out _ _ trivial (fun hHeld => ?_)
    clear hK K
    refine wpAnyH_done (by kernel_rfl) ?_ _
    have HX := Lib.hid (wpost_mk H.out hb hk2 (hown2.mono hbw) (grw hg2) (.inr fun k hk => (hown2.low k hk).1))
    clear hk2 hown2 hg2 c2 f2
    go_wp2
    go_ret
    exact ⟨rfl, HX.out⟩
  ·intro K hK
   (try simp only [gT, gS, gZ])
   go_simp
   refine hK.out _ _ trivial (fun hHeld => ?_)
   clear hK K
   refine wpAnyH_ready (rs := [5]) (by kernel_rfl) (by simp) ?_
   refine AllReadyH.cons rfl ?_ AllReadyH.nil
   intro K hK
   (try simp only [gT, gS, gZ])
   go_simp
   refine hK.out _ _ trivial (fun hHeld => ?_)
   clear hK K
   refine wpAnyH_ready (rs := [6]) (by kernel_rfl) (by simp) ?_
   refine AllReadyH.cons rfl ?_ AllReadyH.nil
   intro K hK
   (try simp only [gT, gS, gZ])
   go_simp
   refine hK.out _ _ trivial (fun hHeld => ?_)
   clear hK K
   refine wpAnyH_ready (rs := [10]) (by kernel_rfl) (by simp) ?_
   refine AllReadyH.cons rfl ?_ AllReadyH.nil
   intro K hK
   (try simp only [gT, gS, gZ])
   rw [if_pos (by rfl)]
   refine opwp_append_os _ _ 86 rfl w.heap.size i0 Tryz.underlying86 HI.out HZ0.out HZ1.out HZ2.out _ [s] rfl hO1 _ _ (s :: ss) rfl hR1 (by simp; omega) (by simp) ?_
   intro v2 w2 hown2 hg2
   obtain ⟨a2, cap2, hsh⟩ := hown2.reads.shape
   rw [hln2] at hsh
   subst hsh
   have hk2 : BK w2 g cs t := HK1.out.os ht hO1 hg2
   have c2 := hk2.cell HC.out
   have f2 := hk2.free i
   refine hK.out _ _ trivial (fun hHeld => ?_)
   clear hK K
   simp only [Act.put, sT, sZ, sS]
   refine tkH 11 ?_ rfl (Or.inl ⟨by rfl, ?_⟩) ?_; rotate_left
   ·intro wq hSw; (try dsimp only at hSw); (try simp only [gT, gS, gZ]); go_simp; (try with_reducible rfl)
   simp only [Act.put, gT, gS, gZ, sT, sZ, sS]
   refine wpAnyH_ready (rs := [12]) (by kernel_rfl) (by simp) ?_
   refine AllReadyH.cons rfl ?_ AllReadyH.nil
   intro K hK
   (try simp only [gT, gS, gZ])
   go_simp
   refine hK.out _ _ trivial (fun hHeld => ?_)
   clear hK K
   refine wpAnyH_done (by kernel_rfl) ?_ _
   have HX := Lib.hid (wpost_mk H.out hb hk2 (hown2.mono hbw) (grw hg2) (.inr fun k hk => (hown2.low k hk).1))
   clear hk2 hown2 hg2 c2 f2
   go_wp2
   go_ret
   exact ⟨rfl, HX.out⟩
 ·intro K hK
  (try simp only [gT, gS, gZ])
  go_simp
  refine hK.out _ _ trivial (fun hHeld => ?_)
  clear hK K
  refine wpAnyH_ready (rs := [3]) (by kernel_rfl) (by simp) ?_
  refine AllReadyH.cons rfl ?_ AllReadyH.nil
  intro K hK
  (try simp only [gT, gS, gZ])
  go_simp
  refine hK.out _ _ trivial (fun hHeld => ?_)
  clear hK K
  refine tkH 4 ?_ rfl (Or.inl ⟨by rfl, ?_⟩) ?_; rotate_left
  ·intro wq hSw; (try dsimp only at hSw); (try simp only [gT, gS, gZ]); go_simp; (try with_reducible rfl)
  simp only [Act.put, gT, gS, gZ, sT, sZ, sS]
  refine wpAnyH_ready (rs := [5]) (by kernel_rfl) (by simp) ?_
  refine AllReadyH.cons rfl ?_ AllReadyH.nil
  intro K hK
  (try simp only [gT, gS, gZ])
  go_simp
  refine hK.out _ _ trivial (fun hHeld => ?_)
  clear hK K
  refine wpAnyH_ready (rs := [6]) (by kernel_rfl) (by simp) ?_
  refine AllReadyH.cons rfl ?_ AllReadyH.nil
  intro K hK
  (try simp only [gT, gS, gZ])
  go_simp
  refine hK.out _ _ trivial (fun hHeld => ?_)
  clear hK K
  refine wpAnyH_ready (rs := [10]) (by kernel_rfl) (by simp) ?_
  refine AllReadyH.cons rfl ?_ AllReadyH.nil
  intro K hK
  (try simp only [gT, gS, gZ])
  rw [if_pos (by rfl)]
  refine opwp_append_os _ _ 86 rfl w.heap.size i0 Tryz.underlying86 HI.out HZ0.out HZ1.out HZ2.out _ [s] rfl hO1 _ _ (s :: ss) rfl hR1 (by simp; omega) (by simp) ?_
  intro v2 w2 hown2 hg2
  obtain ⟨a2, cap2, hsh⟩ := hown2.reads.shape
  rw [hln2] at hsh
  subst hsh
  have hk2 : BK w2 g cs t := HK1.out.os ht hO1 hg2
  have c2 := hk2.cell HC.out
  have f2 := hk2.free i
  refine hK.out _ _ trivial (fun hHeld => ?_)
  clear hK K
  simp only [Act.put, sT, sZ, sS]
  refine tkH 11 ?_ rfl (Or.inl ⟨by rfl, ?_⟩) ?_; rotate_left
  ·intro wq hSw; (try dsimp only at hSw); (try simp only [gT, gS, gZ]); go_simp; (try with_reducible rfl)
  simp only [Act.put, gT, gS, gZ, sT, sZ, sS]
  refine wpAnyH_ready (rs := [12]) (by kernel_rfl) (by simp) ?_
  refine AllReadyH.cons rfl ?_ AllReadyH.nil
  intro K hK
  (try simp only [gT, gS, gZ])
  go_simp
  refine hK.out _ _ trivial (fun hHeld => ?_)
  clear hK K
  refine wpAnyH_done (by kernel_rfl) ?_ _
  have HX := Lib.hid (wpost_mk H.out hb hk2 (hown2.mono hbw) (grw hg2) (.inr fun k hk => (hown2.low k hk).1))
  clear hk2 hown2 hg2 c2 f2
  go_wp2
  go_ret
  exact ⟨rfl, HX.out⟩
end Go.Proofs.YtmggoiabcboaiaaGreat
namespace Go.Proofs.YtmggoiabcboaiaaGreat
open Go.ChangeShapes Go.WideShapes Go.ChangeAt Go.RowKit
def digB (l : List UInt8) : Bool := match l with | b :: _ => b == 48 || b == 49 | [] => false
theorem accept_no (g i : Nat) (F : ByteArray) (many : Int) (w : World) (hF : F.size ≤ 1000000) (h : digB F.data.toList = false) :
  Calls Tryz.prog 91 #[.pointer (some ⟨g, i, none⟩), .string F, .int .i64 many] w fun e w' => e = .returned (.string ⟨#[]⟩) ∧ w = w' := by
 by_cases h0 : F.size = 0
 ·obtain rfl := sz0 h0
  go_enter Tryz.func91, Tryz.ntmps91
  go_wp2
  go_ret
  exact ⟨rfl, rfl⟩
 ·have hemp : F.toList.isEmpty = false := by rw [emp_size]; exact decide_eq_false h0
  have hb : (F[0]'(by omega)) ≠ 48 ∧ (F[0]'(by omega)) ≠ 49 := by
   have e : F.data.toList = (F[0]'(by omega)) :: F.data.toList.drop 1 := by
    have := List.drop_eq_getElem_cons (l := F.data.toList) (i := 0) (by rw [size_list]; omega)
    rw [List.drop_zero] at this
    exact this
   rw [e] at h
   simp only [digB, Bool.or_eq_false_iff, beq_eq_false_iff_ne] at h
   exact h
  have hlt : 0 < F.size := by omega
  have h1 : (((F[0]'(by omega)).toNat : Int) != 48) = true := by
   rw [bne_iff_ne]; intro e; apply hb.1; apply UInt8.toNat_inj.1; show _ = 48; omega
  have h2 : (((F[0]'(by omega)).toNat : Int) != 49) = true := by
   rw [bne_iff_ne]; intro e; apply hb.2; apply UInt8.toNat_inj.1; show _ = 49; omega
  clear hb h
  go_enter Tryz.func91, Tryz.ntmps91
  go_wp2
  go_ret
  exact ⟨rfl, rfl⟩
theorem head_at {F : ByteArray} {b : UInt8} {r : List UInt8} (h : F.data.toList = b :: r) : ∃ h0 : 0 < F.size, F[0] = b ∧ F.size = r.length + 1 ∧ F.extract 0 1 = ⟨#[b]⟩ ∧ F.extract 1 F.size = ⟨r.toArray⟩ := by
 have hs : F.size = r.length + 1 := by rw [← size_list, h]; simp
 refine ⟨by omega, ?_, hs, ?_, ?_⟩
 ·have : F[0]'(by omega) = F.data.toList[0]'(by rw [size_list]; omega) := rfl
  rw [this]
  simp [h]
 ·rw [ext_to, h]; rfl
 ·rw [ext_from, h]; rfl
set_option maxRecDepth 100000 in
set_option maxHeartbeats 2000000 in
theorem accept_old (g i base : Nat) (cs : Array Value) (t : TypeId) (v : Value) (gs : List ByteArray) (F : ByteArray) (b : UInt8) (r : List UInt8) (many : Nat) (w : World) (h : WC w base g i cs t v gs) (hF : F.data.toList = b :: r) (hFs : F.size ≤ 1000000) (hb : b = 48 ∨ b = 49) (hl : gs.length ≤ 1000000) (_hm : many ≤ 1000000) (hno : ¬ (b = parB gs.length ∧ gs.length < many)) :
  Calls Tryz.prog 91 #[.pointer (some ⟨g, i, none⟩), .string F, .int .i64 many] w fun e w' => e = .returned (.string ⟨#[b]⟩) ∧ w = w' := by
 obtain ⟨h0, hb0, hsz, hx0, _⟩ := head_at hF
 obtain ⟨hk, hi, ho, _⟩ := h
 obtain ⟨a, cap, rfl⟩ := ho.reads.shape
 have c0 := hk.cell hi
 have hemp : F.toList.isEmpty = false := by rw [emp_size]; exact decide_eq_false (by omega)
 have HX0 := Lib.hid hx0
 have HHB := Lib.hid hb0
 have hbn : (F[0].toNat : Int) = 48 ∨ (F[0].toNat : Int) = 49 := by rw [hb0]; rcases hb with rfl | rfl <;> simp
 have HSZ := Lib.hid hsz
 clear hk hi ho hb0 hx0 hsz hF
 have hgt : (1 : Int) ≤ (F.size : Int) := by omega
 obtain ⟨D, hD⟩ : ∃ D, F.extract 0 1 = D := ⟨_, rfl⟩
 obtain ⟨E, hE⟩ : ∃ E : ByteArray, E = ⟨#[parB gs.length]⟩ := ⟨_, rfl⟩
 have HD := Lib.hid (show D = ⟨#[b]⟩ by rw [← hD]; exact HX0.out)
 have HE := Lib.hid hE
 have HQ := Lib.hid (show (D.toList == E.toList) = decide (b = parB gs.length) by
  rw [HD.out, HE.out, Lib.toList_data, Lib.toList_data]
  by_cases h : b = parB gs.length <;> simp [h])
 clear hE
 by_cases hq : b = parB gs.length
 ·have hq2 : (D.toList == E.toList) = true := by rw [HQ.out]; exact decide_eq_true hq
  have hm2 : ¬ gs.length < many := fun h => hno ⟨hq, h⟩
  clear hq hno
  rcases hbn with hbn | hbn
  all_goals
   go_enter Tryz.func91, Tryz.ntmps91
   go_wp2_with fail
   refine (parity_any gs.length _ (by omega)).mono ?_
   rintro e w1 ⟨rfl, rfl⟩
   rw [← HE.out]
   go_wp2
   go_ret
   exact ⟨by rw [HD.out]; rfl, rfl⟩
 ·have hq2 : (D.toList == E.toList) = false := by rw [HQ.out]; exact decide_eq_false hq
  clear hq hno
  rcases hbn with hbn | hbn
  all_goals
   go_enter Tryz.func91, Tryz.ntmps91
   go_wp2_with fail
   refine (parity_any gs.length _ (by omega)).mono ?_
   rintro e w1 ⟨rfl, rfl⟩
   rw [← HE.out]
   go_wp2
   go_ret
   exact ⟨by rw [HD.out]; rfl, rfl⟩
theorem opwp_append_osn {P : Program} {w : World} {o : Oper} {a : Act} {K : Act → World → Prop} {Q : Exit → Act → World → Prop} (s x : Operand) (t : TypeId)
  (ho : o.op = .call { callee := .builtin .append, args := #[s, x], argTypes := #[t, t] })
  (base : Nat) (i : TypeInfo) (ht : P.underlying t = some (.slice 9)) (hi : P.info? 9 = some i) (hz : i.zero = some (.string ⟨#[]⟩))
  (hsize : i.size = 1) (hby : i.bytes = 16) (v : Value) (l : List ByteArray) (hs : a.eval s = v) (hown : OS w base v l)
  (B : Nat) (v2 : Value) (news : List ByteArray) (hx : a.eval x = v2) (hr : RS w B v2 news) (hlen : l.length + news.length ≤ 1000000000000) (hbase : base ≤ w.heap.size)
  (h : ∀ v' w', OS w' base v' (l ++ news) → w.grownBy w' v.ownBlock → (v'.ownBlock = v.ownBlock ∨ v'.ownBlock = some w.heap.size) → K (a.put o.dst v') w') : Oper.wp P o a w K Q := by
 obtain ⟨v', w', hr, h2, h3, h4⟩ := run_append_os (P := P) w base t o.type i ht hi hz hsize hby v l hown B v2 news hr hlen hbase
 unfold Oper.wp execOp
 simp only [ho, resolve, invoke, builtin, Sem.run_bind, Sem.run_pure, Result.andThen_ok, List.map_toArray, List.map_cons, List.map_nil, hs, hx, hr]
 exact h v' w' h2 h3 h4
set_option maxRecDepth 100000 in
set_option maxHeartbeats 2000000 in
theorem accept_new (g i base : Nat) (cs : Array Value) (t : TypeId) (v : Value) (gs : List ByteArray) (F : ByteArray) (b : UInt8) (r : List UInt8) (many : Nat) (w : World) (h : WC w base g i cs t v gs) (hb : base ≤ g) (hF : F.data.toList = b :: r) (hFs : F.size ≤ 1000000) (hbd : b = 48 ∨ b = 49) (hl : gs.length ≤ 1000000) (hq : b = parB gs.length) (hm : gs.length < many) :
  Calls Tryz.prog 91 #[.pointer (some ⟨g, i, none⟩), .string F, .int .i64 many] w fun e w' => e = .returned (.string ⟨#[b]⟩) ∧ WPost w base g i cs t v (gs ++ [⟨r.toArray⟩]) w' := by
 obtain ⟨i0, hi0, hz0, hz1, hz2⟩ := info_parts info_str
 have HI := Lib.hid hi0
 have HZ0 := Lib.hid hz0
 have HZ1 := Lib.hid hz1
 have HZ2 := Lib.hid hz2
 obtain ⟨h0, hb0, hsz, hx0, hx1⟩ := head_at hF
 have H := Lib.hid h
 obtain ⟨hk, hi, ho, ht, hgl, hbw⟩ := h
 obtain ⟨a, cap, rfl⟩ := ho.reads.shape
 have c0 := hk.cell hi
 have hemp : F.toList.isEmpty = false := by rw [emp_size]; exact decide_eq_false (by omega)
 have hbn : (F[0].toNat : Int) = 48 ∨ (F[0].toNat : Int) = 49 := by rw [hb0]; rcases hbd with rfl | rfl <;> simp
 have hgt : (1 : Int) ≤ (F.size : Int) := by omega
 obtain ⟨D, hD⟩ : ∃ D, F.extract 0 1 = D := ⟨_, rfl⟩
 obtain ⟨X, hX⟩ : ∃ X, F.extract 1 F.size = X := ⟨_, rfl⟩
 obtain ⟨E, hE⟩ : ∃ E : ByteArray, E = ⟨#[parB gs.length]⟩ := ⟨_, rfl⟩
 have HD := Lib.hid (show D = ⟨#[b]⟩ by rw [← hD]; exact hx0)
 have hXX : (⟨r.toArray⟩ : ByteArray) = X := by rw [← hX]; exact hx1.symm
 rw [hXX]
 have HE := Lib.hid hE
 have hq2 : (D.toList == E.toList) = true := by
  rw [HD.out, HE.out, hq]
  simp
 have hln2 : (gs ++ [X]).length = gs.length + 1 := by simp
 have hO1 : OS (w.drew.alloc (.cells #[.string X] 9)) base (.slice a gs.length cap) gs := ho.drew.alloc _
 have hR1 : RS (w.drew.alloc (.cells #[.string X] 9)) (w.heap.size + 1) (.slice (some ⟨w.heap.size, 0, none⟩) 1 1) [X] := RS_one w.drew X
 have HK1 := Lib.hid (show BK (w.drew.alloc (.cells #[.string X] 9)) g cs t from hk.drew.alloc _)
 have HC := Lib.hid hi
 have grw : ∀ {w2 : World}, (w.drew.alloc (.cells #[.string X] 9)).grownBy w2 (Value.slice a gs.length cap).ownBlock → w.grownBy w2 (Value.slice a gs.length cap).ownBlock := fun hg => ⟨hg.os, hg.tape, hg.output, Nat.le_trans (by simp) hg.size, fun k hk hne => (hg.block k (by simp; omega) hne).trans (Below.heap_alloc w.drew _ k hk)⟩
 have nvw : ∀ {v2 : Value}, (v2.ownBlock = (Value.slice a gs.length cap).ownBlock ∨ v2.ownBlock = some (w.drew.alloc (.cells #[.string X] 9)).heap.size) → (v2.ownBlock = (Value.slice a gs.length cap).ownBlock ∨ ∀ k, v2.ownBlock = some k → w.heap.size ≤ k) := fun h => h.imp id (fun e k hk => by rw [e] at hk; injection hk with hk; simp at hk; omega)
 clear hk hi ho hi0 hz0 hz1 hz2 hb0 hx0 hx1 hF hE hXX hq hbd hsz
 rcases hbn with hbn | hbn
 all_goals
   go_enter Tryz.func91, Tryz.ntmps91
   go_wp2_with fail
   refine (parity_any gs.length _ (by omega)).mono ?_
   rintro e w1 ⟨rfl, rfl⟩
   rw [← HE.out]
   go_wp2_with fail
   have hS : True := trivial
   refine wp_region_held_drew (S := (fun _ => True)) (by kernel_rfl) hS (fun hHeld => ?_)
   refine tkH 0 ?_ rfl (Or.inl ⟨by rfl, ?_⟩) ?_; rotate_left
   ·intro wq hSw; (try dsimp only at hSw); (try simp only [gT, gZ]); go_simp; (try with_reducible rfl)
   simp only [Act.put, gT, gZ, sT, sZ, sS]
   refine tkH 1 ?_ rfl (Or.inl ⟨by rfl, ?_⟩) ?_; rotate_left
   ·intro wq hSw; (try dsimp only at hSw); (try simp only [gT, gS, gZ]); go_simp; (try with_reducible rfl)
   simp only [Act.put, gT, gS, gZ, sT, sZ, sS]
   refine tkH 2 ?_ rfl (Or.inl ⟨by rfl, ?_⟩) ?_; rotate_left
   ·intro wq hSw; (try dsimp only at hSw); (try simp only [gT, gS, gZ]); go_simp; (try with_reducible rfl)
   simp only [Act.put, gT, gS, gZ, sT, sZ, sS]
   refine tkH 3 ?_ rfl (Or.inl ⟨by rfl, ?_⟩) ?_; rotate_left
   ·intro wq hSw; (try dsimp only at hSw); (try simp only [gT, gS, gZ]); go_simp; (try with_reducible rfl)
   simp only [Act.put, gT, gS, gZ, sT, sZ, sS]
   refine tkH 5 ?_ rfl (Or.inl ⟨by rfl, ?_⟩) ?_; rotate_left
   ·intro wq hSw; (try dsimp only at hSw); (try simp only [gT, gS, gZ]); go_simp; (try with_reducible rfl)
   simp only [Act.put, gT, gS, gZ, sT, sZ, sS]
   refine tkH 6 ?_ rfl (Or.inl ⟨by rfl, ?_⟩) ?_; rotate_left
   ·intro wq hSw; (try dsimp only at hSw); (try simp only [gT, gS, gZ]); go_simp; (try with_reducible rfl)
   simp only [Act.put, gT, gS, gZ, sT, sZ, sS]
   refine wpAnyH_ready (rs := [4, 7]) (by kernel_rfl) (by simp) ?_
   refine AllReadyH.cons rfl ?_ (AllReadyH.cons rfl ?_ AllReadyH.nil)
   ·intro K hK
    (try simp only [gT, gS, gZ])
    go_simp
    refine hK.out _ _ trivial (fun hHeld => ?_)
    clear hK K
    refine wpAnyH_ready (rs := [7]) (by kernel_rfl) (by simp) ?_
    refine AllReadyH.cons rfl ?_ AllReadyH.nil
    intro K hK
    (try simp only [gT, gS, gZ])
    go_simp
    refine hK.out _ _ trivial (fun hHeld => ?_)
    clear hK K
    refine wpAnyH_ready (rs := [8]) (by kernel_rfl) (by simp) ?_
    refine AllReadyH.cons rfl ?_ AllReadyH.nil
    intro K hK
    (try simp only [gT, gS, gZ])
    rw [if_pos (by rfl)]
    refine opwp_append_osn _ _ 25 rfl base i0 Tryz.underlying25 HI.out HZ0.out HZ1.out HZ2.out _ gs rfl hO1 _ _ [X] rfl hR1 (by simp; omega) (by simp; omega) ?_
    intro v2 w2 hown2 hg2 hv2
    obtain ⟨a2, cap2, hsh⟩ := hown2.reads.shape
    rw [hln2] at hsh
    subst hsh
    have hk2 : BK w2 g cs t := HK1.out.os ht hO1 hg2
    have c2 := hk2.cell HC.out
    have f2 := hk2.free i
    refine hK.out _ _ trivial (fun hHeld => ?_)
    clear hK K
    simp only [Act.put, sT, sZ, sS]
    refine tkH 9 ?_ rfl (Or.inl ⟨by rfl, ?_⟩) ?_; rotate_left
    ·intro wq hSw; (try dsimp only at hSw); (try simp only [gT, gS, gZ]); go_simp; (try with_reducible rfl)
    simp only [Act.put, gT, gS, gZ, sT, sZ, sS]
    refine tkH 10 ?_ rfl (Or.inl ⟨by rfl, ?_⟩) ?_; rotate_left
    ·intro wq hSw; (try dsimp only at hSw); (try simp only [gT, gS, gZ]); go_simp; (try with_reducible rfl)
    simp only [Act.put, gT, gS, gZ, sT, sZ, sS]
    refine wpAnyH_ready (rs := [11]) (by kernel_rfl) (by simp) ?_
    refine AllReadyH.cons rfl ?_ AllReadyH.nil
    intro K hK
    (try simp only [gT, gS, gZ])
    go_simp
    refine hK.out _ _ trivial (fun hHeld => ?_)
    clear hK K
    refine wpAnyH_done (by kernel_rfl) ?_ _
    have HX := Lib.hid (wpost_mk H.out hb hk2 hown2 (grw hg2) (nvw hv2))
    clear hk2 hown2 hg2 c2 f2 hv2
    go_wp2
    go_ret
    exact ⟨by rw [HD.out]; rfl, HX.out⟩
   ·intro K hK
    (try simp only [gT, gS, gZ])
    go_simp
    refine hK.out _ _ trivial (fun hHeld => ?_)
    clear hK K
    refine wpAnyH_ready (rs := [4]) (by kernel_rfl) (by simp) ?_
    refine AllReadyH.cons rfl ?_ AllReadyH.nil
    intro K hK
    (try simp only [gT, gS, gZ])
    go_simp
    refine hK.out _ _ trivial (fun hHeld => ?_)
    clear hK K
    refine wpAnyH_ready (rs := [8]) (by kernel_rfl) (by simp) ?_
    refine AllReadyH.cons rfl ?_ AllReadyH.nil
    intro K hK
    (try simp only [gT, gS, gZ])
    rw [if_pos (by rfl)]
    refine opwp_append_osn _ _ 25 rfl base i0 Tryz.underlying25 HI.out HZ0.out HZ1.out HZ2.out _ gs rfl hO1 _ _ [X] rfl hR1 (by simp; omega) (by simp; omega) ?_
    intro v2 w2 hown2 hg2 hv2
    obtain ⟨a2, cap2, hsh⟩ := hown2.reads.shape
    rw [hln2] at hsh
    subst hsh
    have hk2 : BK w2 g cs t := HK1.out.os ht hO1 hg2
    have c2 := hk2.cell HC.out
    have f2 := hk2.free i
    refine hK.out _ _ trivial (fun hHeld => ?_)
    clear hK K
    simp only [Act.put, sT, sZ, sS]
    refine tkH 9 ?_ rfl (Or.inl ⟨by rfl, ?_⟩) ?_; rotate_left
    ·intro wq hSw; (try dsimp only at hSw); (try simp only [gT, gS, gZ]); go_simp; (try with_reducible rfl)
    simp only [Act.put, gT, gS, gZ, sT, sZ, sS]
    refine tkH 10 ?_ rfl (Or.inl ⟨by rfl, ?_⟩) ?_; rotate_left
    ·intro wq hSw; (try dsimp only at hSw); (try simp only [gT, gS, gZ]); go_simp; (try with_reducible rfl)
    simp only [Act.put, gT, gS, gZ, sT, sZ, sS]
    refine wpAnyH_ready (rs := [11]) (by kernel_rfl) (by simp) ?_
    refine AllReadyH.cons rfl ?_ AllReadyH.nil
    intro K hK
    (try simp only [gT, gS, gZ])
    go_simp
    refine hK.out _ _ trivial (fun hHeld => ?_)
    clear hK K
    refine wpAnyH_done (by kernel_rfl) ?_ _
    have HX := Lib.hid (wpost_mk H.out hb hk2 hown2 (grw hg2) (nvw hv2))
    clear hk2 hown2 hg2 c2 f2 hv2
    go_wp2
    go_ret
    exact ⟨by rw [HD.out]; rfl, HX.out⟩
end Go.Proofs.YtmggoiabcboaiaaGreat
