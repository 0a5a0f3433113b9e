/- Builders of a Mux, and what they have come to. -/
import Derived.Test.YtplaagkcamjemaaMbE
namespace Go.Proofs.Ytplaagkcamjemaa
open Go.ChangeShapes Go.WideShapes Go.ChangeAt Go.RowKit
theorem add_blk (a : Addr) (n : Nat) : (a.add n).block = a.block := by unfold Addr.add; split <;> rfl
theorem MBs.new (w : World) (B : Nat) (hB : B ≤ w.heap.size) : MBs (w.alloc (.cells #[.pointer none, .slice none 0 0, .pointer none, .slice none 0 0, .pointer none, .slice none 0 0] 71)) B w.heap.size (fun _ => []) (fun _ => True) (fun _ => .pointer none) (fun _ => .slice none 0 0) where
  lo := hB
  bk := BK.new w _ _
  po := fun _ _ => .inl rfl
  rb := fun _ _ _ => ⟨World.ownsRow_nil _ _ _ _, fun _ => rfl⟩
  own := fun _ _ k hk => by simp [Value.ownBlock] at hk
  ap := fun _ _ _ _ _ => .inl rfl
/-- what the first k of them were given -/
def firstK (m : List (List UInt8)) (k : Nat) : Nat → List UInt8 := fun i => if i < k then getL m i else []
theorem firstK_next (m : List (List UInt8)) (k i : Nat) : upd (firstK m k) k (firstK m k k ++ getL m k) i = firstK m (k + 1) i := by
  unfold upd firstK
  by_cases e : i = k
  · subst e; simp
  · rw [if_neg e]
    by_cases h : i < k
    · rw [if_pos h, if_pos (by omega)]
    · rw [if_neg h, if_neg (by omega)]
def BOfPost (w : World) (m : List (List UInt8)) (e : Ending) (w' : World) : Prop := ∃ g p v, e = .returned (.pointer (some ⟨g, 0, none⟩)) ∧ MBs w' w.heap.size g (getL m) (fun _ => True) p v ∧ Below w.heap.size w w'
set_option maxRecDepth 100000 in
set_option maxHeartbeats 400000 in
theorem buildersOf_any (va : Value) (ss : List ByteArray) (w : World) (B : Nat) (h : RS w B va ss) (hB : B ≤ w.heap.size) (hok : muxSB ss = true) :
    Calls Try.prog 50 #[.agg #[va]] w (BOfPost w (txts ss)) := by
  have h3 : ss.length = 3 := by unfold muxSB at hok; rw [Bool.and_eq_true, decide_eq_true_eq] at hok; exact hok.1
  have hsh : ∀ q ∈ ss, q.size ≤ 600 := by
    unfold muxSB shortB at hok
    rw [Bool.and_eq_true, List.all_eq_true] at hok
    intro q hq
    exact of_decide_eq_true (hok.2 q hq)
  have HSH := Lib.hid hsh
  have H3 := Lib.hid h3
  obtain ⟨a, cap, rfl⟩ := h.shape
  have k0 := (BK.new w #[.slice a ss.length cap] 35).alloc (.cells #[.pointer none, .slice none 0 0, .pointer none, .slice none 0 0, .pointer none, .slice none 0 0] 71)
  have m0 := MBs.new (w.alloc (.cells #[.slice a ss.length cap] 35)) w.heap.size (by simp)
  rw [World.size_alloc] at m0
  have b0 : Below w.heap.size w ((w.alloc (.cells #[.slice a ss.length cap] 35)).alloc (.cells #[.pointer none, .slice none 0 0, .pointer none, .slice none 0 0, .pointer none, .slice none 0 0] 71)) := ((Below.refl _ w).alloc (Nat.le_refl _) _).alloc (by simp) _
  have H := Lib.hid h
  have K0 := Lib.hid k0
  have M0 := Lib.hid m0
  have B0 := Lib.hid b0
  clear h hok h3 hsh k0 m0 b0
  go_enter Try.func50, Try.ntmps50
  go_upto_region 3 with fail
  go_loopw [5] (fun i wr => ∃ k : Nat, k ≤ 3 ∧ i = .int .i64 k ∧ (∃ p v, MBs wr w.heap.size (w.heap.size + 1) (firstK (txts ss) k) (fun _ => True) p v) ∧ BK wr w.heap.size #[.slice a ss.length cap] 35 ∧ Below w.heap.size w wr) (fun i _ => 3 - (intOf i).toNat)
  case atStart => exact ⟨0, by omega, rfl, ⟨_, _, M0.out.same (fun i _ => by unfold firstK; rw [if_neg (by omega)])⟩, K0.out, B0.out⟩
  case round =>
    obtain ⟨k, hk, rfl, ⟨p, v, hm⟩, hbk, hb⟩ := hrel
    have HM := Lib.hid hm
    have HK := Lib.hid hbk
    have HB := Lib.hid hb
    clear hm hb
    by_cases hlt : k < 3
    · have hks : k < ss.length := by have := H3.out; omega
      obtain ⟨x, rfl, hxB, cx⟩ := (H.out.below (HB.out.mono hB)).at_ hks
      have hcx := HSH.out ss[k] (List.getElem_mem hks)
      have c0 := hbk.cell (i := 0) rfl
      have HG := Lib.hid (show getL (txts ss) k = ss[k].data.toList by unfold getL; rw [txts_get hks])
      have HF := Lib.hid (show (firstK (txts ss) k k).length + ss[k].size ≤ 140737488355328 by unfold firstK; rw [if_neg (by omega)]; simp; omega)
      have HN := Lib.hid (firstK_next (txts ss) k)
      have hki : (k : Int) < (ss.length : Int) := by omega
      have hlt3 : (k : Int) < 3 := by omega
      clear hbk
      generalize ss[k] = sk at *
      go_wp2_with fail
      have hS : wr.cell? ⟨w.heap.size, 0, none⟩ = some (.slice (some x) ss.length cap) ∧ wr.cell? (x.add k) = some (.string sk) := ⟨c0, cx⟩
      have HX := Lib.hid (show x.block < w.heap.size by omega)
      refine wp_region_held_drew (S := (fun wx => wx.cell? ⟨w.heap.size, 0, none⟩ = some (.slice (some x) ss.length cap) ∧ wx.cell? (x.add k) = some (.string sk))) (by kernel_rfl) hS (fun hHeld => ?_)
      refine wpAnyH_take (i := 0) (v := ?_) rfl (by kernel_rfl) (by kernel_rfl) (by kernel_rfl) (fun _ _ _ h => h) (Or.inl ⟨by rfl, ?_⟩) (by assumption) ?_
      rotate_left
      · intro wq hSw
        (try dsimp only at hSw)
        (try simp only [List.getElem_toArray, List.getElem_cons_zero])
        go_simp
        (try with_reducible rfl)
      simp only [Act.put, List.getElem_toArray, List.getElem_cons_zero, List.setIfInBounds_toArray, List.set_cons_zero, List.set_cons_succ]
      refine wpAnyH_take (i := 1) (v := ?_) rfl (by kernel_rfl) (by kernel_rfl) (by kernel_rfl) (fun _ _ _ h => h) (Or.inl ⟨by rfl, ?_⟩) (by assumption) ?_
      rotate_left
      · intro wq hSw
        (try dsimp only at hSw)
        (try simp only [List.getElem_toArray, List.getElem_cons_succ, List.getElem_cons_zero])
        go_simp
        (try with_reducible rfl)
      simp only [Act.put, List.getElem_toArray, List.getElem_cons_succ, List.getElem_cons_zero, List.setIfInBounds_toArray, List.set_cons_zero, List.set_cons_succ]
      refine wpAnyH_take (i := 2) (v := ?_) rfl (by kernel_rfl) (by kernel_rfl) (by kernel_rfl) (fun _ _ _ h => h) (Or.inl ⟨by rfl, ?_⟩) (by assumption) ?_
      rotate_left
      · intro wq hSw
        (try dsimp only at hSw)
        (try simp only [List.getElem_toArray, List.getElem_cons_succ, List.getElem_cons_zero])
        go_simp
        (try with_reducible rfl)
      simp only [Act.put, List.getElem_toArray, List.getElem_cons_succ, List.getElem_cons_zero, List.setIfInBounds_toArray, List.set_cons_zero, List.set_cons_succ]
      refine wpAnyH_take (i := 3) (v := ?_) rfl (by kernel_rfl) (by kernel_rfl) (by kernel_rfl) (fun _ _ _ h => h) (Or.inl ⟨by rfl, ?_⟩) (by assumption) ?_
      rotate_left
      · intro wq hSw
        (try dsimp only at hSw)
        (try simp only [List.getElem_toArray, List.getElem_cons_succ, List.getElem_cons_zero])
        go_simp
        (try with_reducible rfl)
      simp only [Act.put, List.getElem_toArray, List.getElem_cons_succ, List.getElem_cons_zero, List.setIfInBounds_toArray, List.set_cons_zero, List.set_cons_succ]
      refine wpAnyH_take (i := 4) (v := ?_) rfl (by kernel_rfl) (by kernel_rfl) (by kernel_rfl) (fun _ _ _ h => h) (Or.inl ⟨by rfl, ?_⟩) (by assumption) ?_
      rotate_left
      · intro wq hSw
        (try dsimp only at hSw)
        (try simp only [List.getElem_toArray, List.getElem_cons_succ, List.getElem_cons_zero])
        go_simp
        (try with_reducible rfl)
      simp only [Act.put, List.getElem_toArray, List.getElem_cons_succ, List.getElem_cons_zero, List.setIfInBounds_toArray, List.set_cons_zero, List.set_cons_succ]
      refine wpAnyH_take (i := 5) (v := ?_) rfl (by kernel_rfl) (by kernel_rfl) (by kernel_rfl) (fun _ _ _ h => h) (Or.inl ⟨by rfl, ?_⟩) (by assumption) ?_
      rotate_left
      · intro wq hSw
        (try dsimp only at hSw)
        (try simp only [List.getElem_toArray, List.getElem_cons_succ, List.getElem_cons_zero])
        go_simp
        (try with_reducible rfl)
      simp only [Act.put, List.getElem_toArray, List.getElem_cons_succ, List.getElem_cons_zero, List.setIfInBounds_toArray, List.set_cons_zero, List.set_cons_succ]
      refine wpAnyH_take (i := 6) (v := ?_) rfl (by kernel_rfl) (by kernel_rfl) (by kernel_rfl) (fun _ _ _ h => h) (Or.inl ⟨by rfl, ?_⟩) (by assumption) ?_
      rotate_left
      · intro wq hSw
        (try dsimp only at hSw)
        (try simp only [List.getElem_toArray, List.getElem_cons_succ, List.getElem_cons_zero])
        go_simp
        (try with_reducible rfl)
      simp only [Act.put, List.getElem_toArray, List.getElem_cons_succ, List.getElem_cons_zero, List.setIfInBounds_toArray, List.set_cons_zero, List.set_cons_succ]
      refine wpAnyH_ready (rs := [7]) (by kernel_rfl) (by simp) ?_
      refine AllReadyH.cons rfl (fun K hK => ?_) AllReadyH.nil
      (try simp only [List.getElem_toArray, List.getElem_cons_succ, List.getElem_cons_zero])
      go_simp
      go_at_call 63
      refine (mWrite_any w.heap.size (w.heap.size + 1) _ _ p v k sk _ HM.out.drew hlt trivial HF.out).mono ?_
      rintro e w2 ⟨rfl, ⟨p2, v2, hm2⟩, hb2, hn2⟩
      have HM2 := Lib.hid hm2
      have HB2 := Lib.hid (HB.out.drew.trans hb2)
      have HK2 := Lib.hid (HK.out.drew.nb hn2 (by omega) (by decide))
      clear hm2 hb2 hn2
      have hS := (show w2.cell? ⟨w.heap.size, 0, none⟩ = some (.slice (some x) ss.length cap) ∧ w2.cell? (x.add k) = some (.string sk) from ⟨HK2.out.cell (i := 0) rfl, by rw [HB2.out.cell (p := x.add k) (by rw [add_blk]; exact HX.out), ← HB.out.cell (p := x.add k) (by rw [add_blk]; exact HX.out)]; exact cx⟩)
      refine hK.out _ _ hS (fun hHeld => ?_)
      clear hK K
      refine wpAnyH_done (by kernel_rfl) ?_ _
      go_wp2
      go_roundw
      case rel => exact ⟨k + 1, by omega, by go_num, ⟨p2, v2, HM2.out.same (fun i _ => by rw [← HN.out i, HG.out])⟩, HK2.out, HB2.out⟩
      case measure => simp [intOf]; omega
    · obtain rfl : k = 3 := by omega
      go_wp2
      go_ret
      exact ⟨_, p, v, rfl, HM.out.same (fun i hi => by unfold firstK; rw [if_pos hi]), HB.out⟩
/-- what is shown so far -/
def shownK (m : List (List UInt8)) (k : Nat) : List ByteArray := strs ((List.range 3).map fun i => firstK m k i)
theorem shownK_none (m : List (List UInt8)) : shownK m 0 = strs mux0 := by simp [shownK, firstK, List.range, List.range.loop, mux0]
theorem shownK_len (m : List (List UInt8)) (k : Nat) : (shownK m k).length = 3 := by simp [shownK, strs]
theorem shownK_set (m : List (List UInt8)) (k : Nat) : (shownK m k).set k ⟨(getL m k).toArray⟩ = shownK m (k + 1) := by
  unfold shownK strs
  apply List.ext_getElem
  · simp
  · intro i h1 h2
    have hi : i < 3 := by simpa using h2
    by_cases e : k = i
    · subst e
      simp [firstK]
    · rw [List.getElem_set_ne e]
      simp only [List.getElem_map, List.getElem_range, firstK]
      by_cases h : i < k
      · rw [if_pos h, if_pos (by omega)]
      · rw [if_neg h, if_neg (by omega)]
theorem shownK_all (m : List (List UInt8)) (h : m.length = 3) : shownK m 3 = strs m := by
  unfold shownK
  congr 1
  apply List.ext_getElem
  · simp [h]
  · intro i h1 h2
    have hi : i < 3 := by omega
    simp [firstK, hi, getL, List.getD_eq_getElem?_getD, h2]
theorem OS.nb {w w' : World} {g base : Nat} {v : Value} {ss : List ByteArray} (h : OS w base v ss) (hn : NB g w w') (hne : ¬ v.ownBlock = some g) : OS w' base v ss := by
  refine ⟨h.1, ?_⟩
  rcases h.2 with hnil | ⟨r, cap, cur, rfl, hb, hr, rest⟩
  · exact .inl hnil
  · refine .inr ⟨r, cap, cur, rfl, hb, ?_, rest⟩
    have hk : BK w r cur 9 := hr
    exact hk.nb hn (fun e => hne (by simp [Value.ownBlock, e])) (by decide)
theorem MBs.far {w : World} {B g : Nat} {L : Nat → List UInt8} {live : Nat → Prop} {p v : Nat → Value} (h : MBs w B g L live p v) {j : Nat} (hj : j ≠ g) {cs : Array Value} {t : TypeId} {fz : Nat × Nat} (hb : w.heap[j]? = some (.cells cs t fz)) (ht : t ≠ 5) (o : Nat) (x : Value) : MBs (w.setCell ⟨j, o, none⟩ x) B g L live p v where
  lo := h.lo
  bk := h.bk.far hj x
  po := h.po
  rb := fun i hi hl => (h.rb i hi hl).setCell_far ((h.rb i hi hl).ob.ne_block hb ht)
  own := fun i hi k hk => by have := h.own i hi k hk; simpa using this
  ap := h.ap
theorem OS.block {w : World} {base g n cap : Nat} {ss : List ByteArray} (h : OS w base (.slice (some ⟨g, 0, none⟩) n cap) ss) : ∃ cur, w.heap[g]? = some (.cells cur 9 (0, 0)) := by
  rcases h.2 with ⟨hv, _⟩ | ⟨r, cap', cur, hv, _, hr, _⟩
  · simp at hv
  · have : g = r := by injection hv with h; injection h with h; injection h
    subst this
    exact ⟨cur, hr⟩
theorem NB.of_below {g : Nat} {w w' : World} (h : Below w.heap.size w w') : NB g w w' := ⟨h.size, fun i hi _ _ => h.block i hi⟩
theorem NB.new {g : Nat} {a w : World} (h : NB g a w) {p : Addr} (hp : a.heap.size ≤ p.block) (x : Value) : NB g a (w.setCell p x) :=
  ⟨by simpa using h.1, fun i hi hne hnb => (Below.heap_setCell w p x i (by omega)).trans (h.2 i hi hne hnb)⟩
def ShPost (w : World) (B g : Nat) (m : List (List UInt8)) (e : Ending) (w' : World) : Prop := ∃ u, e = .returned (.agg #[u]) ∧ OS w' w.heap.size u (strs m) ∧ Below B w w' ∧ NB g w w'
set_option maxRecDepth 100000 in
set_option maxHeartbeats 400000 in
theorem shown_any (B g : Nat) (m : List (List UInt8)) (p v : Nat → Value) (w : World) (h : MBs w B g (getL m) (fun _ => True) p v) (hok : muxOkB m = true) :
    Calls Try.prog 51 #[.pointer (some ⟨g, 0, none⟩)] w (ShPost w B g m) := by
  obtain ⟨h3, hsh⟩ := ok_three hok
  have H3 := Lib.hid h3
  have HSH := Lib.hid hsh
  have HM := Lib.hid h
  have hgl := h.bk.lt
  have hBg := h.lo
  have hz := zero_mux
  clear h hok h3 hsh
  go_enter Try.func51, Try.ntmps51
  go_wp2_with fail
  refine (implNew_any _).mono ?_
  rintro e w1 ⟨⟨u, rfl, hu⟩, hb1⟩
  obtain ⟨gs, cap, rfl, hgs1, hgs2⟩ := hu.pos (by simp [strs, mux0])
  have hb0 : Below w.heap.size w (w.alloc (.cells #[.slice none 0 0] 35)) := (Below.refl _ w).alloc (Nat.le_refl _) _
  rw [World.size_alloc] at hu hb1 hgs1
  have hsz1 : w.heap.size + 1 ≤ w1.heap.size := by have := hb1.size; simpa using this
  have hw1 : Below w.heap.size w w1 := hb0.trans (hb1.mono (by omega))
  have k0 := ((BK.new w #[.slice none 0 0] 35).below hb1 (by omega)).alloc (.cells #[.slice (some ⟨gs, 0, none⟩) 3 cap] 35)
  have k1 := BK.new w1 #[.slice (some ⟨gs, 0, none⟩) 3 cap] 35
  have m1 := HM.out.below (hw1.alloc hw1.size (.cells #[.slice (some ⟨gs, 0, none⟩) 3 cap] 35)) (Nat.le_refl _)
  have o1 := (hu.mono (show w.heap.size ≤ w.heap.size + 1 by omega)).alloc (.cells #[.slice (some ⟨gs, 0, none⟩) 3 cap] 35)
  have b1 : Below B w (w1.alloc (.cells #[.slice (some ⟨gs, 0, none⟩) 3 cap] 35)) := (hw1.mono (show B ≤ w.heap.size by omega)).alloc (by omega) _
  have hlen : (strs mux0).length = 3 := by simp [strs, mux0]
  rw [hlen] at o1 ⊢
  have n1 : NB g w (w1.alloc (.cells #[.slice (some ⟨gs, 0, none⟩) 3 cap] 35)) := (NB.of_below hw1).alloc _
  have N1 := Lib.hid n1
  have K0 := Lib.hid k0
  have K1 := Lib.hid k1
  have M1 := Lib.hid m1
  have O1 := Lib.hid o1
  have B1 := Lib.hid b1
  clear hu hb1 hb0 hw1 k0 k1 m1 o1 b1 n1 hlen
  go_upto_region 3 with fail
  go_loopw [6] (fun i wr => ∃ k : Nat, k ≤ 3 ∧ i = .int .i64 k ∧ MBs wr B g (getL m) (fun j => k ≤ j) p v ∧ OS wr w.heap.size (.slice (some ⟨gs, 0, none⟩) 3 cap) (shownK m k) ∧ BK wr w1.heap.size #[.slice (some ⟨gs, 0, none⟩) 3 cap] 35 ∧ BK wr w.heap.size #[.slice none 0 0] 35 ∧ Below B w wr ∧ NB g w wr) (fun i _ => 3 - (intOf i).toNat)
  case atStart => exact ⟨0, by omega, rfl, M1.out.live' (fun _ _ _ => trivial), by rw [shownK_none]; exact O1.out, K1.out, K0.out, B1.out, N1.out⟩
  case round =>
    obtain ⟨k, hk, rfl, hm, ho, hk1, hk0, hb, hn⟩ := hrel
    have HNB := Lib.hid hn
    have HM := Lib.hid hm
    have HO := Lib.hid ho
    have HK1 := Lib.hid hk1
    have HK0 := Lib.hid hk0
    have HB := Lib.hid hb
    clear hm ho hk0 hb hn
    by_cases hlt : k < 3
    · have hki : (k : Int) < 3 := by omega
      have c1 := hk1.cell (i := 0) rfl
      clear hk1
      have HX := Lib.hid (show (getL m k).length ≤ 140737488355328 by have := HSH.out k; omega)
      have HGS := Lib.hid (show gs ≠ g by omega)
      go_wp2_with fail
      have hS : wr.cell? ⟨w1.heap.size, 0, none⟩ = some (.slice (some ⟨gs, 0, none⟩) 3 cap) := c1
      refine wp_region_held_drew (S := (fun wx => wx.cell? ⟨w1.heap.size, 0, none⟩ = some (.slice (some ⟨gs, 0, none⟩) 3 cap))) (by kernel_rfl) hS (fun hHeld => ?_)
      refine wpAnyH_take (i := 0) (v := ?_) rfl (by kernel_rfl) (by kernel_rfl) (by kernel_rfl) (fun _ _ _ h => h) (Or.inl ⟨by rfl, ?_⟩) (by assumption) ?_
      rotate_left
      · intro wq hSw
        (try dsimp only at hSw)
        (try simp only [List.getElem_toArray, List.getElem_cons_zero])
        go_simp
        (try with_reducible rfl)
      simp only [Act.put, List.getElem_toArray, List.getElem_cons_zero, List.setIfInBounds_toArray, List.set_cons_zero, List.set_cons_succ]
      refine wpAnyH_take (i := 1) (v := ?_) rfl (by kernel_rfl) (by kernel_rfl) (by kernel_rfl) (fun _ _ _ h => h) (Or.inl ⟨by rfl, ?_⟩) (by assumption) ?_
      rotate_left
      · intro wq hSw
        (try dsimp only at hSw)
        (try simp only [List.getElem_toArray, List.getElem_cons_succ, List.getElem_cons_zero])
        go_simp
        (try with_reducible rfl)
      simp only [Act.put, List.getElem_toArray, List.getElem_cons_succ, List.getElem_cons_zero, List.setIfInBounds_toArray, List.set_cons_zero, List.set_cons_succ]
      refine wpAnyH_take (i := 2) (v := ?_) rfl (by kernel_rfl) (by kernel_rfl) (by kernel_rfl) (fun _ _ _ h => h) (Or.inl ⟨by rfl, ?_⟩) (by assumption) ?_
      rotate_left
      · intro wq hSw
        (try dsimp only at hSw)
        (try simp only [List.getElem_toArray, List.getElem_cons_succ, List.getElem_cons_zero])
        go_simp
        (try with_reducible rfl)
      simp only [Act.put, List.getElem_toArray, List.getElem_cons_succ, List.getElem_cons_zero, List.setIfInBounds_toArray, List.set_cons_zero, List.set_cons_succ]
      refine wpAnyH_take (i := 3) (v := ?_) rfl (by kernel_rfl) (by kernel_rfl) (by kernel_rfl) (fun _ _ _ h => h) (Or.inl ⟨by rfl, ?_⟩) (by assumption) ?_
      rotate_left
      · intro wq hSw
        (try dsimp only at hSw)
        (try simp only [List.getElem_toArray, List.getElem_cons_succ, List.getElem_cons_zero])
        go_simp
        (try with_reducible rfl)
      simp only [Act.put, List.getElem_toArray, List.getElem_cons_succ, List.getElem_cons_zero, List.setIfInBounds_toArray, List.set_cons_zero, List.set_cons_succ]
      refine wpAnyH_take (i := 4) (v := ?_) rfl (by kernel_rfl) (by kernel_rfl) (by kernel_rfl) (fun _ _ _ h => h) (Or.inl ⟨by rfl, ?_⟩) (by assumption) ?_
      rotate_left
      · intro wq hSw
        (try dsimp only at hSw)
        (try simp only [List.getElem_toArray, List.getElem_cons_succ, List.getElem_cons_zero])
        go_simp
        (try with_reducible rfl)
      simp only [Act.put, List.getElem_toArray, List.getElem_cons_succ, List.getElem_cons_zero, List.setIfInBounds_toArray, List.set_cons_zero, List.set_cons_succ]
      refine wpAnyH_take (i := 5) (v := ?_) rfl (by kernel_rfl) (by kernel_rfl) (by kernel_rfl) (fun _ _ _ h => h) (Or.inl ⟨by rfl, ?_⟩) (by assumption) ?_
      rotate_left
      · intro wq hSw
        (try dsimp only at hSw)
        (try simp only [List.getElem_toArray, List.getElem_cons_succ, List.getElem_cons_zero])
        go_simp
        (try with_reducible rfl)
      simp only [Act.put, List.getElem_toArray, List.getElem_cons_succ, List.getElem_cons_zero, List.setIfInBounds_toArray, List.set_cons_zero, List.set_cons_succ]
      refine wpAnyH_take (i := 6) (v := ?_) rfl (by kernel_rfl) (by kernel_rfl) (by kernel_rfl) (fun _ _ _ h => h) (Or.inl ⟨by rfl, ?_⟩) (by assumption) ?_
      rotate_left
      · intro wq hSw
        (try dsimp only at hSw)
        (try simp only [List.getElem_toArray, List.getElem_cons_succ, List.getElem_cons_zero])
        go_simp
        (try with_reducible rfl)
      simp only [Act.put, List.getElem_toArray, List.getElem_cons_succ, List.getElem_cons_zero, List.setIfInBounds_toArray, List.set_cons_zero, List.set_cons_succ]
      refine wpAnyH_ready (rs := [7]) (by kernel_rfl) (by simp) ?_
      refine AllReadyH.cons rfl (fun K hK => ?_) AllReadyH.nil
      (try simp only [List.getElem_toArray, List.getElem_cons_succ, List.getElem_cons_zero])
      go_simp
      go_at_call 64
      refine (mString_any B g _ _ p v k _ HM.out.drew hlt (Nat.le_refl _) HX.out).mono ?_
      rintro e w2 ⟨rfl, hm2, hb2, hn2⟩
      have HM2 := Lib.hid hm2
      have HB2 := Lib.hid (HB.out.drew.trans hb2)
      have HN2 := Lib.hid (HNB.out.drew.trans hn2)
      have HK12 := Lib.hid (HK1.out.drew.nb hn2 (by omega) (by decide))
      have HK02 := Lib.hid (HK0.out.drew.nb hn2 (by omega) (by decide))
      have HO2 := Lib.hid (HO.out.drew.nb hn2 (by simp [Value.ownBlock]; exact HGS.out))
      clear hm2 hb2 hn2
      have hS := (show w2.cell? ⟨w1.heap.size, 0, none⟩ = some (.slice (some ⟨gs, 0, none⟩) 3 cap) from HK12.out.cell (i := 0) rfl)
      refine hK.out _ _ hS (fun hHeld => ?_)
      clear hK K
      refine wpAnyH_take (i := 8) (v := ?_) rfl (by kernel_rfl) (by kernel_rfl) (by kernel_rfl) (fun _ _ _ h => h) (Or.inl ⟨by rfl, ?_⟩) (by assumption) ?_
      rotate_left
      · intro wq hSw
        (try dsimp only at hSw)
        (try simp only [List.getElem_toArray, List.getElem_cons_succ, List.getElem_cons_zero])
        go_simp
        (try with_reducible rfl)
      simp only [Act.put, List.getElem_toArray, List.getElem_cons_succ, List.getElem_cons_zero, List.setIfInBounds_toArray, List.set_cons_zero, List.set_cons_succ]
      refine wpAnyH_ready (rs := [9]) (by kernel_rfl) (by simp) ?_
      refine AllReadyH.cons rfl (fun K hK => ?_) AllReadyH.nil
      (try simp only [List.getElem_toArray, List.getElem_cons_succ, List.getElem_cons_zero])
      have dk := HO2.out.cellAt (k := k) (by rw [shownK_len]; exact hlt)
      have fk := HO2.out.freeAt k
      have hK12x := (HK12.out.far (j := gs) (o := k) (fun e => by obtain ⟨cur, hc⟩ := HO2.out.block; have hkk := HK12.out; unfold BK at hkk; rw [← e, hc] at hkk; injection hkk with hkk; injection hkk with _ h2; exact absurd h2 (by decide)) (.string ⟨(getL m k).toArray⟩))
      have hS := (show (w2.setCell ⟨gs, k, none⟩ (.string ⟨(getL m k).toArray⟩)).cell? ⟨w1.heap.size, 0, none⟩ = some (.slice (some ⟨gs, 0, none⟩) 3 cap) from hK12x.cell (i := 0) rfl)
      go_simp
      refine hK.out _ _ hS (fun hHeld => ?_)
      clear hK K
      refine wpAnyH_done (by kernel_rfl) ?_ _
      clear dk fk
      go_wp2
      go_roundw
      case rel =>
        obtain ⟨cur, hcur⟩ := HO2.out.block
        refine ⟨k + 1, by omega, by go_num, (HM2.out.far HGS.out hcur (by decide) k _).live' (fun j _ hj => ⟨by omega, by omega⟩), ?_, hK12x, HK02.out.far (by omega) _, HB2.out.setCell (p := ⟨gs, k, none⟩) (show B ≤ gs by omega) _, HN2.out.new (p := ⟨gs, k, none⟩) (show w.heap.size ≤ gs by omega) _⟩
        rw [← shownK_set]
        exact HO2.out.stored k _
      case measure => simp [intOf]; omega
    · obtain rfl : k = 3 := by omega
      have c1 := hk1.cell (i := 0) rfl
      have d0 := HK0.out.cell (i := 0) rfl
      have e0 := HK0.out.free 0
      have HA := Lib.hid (shownK_all m H3.out)
      clear hk1
      go_wp2
      exact mux_ret rfl (HK0.out.set 0 _) rfl rfl ⟨_, rfl, by rw [← HA.out]; exact HO.out.far (by simp [Value.ownBlock]; omega) 0 _, HB.out.setCell (p := ⟨w.heap.size, 0, none⟩) (show B ≤ w.heap.size by omega) _, HNB.out.new (p := ⟨w.heap.size, 0, none⟩) (Nat.le_refl _) _⟩
end Go.Proofs.Ytplaagkcamjemaa
