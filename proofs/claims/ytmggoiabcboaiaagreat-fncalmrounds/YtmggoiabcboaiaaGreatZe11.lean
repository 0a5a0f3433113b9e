/- Parts of a proof, 11: FindDD Strs Bk LnA LnB Mark. -/
import Derived.Laws.MakeOwn
import Derived.RegionTactic
import Derived.Lib.Strings
import Derived.SliceStrings
import Derived.Lib.SmallJoins
import Derived.Test.YtmggoiabcboaiaaGreatZe1
import Derived.Test.YtmggoiabcboaiaaGreatZe2
import Derived.Test.YtmggoiabcboaiaaGreatZe3
import Derived.Test.YtmggoiabcboaiaaGreatZe4
import Derived.Test.YtmggoiabcboaiaaGreatZe5
import Derived.Test.YtmggoiabcboaiaaGreatZe6
import Derived.Test.YtmggoiabcboaiaaGreatZe7
import Derived.Test.YtmggoiabcboaiaaGreatZe8
import Derived.Test.YtmggoiabcboaiaaGreatZe9
import Derived.Test.YtmggoiabcboaiaaGreatZe10
namespace Go.Proofs.YtmggoiabcboaiaaGreat
open Go.ChangeShapes Go.WideShapes Go.ChangeAt Go.RowKit
structure WayD (c : Cf) (t : TypeId) (v : Value) (fd : Nat) (rd : Value) : Prop where
 dm : ∀ w : World, (method 302 t v "loop.example/cotterpin/impl.delimiter").run Tryz.prog w = .ok (fd, rd) w
 de : ∀ w : World, (callFunc fd #[rd]).run Tryz.prog w = .ok (.enter fd #[rd]) w
 dc : ∀ w : World, Calls Tryz.prog fd #[rd] w fun e w' => e = .returned (.int .u8 (endOf c).toNat) ∧ Below w.heap.size w w'
theorem wayD_of {a b d m : Int} (h : confB ⟨a, b, d, m⟩ = true) : ∃ t v fd rd, wayV a m = .iface t v ∧ WayD ⟨a, b, d, m⟩ t v fd rd := by
 obtain ⟨h1, _, _, h4, h5⟩ := confB_yes h
 simp only at h1 h4 h5
 rcases h1 with rfl | rfl | rfl
 ·obtain ⟨k, rfl, hk, hk2⟩ := toNat_map h4
  exact ⟨123, .agg #[.int .i64 k], 148, .agg #[.int .i64 k], rfl, ⟨fun w => by kernel_rfl, fun w => by kernel_rfl, fun w => escDel _ w⟩⟩
 ·have hm : m = 0 := by omega
  subst hm
  exact ⟨127, .agg #[], 164, .agg #[], rfl, ⟨fun w => by kernel_rfl, fun w => by kernel_rfl, fun w => zeroDel w⟩⟩
 ·have hm : m = 0 := by omega
  subst hm
  exact ⟨128, .agg #[], 164, .agg #[], rfl, ⟨fun w => by kernel_rfl, fun w => by kernel_rfl, fun w => zeroDel w⟩⟩
set_option maxRecDepth 100000 in
set_option maxHeartbeats 2000000 in
theorem implFindOkD_any (a b d m : Int) (s : ByteArray) (o : Bool) (w : World) (wa : (Lit.int .i64 a).wf = true) (hs : s.size ≤ maxLen) :
  Calls Tryz.prog 44 #[cfV a b d m, .agg #[.string s, .bool o]] w fun e w' => e = .returned (.bool (okF ⟨a, b, d, m⟩ ⟨s.data.toList, o⟩)) ∧ Below w.heap.size w w' := by
 unfold maxLen at hs
 have HSL := Lib.hid (size_list s)
 cases hc : confB ⟨a, b, d, m⟩ with
 | false =>
  have HE := Lib.hid (show okF ⟨a, b, d, m⟩ ⟨s.data.toList, o⟩ = false by simp [okF, hc])
  have HC := Lib.hid hc
  clear hc
  go_enter Tryz.func44, Tryz.ntmps44
  go_wp2_with fail
  refine (codecOf_any a b d m _ wa).mono ?_
  rintro e w1 ⟨rfl, hb1⟩
  have HBX := Lib.hid ((Bx.new w a b d m s o _ _).next hb1)
  rw [HC.out]
  clear hb1
  go_wp2
  go_ret
  exact ⟨by rw [HE.out]; rfl, HBX.out.2.2.1⟩
 | true =>
  obtain ⟨hcd, hkb, hd, hmm, hcm⟩ := confB_yes hc
  simp only at hcd hkb hd hmm hcm
  have hkb2 := kind_ge hkb
  have HP := Lib.hid (hold_pos hc)
  obtain ⟨t, v, fd, rd, hway, HW⟩ := wayD_of hc
  have HWV := Lib.hid hway
  have HC := Lib.hid hc
  clear hc hway hcd hmm hcm hkb
  cases o with
  | true =>
   by_cases h0 : s.size = 0
   ·obtain rfl := sz0 h0
    have HE := Lib.hid (show okF ⟨a, b, d, m⟩ ⟨(⟨#[]⟩ : ByteArray).data.toList, true⟩ = true by
     have := HP.out; simp [okF, HC.out]; omega)
    go_enter Tryz.func44, Tryz.ntmps44
    go_wp2_with fail
    refine (codecOf_any a b d m _ wa).mono ?_
    rintro e w1 ⟨rfl, hb1⟩
    have hbx := (Bx.new w a b d m ⟨#[]⟩ true _ _).next hb1
    obtain ⟨_, e0, e1⟩ := hbx.cells
    have HBX := Lib.hid hbx
    rw [HC.out]
    clear hb1 hbx
    go_wp2
    go_ret
    exact ⟨by rw [HE.out]; rfl, HBX.out.2.2.1⟩
   ·have HE := Lib.hid (show okF ⟨a, b, d, m⟩ ⟨s.data.toList, true⟩ = false by
     simp [okF]; intros; intro e; exact h0 (by rw [← HSL.out, e]; rfl))
    have h1 : s.toList ≠ [] := by rw [Lib.toList_data]; intro e; exact h0 (by rw [← HSL.out, e]; rfl)
    have h2 : s.toList.isEmpty = false := by cases hh : s.toList with | nil => exact absurd hh h1 | cons x l => rfl
    go_enter Tryz.func44, Tryz.ntmps44
    go_wp2_with fail
    refine (codecOf_any a b d m _ wa).mono ?_
    rintro e w1 ⟨rfl, hb1⟩
    have hbx := (Bx.new w a b d m s true _ _).next hb1
    obtain ⟨_, e0, e1⟩ := hbx.cells
    have HBX := Lib.hid hbx
    rw [HC.out]
    clear hb1 hbx
    go_wp2
    go_ret
    exact ⟨by rw [HE.out]; rfl, HBX.out.2.2.1⟩
  | false =>
   by_cases hle : (s.size : Int) ≤ holdN ⟨a, b, d, m⟩
   ·have HE := Lib.hid (show okF ⟨a, b, d, m⟩ ⟨s.data.toList, false⟩ = !s.data.toList.contains (endOf ⟨a, b, d, m⟩) by
     simp [okF, HC.out, HSL.out, hle])
    have hq := HW.dm
    have hq2 := HW.de
    have hdc := Lib.hid HW.dc
    clear HW
    generalize hold : holdN ⟨a, b, d, m⟩ = hn at *
    have HO := Lib.hid hold
    obtain ⟨x, hx, hxr⟩ : ∃ x : Int, Lib.indexByte s.data.toList (((endOf ⟨a, b, d, m⟩).toNat : Int).toNat.toUInt8) = x ∧ decide (x < 0) = !s.data.toList.contains (endOf ⟨a, b, d, m⟩) := by
     refine ⟨_, rfl, ?_⟩
     rw [u8_back]
     by_cases hmem : endOf ⟨a, b, d, m⟩ ∈ s.data.toList
     ·obtain ⟨k, e, _⟩ := idx_split hmem
      rw [e]; simp [hmem]
     ·rw [idx_none hmem]; simp [hmem]
    have HX := Lib.hid hx
    have HXR := Lib.hid hxr
    clear hold hx hxr
    go_enter Tryz.func44, Tryz.ntmps44
    go_wp2_with fail
    refine (codecOf_any a b d m _ wa).mono ?_
    rintro e w1 ⟨rfl, hb1⟩
    have hbx := (Bx.new w a b d m s false _ _).next hb1
    obtain ⟨⟨c0, c1, c2, c3⟩, e0, e1⟩ := hbx.cells
    rw [HC.out, HWV.out]
    clear hb1
    go_wp2_with fail
    have hS := hbx.drew
    clear c0 c1 c2 c3 e0 e1 hbx
    go_region_held3 (fun wx => (wx.cell? ⟨w.heap.size, 0, none⟩ = some (.int .i64 a) ∧ wx.cell? ⟨w.heap.size, 1, none⟩ = some (.int .i64 b) ∧ wx.cell? ⟨w.heap.size, 2, none⟩ = some (.int .i64 d) ∧ wx.cell? ⟨w.heap.size, 3, none⟩ = some (.int .i64 m)) ∧ (wx.cell? ⟨w.heap.size + 1, 0, none⟩ = some (.string s) ∧ wx.cell? ⟨w.heap.size + 1, 1, none⟩ = some (.bool false))) (first | exact hS.flat) (first | (go_at_call 77; refine (bufSize_any a b d m _ hkb2 hd).mono ?_; rintro e w2 ⟨rfl, hb2⟩; have hS := hS.next hb2; rw [HO.out]) | (go_at_call 78; refine (idx_any s _ _).mono ?_; rintro e w4 ⟨rfl, rfl⟩; rw [HX.out]) | (refine (hdc.out _).mono ?_; rintro e w3 ⟨rfl, hb3⟩; have hS := hS.next hb3))
    go_wp2
    go_ret
    exact ⟨by rw [HE.out, ← HXR.out]; rfl, hS.2.2.1⟩
   ·have HE := Lib.hid (show okF ⟨a, b, d, m⟩ ⟨s.data.toList, false⟩ = false by
     simp [okF, HC.out, HSL.out]; omega)
    clear HW
    generalize hold : holdN ⟨a, b, d, m⟩ = hn at *
    have HO := Lib.hid hold
    have hdl : decide ((s.size : Int) ≤ hn) = false := by simpa using hle
    clear hold
    go_enter Tryz.func44, Tryz.ntmps44
    go_wp2_with fail
    refine (codecOf_any a b d m _ wa).mono ?_
    rintro e w1 ⟨rfl, hb1⟩
    have hbx := (Bx.new w a b d m s false _ _).next hb1
    obtain ⟨⟨c0, c1, c2, c3⟩, e0, e1⟩ := hbx.cells
    rw [HC.out, HWV.out]
    clear hb1
    go_wp2_with fail
    have hB := hbx.drew
    have hS := hB.flat
    clear hbx
    refine wp_region_held_drew (S := (fun wx => (wx.cell? ⟨w.heap.size, 0, none⟩ = some (.int .i64 a) ∧ wx.cell? ⟨w.heap.size, 1, none⟩ = some (.int .i64 b) ∧ wx.cell? ⟨w.heap.size, 2, none⟩ = some (.int .i64 d) ∧ wx.cell? ⟨w.heap.size, 3, none⟩ = some (.int .i64 m)) ∧ (wx.cell? ⟨w.heap.size + 1, 0, none⟩ = some (.string s) ∧ wx.cell? ⟨w.heap.size + 1, 1, none⟩ = some (.bool false)))) (by kernel_rfl) hS (fun hHeld => ?_)
    refine tkH 0 ?_ rfl (Or.inl ⟨by rfl, ?_⟩) ?_; rotate_left
    ·intro wq hSw; (try dsimp only at hSw); (try simp only [gT, gZ]); go_simp; (try with_reducible rfl)
    simp only [Act.put, gT, gZ, sT, sZ, sS]
    refine tkH 1 ?_ rfl (Or.inl ⟨by rfl, ?_⟩) ?_; rotate_left
    ·intro wq hSw; (try dsimp only at hSw); (try simp only [gT, gS, gZ]); go_simp; (try with_reducible rfl)
    simp only [Act.put, gT, gS, gZ, sT, sZ, sS]
    refine tkH 2 ?_ rfl (Or.inl ⟨by rfl, ?_⟩) ?_; rotate_left
    ·intro wq hSw; (try dsimp only at hSw); (try simp only [gT, gS, gZ]); go_simp; (try with_reducible rfl)
    simp only [Act.put, gT, gS, gZ, sT, sZ, sS]
    refine tkH 3 ?_ rfl (Or.inl ⟨by rfl, ?_⟩) ?_; rotate_left
    ·intro wq hSw; (try dsimp only at hSw); (try simp only [gT, gS, gZ]); go_simp; (try with_reducible rfl)
    simp only [Act.put, gT, gS, gZ, sT, sZ, sS]
    refine wpAnyH_ready (rs := [4]) (by kernel_rfl) (by simp) ?_
    refine AllReadyH.cons rfl (fun K hK => ?_) AllReadyH.nil
    (try simp only [gT, gS, gZ])
    go_simp
    go_at_call 77
    refine (bufSize_any a b d m _ hkb2 hd).mono ?_
    rintro e w2 ⟨rfl, hb2⟩
    have hB := hB.next hb2
    have hS := hB.flat
    rw [HO.out]
    refine hK.out _ _ hS (fun hHeld => ?_)
    clear hK K
    refine tkH 5 ?_ rfl (Or.inl ⟨by rfl, ?_⟩) ?_; rotate_left
    ·intro wq hSw; (try dsimp only at hSw); (try simp only [gT, gS, gZ]); go_simp; (try with_reducible rfl)
    simp only [Act.put, gT, gS, gZ, sT, sZ, sS]
    refine tkH 6 ?_ rfl (Or.inl ⟨by rfl, ?_⟩) ?_; rotate_left
    ·intro wq hSw; (try dsimp only at hSw); (try simp only [gT, gS, gZ]); go_simp; (try with_reducible rfl)
    simp only [Act.put, gT, gS, gZ, sT, sZ, sS]
    refine tkH 7 undef rfl (Or.inr ⟨by rfl, rfl⟩) ?_
    simp only [Act.put, gT, gS, gZ, sT, sZ, sS]
    refine tkH 8 undef rfl (Or.inr ⟨by rfl, rfl⟩) ?_
    simp only [Act.put, gT, gS, gZ, sT, sZ, sS]
    refine tkH 9 undef rfl (Or.inr ⟨by rfl, rfl⟩) ?_
    simp only [Act.put, gT, gS, gZ, sT, sZ, sS]
    refine tkH 10 undef rfl (Or.inr ⟨by rfl, rfl⟩) ?_
    simp only [Act.put, gT, gS, gZ, sT, sZ, sS]
    refine tkH 11 undef rfl (Or.inr ⟨by rfl, rfl⟩) ?_
    simp only [Act.put, gT, gS, gZ, sT, sZ, sS]
    refine tkH 12 undef rfl (Or.inr ⟨by rfl, rfl⟩) ?_
    simp only [Act.put, gT, gS, gZ, sT, sZ, sS]
    refine tkH 13 ?_ rfl (Or.inl ⟨by rfl, ?_⟩) ?_; rotate_left
    ·intro wq hSw; (try dsimp only at hSw); (try simp only [gT, gS, gZ]); go_simp; (try with_reducible rfl)
    simp only [Act.put, gT, gS, gZ, sT, sZ, sS]
    refine tkH 14 ?_ rfl (Or.inl ⟨by rfl, ?_⟩) ?_; rotate_left
    ·intro wq hSw; (try dsimp only at hSw); (try simp only [gT, gS, gZ]); go_simp; (try with_reducible rfl)
    simp only [Act.put, gT, gS, gZ, sT, sZ, sS]
    refine wpAnyH_done (by kernel_rfl) ?_ _
    go_wp2
    go_ret
    exact ⟨by rw [HE.out]; rfl, hB.2.2.1⟩
end Go.Proofs.YtmggoiabcboaiaaGreat
namespace Go.Proofs.YtmggoiabcboaiaaGreat
open Go.ChangeShapes Go.WideShapes Go.ChangeAt Go.RowKit
def RS (w : World) (B : Nat) (v : Value) (ss : List ByteArray) : Prop :=
 ∃ a cap, v = .slice a ss.length cap ∧ (0 < ss.length → ∃ x : Addr, a = some x ∧ x.block < B ∧ ∀ j (h : j < ss.length), w.cell? (x.add j) = some (.string ss[j]))
theorem add_block (x : Addr) (j : Nat) : (x.add j).block = x.block := by unfold Addr.add; split <;> rfl
section
variable {w w' : World} {B B' : Nat} {v : Value} {ss : List ByteArray}
theorem RS.keep (h : RS w B v ss) (hk : ∀ p : Addr, p.block < B → w'.cell? p = w.cell? p) : RS w' B v ss := by
 obtain ⟨a, cap, hv, h2⟩ := h
 refine ⟨a, cap, hv, fun h0 => ?_⟩
 obtain ⟨x, hx, hB, hc⟩ := h2 h0
 exact ⟨x, hx, hB, fun j hj => (hk _ (by rw [add_block]; exact hB)).trans (hc j hj)⟩
theorem RS.below (h : RS w B v ss) (hb : Below B w w') : RS w' B v ss := h.keep fun _ hp => hb.cell hp
theorem RS.mono (h : RS w B v ss) (hB : B ≤ B') : RS w B' v ss := by
 obtain ⟨a, cap, hv, h2⟩ := h
 refine ⟨a, cap, hv, fun h0 => ?_⟩
 obtain ⟨x, hx, hx2, hc⟩ := h2 h0
 exact ⟨x, hx, by omega, hc⟩
theorem RS.shape (h : RS w B v ss) : ∃ a cap, v = .slice a ss.length cap := by
 obtain ⟨a, cap, hv, _⟩ := h
 exact ⟨a, cap, hv⟩
theorem RS.at_ {a : Option Addr} {cap : Nat} (h : RS w B (.slice a ss.length cap) ss) {k : Nat} (hk : k < ss.length) : ∃ x : Addr, a = some x ∧ x.block < B ∧ w.cell? (x.add k) = some (.string ss[k]) := by
 obtain ⟨a', cap', hv, h2⟩ := h
 injection hv with hv1 hv2 hv3
 subst hv1
 obtain ⟨x, hx, hB, hc⟩ := h2 (by omega)
 exact ⟨x, hx, hB, hc k hk⟩
end
theorem info_str : (Tryz.prog.info? 9).map (fun i => (i.zero, i.size, i.bytes)) = some (some (.string ⟨#[]⟩), 1, 16) := by kernel_rfl
def strV (s : ByteArray) : Value := .string s
theorem slit_add (g j : Nat) : (⟨g, 0, none⟩ : Addr).add j = ⟨g, j, none⟩ := by unfold Addr.add; split <;> simp_all
theorem sown_cell {w : World} {base : Nat} {e : TypeId} {size n n' cap g : Nat} {xs : List Value} (h : w.ownsRow base e size (.slice (some ⟨g, 0, none⟩) n' cap) n xs) {j : Nat} (hj : j < xs.length) : w.cell? ⟨g, j, none⟩ = some xs[j] := by
 have := h.cells (g := g) rfl j _ (List.getElem?_eq_getElem hj)
 rwa [slit_add] at this
theorem RS.of_own {w : World} {base : Nat} {v : Value} {ss : List ByteArray} (h : w.ownsRow base 9 1 v ss.length (ss.map strV)) : RS w w.heap.size v ss := by
 have hlt := h.lt
 have hcs := @World.ownsRow.cells _ _ _ _ _ _ _ h
 rcases h.2 with ⟨rfl, hn⟩ | ⟨g, cap, cur, rfl, hb, hg, _⟩
 ·exact ⟨none, 0, by rw [hn], fun h0 => by omega⟩
 ·exact ⟨_, cap, rfl, fun _ => ⟨_, rfl, (hlt g rfl).2, fun j hj => hcs rfl j _ (by simp [hj, strV])⟩⟩
end Go.Proofs.YtmggoiabcboaiaaGreat
namespace Go.Proofs.YtmggoiabcboaiaaGreat
open Go.ChangeShapes Go.WideShapes Go.ChangeAt Go.RowKit
def BK (W : World) (g : Nat) (cs : Array Value) (t : TypeId) : Prop := W.heap[g]? = some (.cells cs t (0, 0))
section
variable {W W' : World} {g : Nat} {cs : Array Value} {t : TypeId}
theorem BK.lt (h : BK W g cs t) : g < W.heap.size := (Array.getElem?_eq_some_iff.1 h).1
theorem BK.cell (h : BK W g cs t) {i : Nat} {v : Value} (hv : cs[i]? = some v) : W.cell? ⟨g, i, none⟩ = some v := by rw [cell_of_row W g i cs t _ h]; exact hv
theorem BK.free (h : BK W g cs t) (i : Nat) : W.frozen? ⟨g, i, none⟩ = false := by
 unfold BK at h
 simp [World.frozen?, h]
theorem BK.grown {row : Option Nat} (h : BK W g cs t) (hg : W.grownBy W' row) (hr : row ≠ some g) : BK W' g cs t := (hg.block g h.lt (fun e => hr e.symm)).trans h
theorem BK.below {B : Nat} (h : BK W g cs t) (hb : Below B W W') (hB : g < B) : BK W' g cs t := (hb.block g hB).trans h
theorem BK.from (h : BK W g cs t) (hb : Below W.heap.size W W') : BK W' g cs t := h.below hb h.lt
theorem BK.alloc (h : BK W g cs t) (o : Obj) : BK (W.alloc o) g cs t := (Below.heap_alloc W o g h.lt).trans h
theorem BK.drew (h : BK W g cs t) : BK W.drew g cs t := h
theorem BK.new (W : World) (cs : Array Value) (t : TypeId) : BK (W.alloc (.cells cs t)) W.heap.size cs t := heap_alloc_new W _
theorem BK.set (h : BK W g cs t) (i : Nat) (v : Value) : BK (W.setCell ⟨g, i, none⟩ v) g (cs.setIfInBounds i v) t := by
 unfold BK at h ⊢
 rw [setCell_eq_setRow W g i cs t (0, 0) _ h]
 exact setRow_heap W g cs _ t (0, 0) h
theorem BK.far (h : BK W g cs t) {j o : Nat} (hj : j ≠ g) (x : Value) : BK (W.setCell ⟨j, o, none⟩ x) g cs t := by
 unfold BK at h ⊢
 rw [Below.heap_setCell _ _ _ _ (fun e => hj e.symm)]
 exact h
end
end Go.Proofs.YtmggoiabcboaiaaGreat
namespace Go.Proofs.YtmggoiabcboaiaaGreat
open Go.ChangeShapes Go.WideShapes Go.ChangeAt Go.RowKit
abbrev lnV (a b d m : Int) (vm : Value) (nx : Int) (vg : Value) (T : ByteArray) (to : Bool) (H : ByteArray) (ho : Bool) (vt vb : Value) : Value :=
 .agg #[.int .i64 a, .int .i64 b, .int .i64 d, .int .i64 m, vm, .int .i64 nx, vg, .string T, .bool to, .string H, .bool ho, vt, vb]
theorem cells13 {W : World} {g : Nat} {t : TypeId} {a b d m nx : Int} {vm vg vt vb : Value} {T H : ByteArray} {to ho : Bool} (h : BK W g #[.int .i64 a, .int .i64 b, .int .i64 d, .int .i64 m, vm, .int .i64 nx, vg, .string T, .bool to, .string H, .bool ho, vt, vb] t) :
  W.cell? ⟨g, 0, none⟩ = some (.int .i64 a) ∧ W.cell? ⟨g, 1, none⟩ = some (.int .i64 b) ∧ W.cell? ⟨g, 2, none⟩ = some (.int .i64 d) ∧ W.cell? ⟨g, 3, none⟩ = some (.int .i64 m) ∧ W.cell? ⟨g, 4, none⟩ = some (vm) ∧ W.cell? ⟨g, 5, none⟩ = some (.int .i64 nx) ∧ W.cell? ⟨g, 6, none⟩ = some (vg) ∧ W.cell? ⟨g, 7, none⟩ = some (.string T) ∧ W.cell? ⟨g, 8, none⟩ = some (.bool to) ∧ W.cell? ⟨g, 9, none⟩ = some (.string H) ∧ W.cell? ⟨g, 10, none⟩ = some (.bool ho) ∧ W.cell? ⟨g, 11, none⟩ = some (vt) ∧ W.cell? ⟨g, 12, none⟩ = some (vb) :=
 ⟨h.cell rfl, h.cell rfl, h.cell rfl, h.cell rfl, h.cell rfl, h.cell rfl, h.cell rfl, h.cell rfl, h.cell rfl, h.cell rfl, h.cell rfl, h.cell rfl, h.cell rfl⟩
def msgsB (d : Int) (ss : List ByteArray) : Bool := ss.all (fun s => decide ((s.size : Int) < d)) && decide (ss.length ≤ 6)
def lineB (c : Cf) (ms : List ByteArray) (nx : Int) (ng : Nat) (f h : Fd) (nt nb : Nat) : Bool :=
 okF c f && (okF c h && (msgsB c.most ms && (decide (0 ≤ nx ∧ nx ≤ (ms.length : Int)) && (decide (ng ≤ ms.length) && (decide (nt ≤ 5) && decide (nb ≤ 5))))))
theorem all_snoc_s {p : ByteArray → Bool} {ss : List ByteArray} {k : Nat} (h : k < ss.length) : (ss.take (k + 1)).all p = ((ss.take k).all p && p ss[k]) := by
 rw [List.take_succ_eq_append_getElem h, List.all_append]; simp
theorem all_bad {p : ByteArray → Bool} {ss : List ByteArray} {k : Nat} (h : k < ss.length) (hp : p ss[k] = false) : ss.all p = false := by
 rw [List.all_eq_false]
 exact ⟨ss[k], List.getElem_mem h, by rw [hp]; simp⟩
set_option maxRecDepth 100000 in
set_option maxHeartbeats 2000000 in
theorem msgsOk_any (a b d m : Int) (v : Value) (ss : List ByteArray) (w : World) (B : Nat) (h : RS w B v ss) (hB : B ≤ w.heap.size) (hl : ss.length ≤ maxLen) (hz : ∀ s ∈ ss, s.size ≤ maxLen) :
  Calls Tryz.prog 45 #[cfV a b d m, v] w fun e w' => e = .returned (.bool (msgsB d ss)) ∧ Below w.heap.size w w' := by
 unfold maxLen at hl hz
 obtain ⟨A, cap, rfl⟩ := h.shape
 have HR := Lib.hid (h.below ((Below.refl B w).alloc hB (.cells #[.int .i64 a, .int .i64 b, .int .i64 d, .int .i64 m] 24)))
 have HZ := Lib.hid hz
 clear h hz
 go_enter Tryz.func45, Tryz.ntmps45
 go_wp2
 go_loop [9] (fun j => ∃ k : Nat, k ≤ ss.length ∧ j = .int .i64 k ∧ (ss.take k).all (fun s => decide ((s.size : Int) < d)) = true) (fun j => ss.length - (intOf j).toNat)
 case atStart => exact ⟨0, Nat.zero_le _, rfl, rfl⟩
 case round =>
  obtain ⟨k, hk, rfl, hall⟩ := hrel
  have HA := Lib.hid hall
  clear hall
  by_cases hlt : k < ss.length
  ·obtain ⟨x, rfl, _, c0⟩ := HR.out.at_ hlt
   have hsz := HZ.out ss[k] (List.getElem_mem _)
   have HT := Lib.hid (all_snoc_s (p := fun s => decide ((s.size : Int) < d)) hlt)
   have HN := Lib.hid (fun h => all_bad (p := fun s => decide ((s.size : Int) < d)) hlt h)
   generalize ss[k] = t at *
   by_cases hn : (t.size : Int) < d
   ·have HT2 := Lib.hid (show (ss.take (k + 1)).all (fun s => decide ((s.size : Int) < d)) = true by rw [HT.out, HA.out, decide_eq_true hn]; rfl)
    clear HT HN
    go_wp2
    go_round
    case rel => exact ⟨k + 1, by omega, by go_num, HT2.out⟩
    case measure => simp [intOf]; omega
   ·have HE := Lib.hid (show msgsB d ss = false by unfold msgsB; rw [HN.out (decide_eq_false hn)]; rfl)
    go_wp2
    go_ret
    exact ⟨by rw [HE.out]; rfl, (Below.refl _ _).alloc (Nat.le_refl _) _⟩
  ·have HE := Lib.hid (show msgsB d ss = decide (ss.length ≤ 6) by
    have := HA.out
    rw [List.take_of_length_le (by omega)] at this
    unfold msgsB; rw [this]; rfl)
   by_cases h6 : ss.length ≤ 6
   ·go_wp2
    go_ret
    exact ⟨by rw [HE.out, decide_eq_true h6]; simp; omega, (Below.refl _ _).alloc (Nat.le_refl _) _⟩
   ·go_wp2
    go_ret
    exact ⟨by rw [HE.out, decide_eq_false h6]; simp; omega, (Below.refl _ _).alloc (Nat.le_refl _) _⟩
set_option maxRecDepth 100000 in
set_option maxHeartbeats 2000000 in
theorem l8MsgsOk_any (a b d m : Int) (v : Value) (ss : List ByteArray) (w : World) (B : Nat) (h : RS w B v ss) (hB : B ≤ w.heap.size) (hl : ss.length ≤ maxLen) (hz : ∀ s ∈ ss, s.size ≤ maxLen) (hd : 0 ≤ d ∧ d ≤ 40) :
  Calls Tryz.prog 72 #[cfV a b d m, v] w fun e w' => e = .returned (.bool (msgsB d ss)) ∧ Below w.heap.size w w' := by
 unfold maxLen at hl hz
 obtain ⟨A, cap, rfl⟩ := h.shape
 have HR := Lib.hid (h.below ((Below.refl B w).alloc hB (.cells #[.int .i64 a, .int .i64 b, .int .i64 d, .int .i64 m] 24)))
 have HZ := Lib.hid hz
 have hd1 := hd.1
 have hd2 := hd.2
 clear h hz
 go_enter Tryz.func72, Tryz.ntmps72
 go_wp2
 go_loopw [5] (fun j wr => ∃ k : Nat, k ≤ ss.length ∧ j = .int .i64 k ∧ (ss.take k).all (fun s => decide ((s.size : Int) < d)) = true ∧ Below w.heap.size w wr ∧ BK wr w.heap.size #[.int .i64 a, .int .i64 b, .int .i64 d, .int .i64 m] 24 ∧ RS wr B (.slice A ss.length cap) ss) (fun j _ => ss.length - (intOf j).toNat)
 case atStart => exact ⟨0, Nat.zero_le _, rfl, rfl, (Below.refl _ _).alloc (Nat.le_refl _) _, BK.new _ _ _, HR.out⟩
 case round =>
  obtain ⟨k, hk, rfl, hall, hb, hbk, hrs⟩ := hrel
  have HA := Lib.hid hall
  have HB := Lib.hid hb
  have HBK := Lib.hid hbk
  have HRS := Lib.hid hrs
  have c2 := hbk.cell (i := 2) rfl
  clear hall hb hbk hrs
  by_cases hlt : k < ss.length
  ·obtain ⟨x, rfl, _, c0⟩ := HRS.out.at_ hlt
   have hsz := HZ.out ss[k] (List.getElem_mem _)
   have HT := Lib.hid (all_snoc_s (p := fun s => decide ((s.size : Int) < d)) hlt)
   have HN := Lib.hid (fun h => all_bad (p := fun s => decide ((s.size : Int) < d)) hlt h)
   generalize ss[k] = t at *
   have hw1 : IntKind.i64.wrap (d - 1) = d - 1 := by rw [IntKind.wrap_i64]; omega
   by_cases hn : (t.size : Int) < d
   ·have HT2 := Lib.hid (show (ss.take (k + 1)).all (fun s => decide ((s.size : Int) < d)) = true by rw [HT.out, HA.out, decide_eq_true hn]; rfl)
    have hn2 : decide (d - 1 < (t.size : Int)) = false := decide_eq_false (by omega)
    clear HT HN
    go_wp2_with fail
    go_region
    all_goals go_wp2
    all_goals go_roundw
    case rel => exact ⟨k + 1, by omega, by go_num, HT2.out, HB.out.drew, HBK.out.drew, HRS.out.keep fun _ _ => rfl⟩
    case measure => simp [intOf]; omega
   ·have HE := Lib.hid (show msgsB d ss = false by unfold msgsB; rw [HN.out (decide_eq_false hn)]; rfl)
    have hn2 : decide (d - 1 < (t.size : Int)) = true := decide_eq_true (by omega)
    go_wp2_with fail
    go_region
    all_goals go_wp2
    all_goals go_ret
    exact ⟨by rw [HE.out]; rfl, HB.out.drew⟩
  ·have HE := Lib.hid (show msgsB d ss = decide (ss.length ≤ 6) by
    have := HA.out
    rw [List.take_of_length_le (by omega)] at this
    unfold msgsB; rw [this]; rfl)
   by_cases h6 : ss.length ≤ 6
   ·go_wp2
    go_ret
    exact ⟨by rw [HE.out, decide_eq_true h6]; simp; omega, HB.out⟩
   ·go_wp2
    go_ret
    exact ⟨by rw [HE.out, decide_eq_false h6]; simp; omega, HB.out⟩
end Go.Proofs.YtmggoiabcboaiaaGreat
namespace Go.Proofs.YtmggoiabcboaiaaGreat
open Go.ChangeShapes Go.WideShapes Go.ChangeAt Go.RowKit
set_option maxRecDepth 100000 in
set_option maxHeartbeats 4000000 in
theorem implLineOk_any (a b d m nx : Int) (vm : Value) (ms : List ByteArray) (ag at_ ab : Option Addr) (ng cg nt ct nb cb : Nat) (T H : ByteArray) (to ho : Bool) (w : World) (B : Nat) (h : RS w B vm ms) (hB : B ≤ w.heap.size) (wa : (Lit.int .i64 a).wf = true)
  (hT : T.size ≤ maxLen) (hH : H.size ≤ maxLen) (hl : ms.length ≤ maxLen) (hz : ∀ s ∈ ms, s.size ≤ maxLen) :
  Calls Tryz.prog 13 #[lnV a b d m vm nx (.slice ag ng cg) T to H ho (.slice at_ nt ct) (.slice ab nb cb)] w fun e w' => e = .returned (.bool (lineB ⟨a, b, d, m⟩ ms nx ng ⟨T.data.toList, to⟩ ⟨H.data.toList, ho⟩ nt nb)) ∧ Below w.heap.size w w' := by
 obtain ⟨A, cap, rfl⟩ := h.shape
 have HB := Lib.hid ((Below.refl _ w).alloc (Nat.le_refl _) (.cells #[.int .i64 a, .int .i64 b, .int .i64 d, .int .i64 m, .slice A ms.length cap, .int .i64 nx, .slice ag ng cg, .string T, .bool to, .string H, .bool ho, .slice at_ nt ct, .slice ab nb cb] 32))
 have hk := BK.new w #[.int .i64 a, .int .i64 b, .int .i64 d, .int .i64 m, .slice A ms.length cap, .int .i64 nx, .slice ag ng cg, .string T, .bool to, .string H, .bool ho, .slice at_ nt ct, .slice ab nb cb] 32
 obtain ⟨c0, c1, c2, c3, c4, c5, c6, c7, c8, c9, c10, c11, c12⟩ := cells13 hk
 have HRM := Lib.hid (h.below ((Below.refl B w).alloc hB (.cells #[.int .i64 a, .int .i64 b, .int .i64 d, .int .i64 m, .slice A ms.length cap, .int .i64 nx, .slice ag ng cg, .string T, .bool to, .string H, .bool ho, .slice at_ nt ct, .slice ab nb cb] 32)))
 have HBW := Lib.hid (show B ≤ (w.alloc (.cells #[.int .i64 a, .int .i64 b, .int .i64 d, .int .i64 m, .slice A ms.length cap, .int .i64 nx, .slice ag ng cg, .string T, .bool to, .string H, .bool ho, .slice at_ nt ct, .slice ab nb cb] 32)).heap.size by simp; omega)
 have HK := Lib.hid hk
 have HZ := Lib.hid hz
 clear h hk hz
 have hlm : ms.length ≤ 9223372036854775807 := by unfold maxLen at hl; omega
 go_enter Tryz.func13, Tryz.ntmps13
 go_wp2_with fail
 refine (implFindOkD_any a b d m T to _ wa hT).mono ?_
 rintro e x1 ⟨rfl, hbx⟩
 have hk := HK.out.from hbx
 obtain ⟨c0, c1, c2, c3, c4, c5, c6, c7, c8, c9, c10, c11, c12⟩ := cells13 hk
 have HRM := Lib.hid (HRM.out.below (hbx.mono HBW.out))
 have HBW := Lib.hid (Nat.le_trans HBW.out hbx.size)
 have HB := Lib.hid (HB.out.trans (hbx.mono HB.out.size))
 have HK := Lib.hid hk
 clear hk hbx
 cases hF : okF ⟨a, b, d, m⟩ ⟨T.data.toList, to⟩ with
 | false =>
  have HE := Lib.hid (show lineB ⟨a, b, d, m⟩ ms nx ng ⟨T.data.toList, to⟩ ⟨H.data.toList, ho⟩ nt nb = false by simp [lineB, hF])
  go_wp2
  go_ret
  exact ⟨by rw [HE.out]; rfl, HB.out⟩
 | true =>
  have HF := Lib.hid hF
  clear hF
  go_wp2_with fail
  refine (implFindOkD_any a b d m H ho _ wa hH).mono ?_
  rintro e x2 ⟨rfl, hbx⟩
  have hk := HK.out.from hbx
  obtain ⟨c0, c1, c2, c3, c4, c5, c6, c7, c8, c9, c10, c11, c12⟩ := cells13 hk
  have HRM := Lib.hid (HRM.out.below (hbx.mono HBW.out))
  have HBW := Lib.hid (Nat.le_trans HBW.out hbx.size)
  have HB := Lib.hid (HB.out.trans (hbx.mono HB.out.size))
  have HK := Lib.hid hk
  clear hk hbx
  cases hF : okF ⟨a, b, d, m⟩ ⟨H.data.toList, ho⟩ with
  | false =>
   have HE := Lib.hid (show lineB ⟨a, b, d, m⟩ ms nx ng ⟨T.data.toList, to⟩ ⟨H.data.toList, ho⟩ nt nb = false by simp [lineB, hF])
   go_wp2
   go_ret
   exact ⟨by rw [HE.out]; rfl, HB.out⟩
  | true =>
   have HH := Lib.hid hF
   clear hF
   go_wp2_with fail
   refine (msgsOk_any a b d m _ ms _ B HRM.out HBW.out hl HZ.out).mono ?_
   rintro e x3 ⟨rfl, hbx⟩
   have hk := HK.out.from hbx
   obtain ⟨c0, c1, c2, c3, c4, c5, c6, c7, c8, c9, c10, c11, c12⟩ := cells13 hk
   have HRM := Lib.hid (HRM.out.below (hbx.mono HBW.out))
   have HBW := Lib.hid (Nat.le_trans HBW.out hbx.size)
   have HB := Lib.hid (HB.out.trans (hbx.mono HB.out.size))
   have HK := Lib.hid hk
   clear hk hbx
   cases hF : msgsB d ms with
   | false =>
    have HE := Lib.hid (show lineB ⟨a, b, d, m⟩ ms nx ng ⟨T.data.toList, to⟩ ⟨H.data.toList, ho⟩ nt nb = false by simp [lineB, hF])
    go_wp2
    go_ret
    exact ⟨by rw [HE.out]; rfl, HB.out⟩
   | true =>
    have HM := Lib.hid hF
    clear hF
    rcases (show nx < 0 ∨ 0 ≤ nx by omega) with h1 | h1
    ·have HE := Lib.hid (show lineB ⟨a, b, d, m⟩ ms nx ng ⟨T.data.toList, to⟩ ⟨H.data.toList, ho⟩ nt nb = false by simp [lineB]; omega)
     go_wp2
     go_ret
     exact ⟨by rw [HE.out]; rfl, HB.out⟩
    rcases (show (ms.length : Int) < nx ∨ nx ≤ (ms.length : Int) by omega) with h2 | h2
    ·have HE := Lib.hid (show lineB ⟨a, b, d, m⟩ ms nx ng ⟨T.data.toList, to⟩ ⟨H.data.toList, ho⟩ nt nb = false by simp [lineB]; omega)
     go_wp2
     go_ret
     exact ⟨by rw [HE.out]; rfl, HB.out⟩
    rcases Nat.lt_or_ge ms.length ng with h3 | h3
    ·have HE := Lib.hid (show lineB ⟨a, b, d, m⟩ ms nx ng ⟨T.data.toList, to⟩ ⟨H.data.toList, ho⟩ nt nb = false by simp [lineB]; omega)
     go_wp2
     go_ret
     exact ⟨by rw [HE.out]; rfl, HB.out⟩
    rcases Nat.lt_or_ge 5 nt with h4 | h4
    ·have HE := Lib.hid (show lineB ⟨a, b, d, m⟩ ms nx ng ⟨T.data.toList, to⟩ ⟨H.data.toList, ho⟩ nt nb = false by simp [lineB]; omega)
     go_wp2
     go_ret
     exact ⟨by rw [HE.out]; rfl, HB.out⟩
    rcases Nat.lt_or_ge 5 nb with h5 | h5
    ·have hdec : decide ((nb : Int) ≤ 5) = false := decide_eq_false (by omega)
     have HE := Lib.hid (show lineB ⟨a, b, d, m⟩ ms nx ng ⟨T.data.toList, to⟩ ⟨H.data.toList, ho⟩ nt nb = false by simp [lineB]; omega)
     go_wp2
     go_ret
     exact ⟨by rw [HE.out]; rfl, HB.out⟩
    have hdec : decide ((nb : Int) ≤ 5) = true := decide_eq_true (by omega)
    have HE := Lib.hid (show lineB ⟨a, b, d, m⟩ ms nx ng ⟨T.data.toList, to⟩ ⟨H.data.toList, ho⟩ nt nb = true by simp [lineB, HF.out, HH.out, HM.out]; omega)
    go_wp2
    go_ret
    exact ⟨by rw [HE.out]; rfl, HB.out⟩
set_option maxRecDepth 100000 in
set_option maxHeartbeats 4000000 in
theorem l8Ok_any (a b d m nx : Int) (vm : Value) (ms : List ByteArray) (ag at_ ab : Option Addr) (ng cg nt ct nb cb : Nat) (T H : ByteArray) (to ho : Bool) (w : World) (B : Nat) (h : RS w B vm ms) (hB : B ≤ w.heap.size) (_wa : (Lit.int .i64 a).wf = true)
  (hT : T.size ≤ maxLen) (hH : H.size ≤ maxLen) (hl : ms.length ≤ maxLen) (hz : ∀ s ∈ ms, s.size ≤ maxLen) :
  Calls Tryz.prog 50 #[lnV a b d m vm nx (.slice ag ng cg) T to H ho (.slice at_ nt ct) (.slice ab nb cb)] w fun e w' => e = .returned (.bool (lineB ⟨a, b, d, m⟩ ms nx ng ⟨T.data.toList, to⟩ ⟨H.data.toList, ho⟩ nt nb)) ∧ Below w.heap.size w w' := by
 obtain ⟨A, cap, rfl⟩ := h.shape
 have HB := Lib.hid ((Below.refl _ w).alloc (Nat.le_refl _) (.cells #[.int .i64 a, .int .i64 b, .int .i64 d, .int .i64 m, .slice A ms.length cap, .int .i64 nx, .slice ag ng cg, .string T, .bool to, .string H, .bool ho, .slice at_ nt ct, .slice ab nb cb] 32))
 have hk := BK.new w #[.int .i64 a, .int .i64 b, .int .i64 d, .int .i64 m, .slice A ms.length cap, .int .i64 nx, .slice ag ng cg, .string T, .bool to, .string H, .bool ho, .slice at_ nt ct, .slice ab nb cb] 32
 obtain ⟨c0, c1, c2, c3, c4, c5, c6, c7, c8, c9, c10, c11, c12⟩ := cells13 hk
 have HRM := Lib.hid (h.below ((Below.refl B w).alloc hB (.cells #[.int .i64 a, .int .i64 b, .int .i64 d, .int .i64 m, .slice A ms.length cap, .int .i64 nx, .slice ag ng cg, .string T, .bool to, .string H, .bool ho, .slice at_ nt ct, .slice ab nb cb] 32)))
 have HBW := Lib.hid (show B ≤ (w.alloc (.cells #[.int .i64 a, .int .i64 b, .int .i64 d, .int .i64 m, .slice A ms.length cap, .int .i64 nx, .slice ag ng cg, .string T, .bool to, .string H, .bool ho, .slice at_ nt ct, .slice ab nb cb] 32)).heap.size by simp; omega)
 have HK := Lib.hid hk
 have HZ := Lib.hid hz
 clear h hk hz
 have hlm : ms.length ≤ 9223372036854775807 := by unfold maxLen at hl; omega
 go_enter Tryz.func50, Tryz.ntmps50
 go_wp2_with fail
 refine (l7ConfOk_any a b d m _).mono ?_
 rintro e x1 ⟨rfl, hbx⟩
 have hk := HK.out.from hbx
 obtain ⟨c0, c1, c2, c3, c4, c5, c6, c7, c8, c9, c10, c11, c12⟩ := cells13 hk
 have HRM := Lib.hid (HRM.out.below (hbx.mono HBW.out))
 have HBW := Lib.hid (Nat.le_trans HBW.out hbx.size)
 have HB := Lib.hid (HB.out.trans (hbx.mono HB.out.size))
 have HK := Lib.hid hk
 clear hk hbx
 cases hC : confB ⟨a, b, d, m⟩ with
 | false =>
  have HE := Lib.hid (show lineB ⟨a, b, d, m⟩ ms nx ng ⟨T.data.toList, to⟩ ⟨H.data.toList, ho⟩ nt nb = false by simp [lineB, okF, hC])
  go_wp2
  go_ret
  exact ⟨by rw [HE.out]; rfl, HB.out⟩
 | true =>
  have HC := Lib.hid hC
  have hd := (confB_yes hC).2.2.1
  clear hC
  go_wp2_with fail
  refine (l8MsgsOk_any a b d m _ ms _ B HRM.out HBW.out hl HZ.out hd).mono ?_
  rintro e x3 ⟨rfl, hbx⟩
  have hk := HK.out.from hbx
  obtain ⟨c0, c1, c2, c3, c4, c5, c6, c7, c8, c9, c10, c11, c12⟩ := cells13 hk
  have HRM := Lib.hid (HRM.out.below (hbx.mono HBW.out))
  have HBW := Lib.hid (Nat.le_trans HBW.out hbx.size)
  have HB := Lib.hid (HB.out.trans (hbx.mono HB.out.size))
  have HK := Lib.hid hk
  clear hk hbx
  cases hF : msgsB d ms with
  | false =>
   have HE := Lib.hid (show lineB ⟨a, b, d, m⟩ ms nx ng ⟨T.data.toList, to⟩ ⟨H.data.toList, ho⟩ nt nb = false by simp [lineB, hF])
   go_wp2
   go_ret
   exact ⟨by rw [HE.out]; rfl, HB.out⟩
  | true =>
   have HM := Lib.hid hF
   clear hF
   go_wp2_with fail
   refine (l1In_any nx 0 _ _).mono ?_
   rintro e x4 ⟨rfl, hw⟩
   obtain rfl := hw.symm
   rcases Decidable.em (¬ (0 ≤ nx ∧ nx ≤ (ms.length : Int))) with h12 | h12n
   ·have hin : inB nx 0 (ms.length : Int) = false := by simp [inB]; omega
    rw [hin]
    have HE := Lib.hid (show lineB ⟨a, b, d, m⟩ ms nx ng ⟨T.data.toList, to⟩ ⟨H.data.toList, ho⟩ nt nb = false by simp [lineB]; omega)
    go_wp2
    go_ret
    exact ⟨by rw [HE.out]; rfl, HB.out⟩
   have h12 : 0 ≤ nx ∧ nx ≤ (ms.length : Int) := Decidable.not_not.1 h12n
   have hin : inB nx 0 (ms.length : Int) = true := by simp [inB]; omega
   clear h12n
   rw [hin]
   rcases Nat.lt_or_ge ms.length ng with h3 | h3
   ·have HE := Lib.hid (show lineB ⟨a, b, d, m⟩ ms nx ng ⟨T.data.toList, to⟩ ⟨H.data.toList, ho⟩ nt nb = false by simp [lineB]; omega)
    go_wp2
    go_ret
    exact ⟨by rw [HE.out]; rfl, HB.out⟩
   go_wp2_with fail
   refine (l7Ok_any a b d m T to _ hT).mono ?_
   rintro e x5 ⟨rfl, hbx⟩
   have hk := HK.out.from hbx
   obtain ⟨c0, c1, c2, c3, c4, c5, c6, c7, c8, c9, c10, c11, c12⟩ := cells13 hk
   have HRM := Lib.hid (HRM.out.below (hbx.mono HBW.out))
   have HBW := Lib.hid (Nat.le_trans HBW.out hbx.size)
   have HB := Lib.hid (HB.out.trans (hbx.mono HB.out.size))
   have HK := Lib.hid hk
   clear hk hbx
   cases hF : okF ⟨a, b, d, m⟩ ⟨T.data.toList, to⟩ with
   | false =>
    have HE := Lib.hid (show lineB ⟨a, b, d, m⟩ ms nx ng ⟨T.data.toList, to⟩ ⟨H.data.toList, ho⟩ nt nb = false by simp [lineB, hF])
    go_wp2
    go_ret
    exact ⟨by rw [HE.out]; rfl, HB.out⟩
   | true =>
    have HF := Lib.hid hF
    clear hF
    go_wp2_with fail
    refine (l7Ok_any a b d m H ho _ hH).mono ?_
    rintro e x6 ⟨rfl, hbx⟩
    have hk := HK.out.from hbx
    obtain ⟨c0, c1, c2, c3, c4, c5, c6, c7, c8, c9, c10, c11, c12⟩ := cells13 hk
    have HRM := Lib.hid (HRM.out.below (hbx.mono HBW.out))
    have HBW := Lib.hid (Nat.le_trans HBW.out hbx.size)
    have HB := Lib.hid (HB.out.trans (hbx.mono HB.out.size))
    have HK := Lib.hid hk
    clear hk hbx
    cases hF : okF ⟨a, b, d, m⟩ ⟨H.data.toList, ho⟩ with
    | false =>
     have HE := Lib.hid (show lineB ⟨a, b, d, m⟩ ms nx ng ⟨T.data.toList, to⟩ ⟨H.data.toList, ho⟩ nt nb = false by simp [lineB, hF])
     go_wp2
     go_ret
     exact ⟨by rw [HE.out]; rfl, HB.out⟩
    | true =>
     have HH := Lib.hid hF
     clear hF
     rcases Nat.lt_or_ge 5 nt with h4 | h4
     ·have HE := Lib.hid (show lineB ⟨a, b, d, m⟩ ms nx ng ⟨T.data.toList, to⟩ ⟨H.data.toList, ho⟩ nt nb = false by simp [lineB]; omega)
      go_wp2
      go_ret
      exact ⟨by rw [HE.out]; rfl, HB.out⟩
     rcases Nat.lt_or_ge 5 nb with h5 | h5
     ·have hdec : decide ((nb : Int) ≤ 5) = false := decide_eq_false (by omega)
      have HE := Lib.hid (show lineB ⟨a, b, d, m⟩ ms nx ng ⟨T.data.toList, to⟩ ⟨H.data.toList, ho⟩ nt nb = false by simp [lineB]; omega)
      go_wp2
      go_ret
      exact ⟨by rw [HE.out]; rfl, HB.out⟩
     have hdec : decide ((nb : Int) ≤ 5) = true := decide_eq_true (by omega)
     have HE := Lib.hid (show lineB ⟨a, b, d, m⟩ ms nx ng ⟨T.data.toList, to⟩ ⟨H.data.toList, ho⟩ nt nb = true by simp [lineB, HF.out, HH.out, HM.out]; omega)
     go_wp2
     go_ret
     exact ⟨by rw [HE.out]; rfl, HB.out⟩
end Go.Proofs.YtmggoiabcboaiaaGreat
namespace Go.Proofs.YtmggoiabcboaiaaGreat
open Go.ChangeShapes Go.WideShapes Go.ChangeAt Go.RowKit
theorem str_append (a b : ByteArray) : (a ++ b).data.toList = a.data.toList ++ b.data.toList := by simp
theorem OB_one (e : TypeId) (w : World) (base : Nat) (hb : base ≤ w.heap.size) (c : UInt8) (v : Value) (hv : byteV c = v) : OB e (w.alloc (.cells #[v] e)) base (.slice (some ⟨w.heap.size, 0, none⟩) 1 1) [c] :=
 .inr ⟨w.heap.size, 1, _, (0, 0), by simp, hb, heap_alloc_new w _, .inl rfl, by simp, by simp [maxLen], by simp, by simp [hv]⟩
end Go.Proofs.YtmggoiabcboaiaaGreat
