/- Parts of a proof, 29: LnV. -/
import Derived.RegionTactic
import Derived.Laws.Tables
import Derived.Test.YtmggoiabcboaiaaGreatZc1
import Derived.Test.YtmggoiabcboaiaaGreatZc2
import Derived.Test.YtmggoiabcboaiaaGreatZc3
import Derived.Test.YtmggoiabcboaiaaGreatZc4
import Derived.Test.YtmggoiabcboaiaaGreatZc5
import Derived.Test.YtmggoiabcboaiaaGreatZc6
import Derived.Test.YtmggoiabcboaiaaGreatZc7
import Derived.Test.YtmggoiabcboaiaaGreatZc8
import Derived.Test.YtmggoiabcboaiaaGreatZc10
import Derived.Test.YtmggoiabcboaiaaGreatZc11
import Derived.Test.YtmggoiabcboaiaaGreatZc12
namespace Go.Proofs.YtmggoiabcboaiaaGreat
open Go.ChangeShapes Go.WideShapes Go.ChangeAt Go.RowKit
def RZ (w : World) (B : Nat) (v : Value) (zs : List Int) : Prop :=
 ∃ a cap, v = .slice a zs.length cap ∧ zs.length ≤ cap ∧ (0 < zs.length → ∃ x : Addr, a = some x ∧ x.block < B ∧ ∀ j (h : j < zs.length), w.cell? (x.add j) = some (.int .i64 zs[j]))
section
variable {w w' : World} {B B' : Nat} {v : Value} {zs : List Int}
theorem RZ.below (h : RZ w B v zs) (hb : Below B w w') : RZ w' B v zs := by
 obtain ⟨a, cap, hv, hc0, h2⟩ := h
 refine ⟨a, cap, hv, hc0, fun h0 => ?_⟩
 obtain ⟨x, hx, hB, hc⟩ := h2 h0
 exact ⟨x, hx, hB, fun j hj => (hb.cell (p := x.add j) (by rw [add_block]; exact hB)).trans (hc j hj)⟩
theorem RZ.shape (h : RZ w B v zs) : ∃ a cap, v = .slice a zs.length cap := by
 obtain ⟨a, cap, hv, _⟩ := h
 exact ⟨a, cap, hv⟩
theorem RZ.room {a : Option Addr} {cap : Nat} (h : RZ w B (.slice a zs.length cap) zs) : zs.length ≤ cap := by
 obtain ⟨a', cap', hv, h1, _⟩ := h
 injection hv with _ _ h2
 omega
theorem RZ.mono (h : RZ w B v zs) (hB : B ≤ B') : RZ w B' v zs := by
 obtain ⟨a, cap, hv, hc0, h2⟩ := h
 refine ⟨a, cap, hv, hc0, fun h0 => ?_⟩
 obtain ⟨x, hx, hb, hc⟩ := h2 h0
 exact ⟨x, hx, Nat.lt_of_lt_of_le hb hB, hc⟩
theorem RZ.at_ {a : Option Addr} {cap : Nat} (h : RZ w B (.slice a zs.length cap) zs) {k : Nat} (hk : k < zs.length) : ∃ x : Addr, a = some x ∧ x.block < B ∧ w.cell? (x.add k) = some (.int .i64 zs[k]) := by
 obtain ⟨a', cap', hv, _, h2⟩ := h
 injection hv with h1 _ _
 subst h1
 obtain ⟨x, hx, hB, hc⟩ := h2 (by omega)
 exact ⟨x, hx, hB, hc k hk⟩
end
theorem RZ.of_arg {w : World} {a : Option Addr} {len cap : Nat} {zs : List Int} (h : IsRow .i64 w a len cap zs) : RZ w w.heap.size (.slice a len cap) (zs.take len) ∧ (zs.take len).length = len ∧ len ≤ maxLen := by
 rcases h with ⟨rfl, rfl, rfl, rfl⟩ | ⟨x, rfl, h1, h2, h3, h5, -⟩
 ·exact ⟨⟨none, 0, rfl, Nat.le_refl _, fun h => by simp at h⟩, rfl, Nat.zero_le _⟩
 ·have hl : (zs.take len).length = len := by rw [List.length_take]; omega
  refine ⟨⟨some x, cap, by rw [hl], by rw [hl]; exact h1, fun h0 => ⟨x, rfl, by have hc := h5 0 (by rw [hl] at h0; omega); have := block_lt_of_cell hc; rwa [add_block] at this, fun j hj => ?_⟩⟩, hl, by omega⟩
  have hj2 : j < zs.length := by rw [hl] at hj; omega
  have h6 := h5 j hj2
  rw [List.getElem_take]
  simpa [List.getD, hj2] using h6
def zzV (b : Int) : Value := .int .i64 b
def OZ (w : World) (base : Nat) (v : Value) (zs : List Int) : Prop := w.ownsRow base 3 1 v zs.length (zs.map zzV)
theorem OZ.reads {w : World} {base : Nat} {v : Value} {zs : List Int} (h : OZ w base v zs) : RZ w w.heap.size v zs := by
 rcases h.2 with ⟨rfl, h0⟩ | ⟨g, cap, cur, rfl, _, hg, hcap, _, _, htake⟩
 ·rw [List.eq_nil_of_length_eq_zero h0]; exact ⟨none, 0, rfl, Nat.le_refl _, fun h => by simp at h⟩
 ·refine ⟨_, cap, rfl, hcap, fun _ => ⟨⟨g, 0, none⟩, rfl, (Array.getElem?_eq_some_iff.1 hg).1, fun j hj => ?_⟩⟩
  rw [slit_add, cell_of_row w g j cur _ _ hg]
  have h5 : (cur.toList.take (zs.length * 1))[j]? = some (zzV zs[j]) := by rw [htake]; simp [hj]
  rw [List.getElem?_take] at h5
  split at h5
  ·simpa [zzV] using h5
  ·cases h5
theorem OZ.low {w : World} {base : Nat} {v : Value} {zs : List Int} (h : OZ w base v zs) : ∀ k, v.ownBlock = some k → base ≤ k ∧ k < w.heap.size := World.ownsRow.lt h
theorem OZ.kept {w w' : World} {base : Nat} {v : Value} {zs : List Int} {row : Option Nat} (h : OZ w base v zs) (hg : w.grownBy w' row) (hne : v.ownBlock = none ∨ v.ownBlock ≠ row) : OZ w' base v zs := World.ownsRow.kept h hg hne
theorem OZ.below {w w' : World} {base : Nat} {v : Value} {zs : List Int} (h : OZ w base v zs) (hb : Below w.heap.size w w') : OZ w' base v zs := own_below h hb
theorem info_int : (Tryz.prog.info? 3).map (fun i => (i.zero, i.size, i.bytes)) = some (some (.int .i64 0), 1, 8) := by kernel_rfl
def partZ (zs : List Int) (k : Nat) : List Value := (zs.take k).map zzV ++ List.replicate (zs.length - k) (.int .i64 0)
theorem partZ_len (zs : List Int) (k : Nat) (h : k ≤ zs.length) : (partZ zs k).length = zs.length := by simp [partZ]; omega
theorem partZ_set (zs : List Int) (k : Nat) (h : k < zs.length) : (partZ zs k).set k (.int .i64 zs[k]) = partZ zs (k + 1) := by
 unfold partZ
 rw [List.set_append_right _ _ (by rw [List.length_map, List.length_take]; omega), List.length_map, List.length_take, Nat.min_eq_left (by omega), Nat.sub_self, show zs.length - k = (zs.length - (k + 1)) + 1 by omega, List.replicate_succ, List.set_cons_zero,
  List.take_succ_eq_append_getElem h, List.map_append, List.append_assoc]
 rfl
def ToZPost (w : World) (zs : List Int) (e : Ending) (w' : World) : Prop := (∃ v, e = .returned v ∧ OZ w' w.heap.size v zs) ∧ Below w.heap.size w w'
set_option maxRecDepth 100000 in
set_option maxHeartbeats 2000000 in
theorem toInts_any (v : Value) (zs : List Int) (w : World) (B : Nat) (h : RZ w B v zs) (hB : B ≤ w.heap.size) (hl : zs.length ≤ 1048576) :
  Calls Tryz.prog 24 #[v] w (ToZPost w zs) := by
 obtain ⟨i0, hi, hz0, hz1, hz2⟩ := info_parts info_int
 have hmk : ∀ u : World, (Instr.makeSlice 26 (.int .i64 (zs.length : Int)) (.int .i64 (zs.length : Int))).run Tryz.prog u = .ok (.slice (some ⟨u.heap.size, 0, none⟩) zs.length zs.length) (u.alloc (.cells (madeCells #[.int .i64 0] zs.length) 3)) := fun u => by
  have h := run_make (P := Tryz.prog) u 26 3 i0 (.int .i64 0) Tryz.underlying26 hi hz0 .i64 .i64 (zs.length : Int) (zs.length : Int) (by omega) (Int.le_refl _) (by rw [hz2]; omega) (by omega)
  have e : ((zs.length : Int)).toNat = zs.length := by omega
  rw [e] at h
  simpa [hz1, Value.cells] using h
 obtain ⟨a, cap, rfl⟩ := h.shape
 have H := Lib.hid h
 clear h hi hz0 hz1 hz2
 go_enter Tryz.func24, Tryz.ntmps24
 go_wp2
 clear hmk
 go_loopw [4] (fun j wr => ∃ k : Nat, k ≤ zs.length ∧ j = .int .i64 k ∧ wr.ownsRow w.heap.size 3 1 (.slice (some ⟨w.heap.size, 0, none⟩) zs.length zs.length) zs.length (partZ zs k) ∧ Below w.heap.size w wr) (fun j _ => zs.length - (intOf j).toNat)
 case atStart => exact ⟨0, Nat.zero_le _, rfl, ⟨by simp [partZ], .inr ⟨w.heap.size, zs.length, _, rfl, Nat.le_refl _, heap_alloc_new w _, Nat.le_refl _, by unfold maxLen; omega, by rw [madeCells_size]; omega, by rw [madeCells_list]; simp [partZ]⟩⟩, (Below.refl _ _).alloc (Nat.le_refl _) _⟩
 case round =>
  obtain ⟨k, hk, rfl, hown, hb⟩ := hrel
  have HB := Lib.hid hb
  have HO := Lib.hid hown
  by_cases hlt : k < zs.length
  ·obtain ⟨x, rfl, hxB, c0⟩ := (H.out.below (hb.mono hB)).at_ hlt
   have f0 := sown_free hown k
   have d0 := sown_cell hown (j := k) (by rw [partZ_len _ _ hk]; exact hlt)
   have HS := Lib.hid (partZ_set zs k hlt)
   generalize (partZ zs k)[k]'(by rw [partZ_len _ _ hk]; exact hlt) = u at *
   generalize zs[k] = t at *
   clear hown hb
   go_wp2
   go_roundw
   case rel => exact ⟨k + 1, by omega, by go_num, by rw [← HS.out]; exact sown_stored HO.out k _, HB.out.setCell (by simp) _⟩
   case measure => simp [intOf]; omega
  ·obtain rfl : k = zs.length := by omega
   clear hown hb
   go_wp2
   go_ret
   refine ⟨⟨_, rfl, ?_⟩, HB.out⟩
   have := HO.out
   rw [partZ, List.take_length, Nat.sub_self, List.replicate_zero, List.append_nil] at this
   exact this
set_option maxRecDepth 100000 in
set_option maxHeartbeats 2000000 in
theorem eqInts_same (v v' : Value) (zs : List Int) (w : World) (B B' : Nat) (h : RZ w B v zs) (h' : RZ w B' v' zs) (hB : B ≤ w.heap.size) (hB' : B' ≤ w.heap.size) (hl : zs.length ≤ 1048576) :
  Calls Tryz.prog 27 #[v, v'] w fun e w' => e = .returned (.bool true) ∧ Below w.heap.size w w' := by
 obtain ⟨a, cap, rfl⟩ := h.shape
 obtain ⟨a', cap', rfl⟩ := h'.shape
 have H := Lib.hid h
 have H' := Lib.hid h'
 clear h h'
 go_enter Tryz.func27, Tryz.ntmps27
 go_wp2
 go_loopw [5] (fun j wr => ∃ k : Nat, k ≤ zs.length ∧ j = .int .i64 k ∧ Below w.heap.size w wr) (fun j _ => zs.length - (intOf j).toNat)
 case atStart => exact ⟨0, Nat.zero_le _, rfl, Below.refl _ _⟩
 case round =>
  obtain ⟨k, hk, rfl, hb⟩ := hrel
  have HB := Lib.hid hb
  by_cases hlt : k < zs.length
  ·obtain ⟨x, rfl, hxB, c0⟩ := (H.out.below (hb.mono hB)).at_ hlt
   obtain ⟨x', rfl, hxB', c0'⟩ := (H'.out.below (hb.mono hB')).at_ hlt
   generalize zs[k] = t at *
   clear hb
   go_wp2
   go_region
   all_goals go_wp2
   all_goals go_roundw
   case rel => exact ⟨k + 1, by omega, by go_num, HB.out.drew⟩
   case measure => simp [intOf]; omega
  ·clear hb
   go_wp2
   go_ret
   exact ⟨rfl, HB.out⟩
def MarkZPost (w : World) (v : Value) (k0 n : Nat) (e : Ending) (w' : World) : Prop := e = .returned (.int .i64 ((k0 + n : Nat) : Int)) ∧ w.grownBy w' v.ownBlock
theorem OZ.stored {w : World} {base g n cap : Nat} {zs : List Int} (h : OZ w base (.slice (some ⟨g, 0, none⟩) n cap) zs) (k : Nat) (b : Int) : OZ (w.setCell ⟨g, k, none⟩ (.int .i64 b)) base (.slice (some ⟨g, 0, none⟩) n cap) (zs.set k b) := by
 unfold OZ at h ⊢
 rw [List.length_set, List.map_set]
 exact sown_stored h k (.int .i64 b)
set_option maxRecDepth 100000 in
set_option maxHeartbeats 2000000 in
theorem markInts_any (v : Value) (zs : List Int) (k0 : Nat) (w : World) (base : Nat) (h : OZ w base v zs) (hl : k0 + zs.length ≤ 100000000) :
  Calls Tryz.prog 29 #[v, .int .i64 k0] w (MarkZPost w v k0 zs.length) := by
 obtain ⟨a, cap, hv⟩ := h.reads.shape
 subst hv
 have H := Lib.hid h
 clear h
 go_enter Tryz.func29, Tryz.ntmps29
 go_wp2
 go_loopw [1, 5] (fun q j wr => ∃ (k : Nat) (cs : List Int), k ≤ zs.length ∧ cs.length = zs.length ∧ j = .int .i64 k ∧ q = .int .i64 ((k0 + k : Nat) : Int) ∧ OZ wr base (.slice a zs.length cap) cs ∧ w.grownBy wr (Value.slice a zs.length cap).ownBlock) (fun _ j _ => zs.length - (intOf j).toNat)
 case atStart => exact ⟨0, zs, Nat.zero_le _, rfl, rfl, rfl, H.out, ⟨rfl, rfl, rfl, Nat.le_refl _, fun _ _ _ => rfl⟩⟩
 case round =>
  obtain ⟨k, cs, hk, hcl, rfl, rfl, hoe, hg⟩ := hrel
  have HG := Lib.hid hg
  have HCL := Lib.hid hcl
  by_cases hlt : k < zs.length
  ·obtain ⟨x, hx, -, -⟩ := RZ.at_ (zs := cs) (a := a) (cap := cap) (by have := hoe.reads; rwa [← hcl] at this) (k := k) (by omega)
   subst hx
   rcases hoe.2 with ⟨h1, -⟩ | ⟨g, cp, cur, h1, -⟩
   ·cases h1
   injection h1 with h1 _ _
   injection h1 with h1
   subst h1
   have d1 := sown_cell hoe (j := k) (by rw [List.length_map]; omega)
   have e1 := sown_free hoe k
   have HOE := Lib.hid hoe
   have HG4 := Lib.hid (fun u => grown_set HG.out (g := g) rfl k u)
   generalize (cs.map zzV)[k]'(by rw [List.length_map]; omega) = old at *
   obtain ⟨q, hq⟩ : ∃ q, q = k0 + k := ⟨_, rfl⟩
   have HQ := Lib.hid hq
   rw [← hq]
   have hqb : q ≤ 100000000 := by omega
   clear hoe hg hcl hq
   go_wp2
   go_roundw
   case rel => exact ⟨k + 1, _, by omega, by rw [List.length_set]; exact HCL.out, by go_num, val_int (by have := HQ.out; omega), HOE.out.stored k _, HG4.out _⟩
   case measure => simp [intOf]; omega
  ·obtain rfl : k = zs.length := by omega
   clear hoe hg
   go_wp2
   go_ret
   exact ⟨rfl, HG.out⟩
end Go.Proofs.YtmggoiabcboaiaaGreat
