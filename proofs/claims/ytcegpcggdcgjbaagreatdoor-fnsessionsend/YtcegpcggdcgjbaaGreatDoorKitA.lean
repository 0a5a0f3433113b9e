/- Common to all laws of the seat: what a walk is told of a slice of integers that came in. -/
import Derived.Test.YtcegpcggdcgjbaaGreatDoorRows
import Derived.WalkKit
import Derived.ProofKit
import Derived.OpenShut
import Derived.ShutString
import Derived.ChangeOld
import Derived.Below
import Derived.IntWalk
import Derived.Lib.Hide
import Derived.Lib.FrozenHead2
import Derived.Laws.IdiomStrings
import Derived.Laws.Rows
import Derived.Laws.CopyRow
import Derived.Laws.BitsAllLaws
import Derived.Laws.BitsLemmas
import Derived.Lib.UnsafeStr
import Derived.Laws.MakeOwn
import Derived.Lib.Builder
import Derived.RegionTactic
namespace Go.Proofs.YtcegpcggdcgjbaaGreatDoor
open Go.ChangeShapes Go.WideShapes Go.ChangeAt Go.RowKit
/-- a slice of integers that came in: nil, or a row of 'cap' cells that hold 'zs' -/
def IsRow (k : IntKind) (w : World) (a : Option Addr) (len cap : Nat) (zs : List Int) : Prop :=
  (a = none ∧ len = 0 ∧ cap = 0 ∧ zs = []) ∨
  ∃ x, a = some x ∧ len ≤ cap ∧ cap ≤ maxLen ∧ zs.length = cap ∧ (∀ i, i < zs.length → w.cell? (x.add i) = some (.int k (zs.getD i 0))) ∧ ∀ n ∈ zs, (Lit.int k n).wf = true
end Go.Proofs.YtcegpcggdcgjbaaGreatDoor
/- A slice of bytes of the call's own, whatever mark lies behind its row ('[]byte(s)' lays one): append, conversion from and to a string. -/
namespace Go.Proofs.YtcegpcggdcgjbaaGreatDoor
open Go.ChangeShapes Go.WideShapes Go.ChangeAt Go.RowKit

theorem below_setRow {B : Nat} {a w : World} (h : Below B a w) {g : Nat} (hg : B ≤ g) (cs : Array Value) : Below B a (w.setRow g cs) :=
  ⟨h.os, h.tape, h.output, by simpa using h.size, fun k hk => (setRow_other w g k cs (by omega)).trans (h.block k hk)⟩
theorem bits_xor_i64_nat (a b : Nat) (ha : a < 9223372036854775808) (hb : b < 9223372036854775808) :
    bits .xor .i64 (a : Int) (b : Int) = ((a ^^^ b : Nat) : Int) := by
  have hx : a ^^^ b < 2 ^ 63 := Nat.xor_lt_two_pow (by omega) (by omega)
  have h1 : (BitVec.ofInt 64 (a : Int)).toNat = a := by
    rw [BitVec.ofInt_natCast, BitVec.toNat_ofNat]; exact Nat.mod_eq_of_lt (by omega)
  have h2 : (BitVec.ofInt 64 (b : Int)).toNat = b := by
    rw [BitVec.ofInt_natCast, BitVec.toNat_ofNat]; exact Nat.mod_eq_of_lt (by omega)
  show IntKind.i64.wrap ((BitVec.ofInt 64 (a : Int) ^^^ BitVec.ofInt 64 (b : Int)).toNat : Int) = _
  rw [BitVec.toNat_xor, h1, h2, IntKind.wrap_i64]
  omega
theorem ret_int {k : IntKind} {a b : Int} (h : a = b) : Ending.returned (.int k a) = .returned (.int k b) := by rw [h]
theorem val_int {k : IntKind} {a b : Int} (h : a = b) : Value.int k a = .int k b := by rw [h]
def byteV (b : UInt8) : Value := .int .u8 b.toNat
/-- the slice value v owns the bytes l: nil and none, or the head of a row of its own none of whose cells is frozen -/
def OB (e : TypeId) (w : World) (base : Nat) (v : Value) (l : List UInt8) : Prop :=
  (v = .slice none 0 0 ∧ l = []) ∨
  ∃ g cap cur fz, v = .slice (some ⟨g, 0, none⟩) l.length cap ∧ base ≤ g ∧ w.heap[g]? = some (.cells cur e fz) ∧ (fz.2 = 0 ∨ cur.size ≤ fz.1) ∧ l.length ≤ cap ∧ cap ≤ maxLen ∧ cur.size = cap ∧ cur.toList.take l.length = l.map byteV

section
variable {e : TypeId} {w : World} {base : Nat} {v : Value} {l : List UInt8}
theorem OB.nil (e : TypeId) (w : World) (base : Nat) : OB e w base (.slice none 0 0) [] := .inl ⟨rfl, rfl⟩
theorem OB.len_le (h : OB e w base v l) : l.length ≤ maxLen := by
  rcases h with ⟨_, rfl⟩ | ⟨g, cap, cur, fz, _, _, _, _, h1, h2, _, _⟩
  · simp [maxLen]
  · omega
theorem OB.lt (h : OB e w base v l) : ∀ k, v.ownBlock = some k → base ≤ k ∧ k < w.heap.size := by
  intro k hk
  rcases h with ⟨rfl, _⟩ | ⟨g, cap, cur, fz, rfl, hb, hg, _⟩
  · simp [Value.ownBlock] at hk
  · simp [Value.ownBlock] at hk
    subst hk
    exact ⟨hb, (Array.getElem?_eq_some_iff.1 hg).1⟩
theorem OB.kept {w' : World} {row : Option Nat} (h : OB e w base v l) (hg : w.grownBy w' row) (hne : v.ownBlock = none ∨ v.ownBlock ≠ row) : OB e w' base v l := by
  rcases h with hn | ⟨g, cap, cur, fz, rfl, hb, hgg, rest⟩
  · exact .inl hn
  · refine .inr ⟨g, cap, cur, fz, rfl, hb, ?_, rest⟩
    rw [hg.block g (Array.getElem?_eq_some_iff.1 hgg).1 (by simpa [Value.ownBlock] using hne)]
    exact hgg
theorem OB.alloc (h : OB e w base v l) (o : Obj) : OB e (w.alloc o) base v l :=
  h.kept (World.grownBy_alloc w o none) (by cases hv : v.ownBlock <;> simp)
theorem OB.drew (h : OB e w base v l) : OB e w.drew base v l := h
theorem OB.below {w' : World} {B : Nat} (h : OB e w base v l) (hb : Below B w w') (hB : w.heap.size ≤ B) : OB e w' base v l := by
  rcases h with hn | ⟨g, cap, cur, fz, rfl, hb', hgg, rest⟩
  · exact .inl hn
  · refine .inr ⟨g, cap, cur, fz, rfl, hb', ?_, rest⟩
    rw [hb.block g (Nat.lt_of_lt_of_le (Array.getElem?_eq_some_iff.1 hgg).1 hB)]
    exact hgg
theorem OB.mono {base' : Nat} (h : OB e w base v l) (hb : base' ≤ base) : OB e w base' v l :=
  h.imp id fun ⟨g, cap, cur, fz, h1, h2, h3⟩ => ⟨g, cap, cur, fz, h1, Nat.le_trans hb h2, h3⟩
theorem OB.shape (h : OB e w base v l) : ∃ a cap, v = .slice a l.length cap ∧ l.length ≤ cap := by
  rcases h with ⟨rfl, rfl⟩ | ⟨g, cap, cur, fz, rfl, _, _, _, h1, _⟩
  · exact ⟨none, 0, rfl, by simp⟩
  · exact ⟨_, cap, rfl, h1⟩
theorem OB.cells (h : OB e w base v l) {g : Nat} (hg : v.ownBlock = some g) : ∀ j u, (l.map byteV)[j]? = some u → w.cell? ((⟨g, 0, none⟩ : Addr).add j) = some u := by
  intro j u hu
  rcases h with ⟨rfl, _⟩ | ⟨g', cap, cur, fz, rfl, _, hgg, _, _, _, _, htake⟩
  · simp [Value.ownBlock] at hg
  · simp [Value.ownBlock] at hg
    subst hg
    have hadd : (⟨g', 0, none⟩ : Addr).add j = ⟨g', j, none⟩ := by unfold Addr.add; split <;> simp_all
    rw [hadd, cell_of_row w g' j cur e fz hgg]
    rw [← htake, List.getElem?_take] at hu
    split at hu
    · simpa using hu
    · cases hu
end

section
variable {e : TypeId} {w : World} {base : Nat} {v : Value} {l : List UInt8}
theorem OB.pos (h : OB e w base v l) (hl : 0 < l.length) : ∃ g cap, v = .slice (some ⟨g, 0, none⟩) l.length cap ∧ l.length ≤ cap ∧ cap ≤ maxLen ∧ base ≤ g ∧ g < w.heap.size := by
  rcases h with ⟨_, rfl⟩ | ⟨g, cap, cur, fz, rfl, hb, hg, _, h1, h2, _⟩
  · simp at hl
  · exact ⟨g, cap, rfl, h1, h2, hb, (Array.getElem?_eq_some_iff.1 hg).1⟩
theorem OB.cellAt {g n cap : Nat} (h : OB e w base (.slice (some ⟨g, 0, none⟩) n cap) l) {k : Nat} (hk : k < l.length) : w.cell? ⟨g, k, none⟩ = some (byteV l[k]) := by
  have := h.cells (g := g) rfl k (byteV l[k]) (by simp [hk])
  have hadd : (⟨g, 0, none⟩ : Addr).add k = ⟨g, k, none⟩ := by unfold Addr.add; split <;> simp_all
  rwa [hadd] at this
theorem OB.frozenAt {g n cap : Nat} (h : OB e w base (.slice (some ⟨g, 0, none⟩) n cap) l) {k : Nat} (hk : k < l.length) : w.frozen? ⟨g, k, none⟩ = false := by
  rcases h with ⟨hv, _⟩ | ⟨g', cap', cur, fz, hv, hb, hg, hfz, h1, h2, h3, _⟩
  · simp at hv
  · have : g = g' := by injection hv with h; injection h with h; injection h
    subst this
    obtain ⟨lo, hi⟩ := fz
    simp only [World.frozen?, hg, Bool.and_eq_false_iff, decide_eq_false_iff_not]
    simp only at hfz
    omega
theorem OB.stored {g n cap : Nat} (h : OB e w base (.slice (some ⟨g, 0, none⟩) n cap) l) (k : Nat) (b : UInt8) : OB e (w.setCell ⟨g, k, none⟩ (byteV b)) base (.slice (some ⟨g, 0, none⟩) n cap) (l.set k b) := by
  rcases h with ⟨hv, _⟩ | ⟨g', cap', cur, fz, hv, hb, hg, hfz, h1, h2, h3, h4⟩
  · simp at hv
  · have : g = g' := by injection hv with h; injection h with h; injection h
    subst this
    rw [setCell_eq_setRow w g k cur e fz _ hg]
    refine .inr ⟨g, cap', _, fz, by rw [hv]; simp, hb, setRow_heap w g cur _ e fz hg, by simpa using hfz, by simpa using h1, h2, by simpa using h3, ?_⟩
    rw [Array.toList_setIfInBounds, List.length_set, List.take_set, h4, List.map_set]
end

theorem storeCells_free (P : Program) (g o : Nat) (t : TypeId) (fz : Nat × Nat) : ∀ (vs : List Value) (i : Nat) (cur : Array Value) (w : World), w.heap[g]? = some (.cells cur t fz) → (fz.2 = 0 ∨ cur.size ≤ fz.1) → o + i + vs.length ≤ cur.size → (∀ v ∈ vs, v.oneCell' = true) →
    (storeCells ⟨g, o, none⟩ vs i).run P w = .ok () (w.setRow g (cur.toList.take (o + i) ++ vs ++ cur.toList.drop (o + i + vs.length)).toArray)
  | [], i, cur, w, hg, _, _, _ => by
    simp only [storeCells, List.append_nil, List.length_nil, Nat.add_zero, List.take_append_drop, Array.toArray_toList]
    rw [setRow_self w g cur t fz hg]
    rfl
  | v :: rest, i, cur, w, hg, hfz, hl, h1 => by
    have hi : o + i < cur.size := by simp at hl; omega
    have hadd : (⟨g, o, none⟩ : Addr).add i = ⟨g, o + i, none⟩ := by unfold Addr.add; split <;> simp_all
    have hcell : w.cell? ⟨g, o + i, none⟩ = some cur[o + i] := by simp [World.cell?, hg, hi]
    have hfro : w.frozen? ⟨g, o + i, none⟩ = false := by
      obtain ⟨lo, hi'⟩ := fz
      simp only [World.frozen?, hg, Bool.and_eq_false_iff, decide_eq_false_iff_not]
      simp only at hfz
      omega
    have hst : (store ((⟨g, o, none⟩ : Addr).add i) v).run P w = .ok () (w.setRow g (cur.setIfInBounds (o + i) v)) := by
      rw [hadd, run_store P w _ v _ (h1 v (by simp)), hcell]
      simp [hfro, setCell_eq_setRow w g (o + i) cur t fz v hg]
    have ih := storeCells_free P g o t fz rest (i + 1) (cur.setIfInBounds (o + i) v) (w.setRow g (cur.setIfInBounds (o + i) v)) (setRow_heap w g cur _ t _ hg) (by simpa using hfz) (by simp at hl ⊢; omega) (fun x hx => h1 x (by simp [hx]))
    simp only [storeCells, Sem.run_bind, hst, Result.andThen_ok, ih, setRow_setRow]
    congr 3
    have e := list_seg_step cur.toList (o + i) v rest (by simp at hl ⊢; omega)
    simpa [Array.toList_setIfInBounds, Nat.add_assoc] using e

theorem byteV_one (l : List UInt8) : ∀ u ∈ l.map byteV, u.oneCell' = true := by
  intro u hu
  obtain ⟨b, _, rfl⟩ := List.mem_map.1 hu
  rfl

section
variable {P : Program} (w : World)
theorem run_append_OB (base : Nat) (t ty e : TypeId) (i : TypeInfo) (ht : P.underlying t = some (.slice e)) (hi : P.info? e = some i) (hz : i.zero = some (.int .u8 0))
    (hsize : i.size = 1) (hby : i.bytes = 1) (v : Value) (l : List UInt8) (hown : OB e w base v l)
    (a : Addr) (c : Nat) (news : List UInt8) (hnews : ∀ j u, (news.map byteV)[j]? = some u → w.cell? (a.add j) = some u)
    (hbytes : l.length + news.length ≤ 140737488355328) (hbase : base ≤ w.heap.size) :
    ∃ v' w', (Builtin.append_ #[t, t] ty #[v, .slice (some a) news.length c]).run P w = .ok v' w' ∧ OB e w' base v' (l ++ news) ∧ w.grownBy w' v.ownBlock := by
  rcases hown with ⟨rfl, rfl⟩ | ⟨g, cap, cur, fz, rfl, hbg, hg, hfz, hnc, hcm, hcs, htake⟩
  · obtain ⟨v', w', r1, r2, r3, r4⟩ := run_append_own (P := P) w base t ty e i (.int .u8 0) 1 1 ht hi hz hsize hby rfl (by omega) (.slice none 0 0) 0 [] ⟨rfl, .inl ⟨rfl, rfl⟩⟩ a news.length c (news.map byteV) (by simp) hnews (byteV_one _) (by unfold maxLen; simp at hbytes; omega) (by simp at hbytes; omega) hbase
    refine ⟨v', w', r1, ?_, r3⟩
    obtain ⟨hl, h2⟩ := r2
    rcases h2 with ⟨hv, hn⟩ | ⟨g, cap, cur, hv, hb, hg, hnc, hcm, hcs, htake⟩
    · exact .inl ⟨hv, by simpa using List.length_eq_zero_iff.1 (show news.length = 0 by omega)⟩
    · exact .inr ⟨g, cap, cur, (0, 0), by simpa using hv, hb, hg, .inl rfl, by simp at hnc ⊢; omega, hcm, by omega, by simpa using htake⟩
  · have hs1 : i.size = 1 := hsize
    by_cases hroom : l.length + news.length ≤ cap
    · have hf := run_firstCells_some (P := P) w i.size news.length a news.length c (news.map byteV) (by simp [hs1]) hnews
      have hst := storeCells_free P g (l.length * i.size) e fz (news.map byteV) 0 cur w hg hfz (by simp [hs1]; omega) (byteV_one _)
      simp only [Nat.add_zero, hs1, Nat.mul_one] at hst hf
      refine ⟨_, _, by simp [Builtin.append_, run_underlying ht, sizeOf, typeInfo, hi, Builtin.lenOf, hroom, hs1, hf, Addr.add_lit, hst]; exact ⟨rfl, rfl⟩, .inr ⟨g, cap, _, fz, by simp, hbg, setRow_heap w g cur _ e _ hg, ?_, by simpa using hroom, hcm, ?_, ?_⟩, ⟨rfl, rfl, rfl, by simp, fun k _ hk => setRow_other w g k _ (fun e => hk (by simp [Value.ownBlock, e]))⟩⟩
      · rcases hfz with h | h
        · exact .inl h
        · right; simp; omega
      · simp; omega
      · have hl2 : (l.map byteV ++ news.map byteV).length = (l ++ news).length := by simp
        rw [htake, ← hl2]
        rw [← List.append_assoc, List.take_left]; simp
    · have holds : ∀ j u, (l.map byteV)[j]? = some u → w.cell? ((⟨g, 0, none⟩ : Addr).add j) = some u :=
        OB.cells (e := e) (base := base) (v := .slice (some ⟨g, 0, none⟩) l.length cap) (.inr ⟨g, cap, cur, fz, rfl, hbg, hg, hfz, hnc, hcm, hcs, htake⟩) rfl
      have hr := run_append_grow (P := P) w t ty e i (.int .u8 0) ht hi hz ⟨g, 0, none⟩ l.length cap (l.map byteV) (by simp [hs1]) holds a news.length c (news.map byteV) (by simp [hs1]) hnews (by omega) (by omega) (growslice_fits (by omega) (by rw [hby]; omega))
      have hge := grownCap_ge w (l.length + news.length) cap e
      have hcm2 : grownCap w (l.length + news.length) cap e ≤ maxLen := grownCap_le_maxLen w (l.length + news.length) cap e (by unfold maxLen; omega)
      refine ⟨_, _, hr, .inr ⟨w.heap.size, _, _, (0, 0), by simp, hbase, heap_alloc_new w.drew _, .inl rfl, by simpa using hge, hcm2, ?_, ?_⟩, ⟨rfl, rfl, rfl, by simp, fun k hk _ => Below.heap_alloc w.drew _ k hk⟩⟩
      · simp only [Array.size_append, List.size_toArray, size_zeroCells, List.length_map]
        have : (Value.int IntKind.u8 0).cells.size = 1 := rfl
        rw [this]; omega
      · simp only [Array.toList_append, List.append_assoc]
        rw [← List.append_assoc]
        have hl2 : (l.map byteV ++ news.map byteV).length = (l ++ news).length := by simp
        rw [← hl2, List.take_left]; simp

theorem wpList_append_OB {ops : Array Oper} {rest : List Oper} {o : Oper} {a : Act} {Q : Exit → Act → World → Prop} (hgd : o.guard = none) (s x : Operand) (t : TypeId)
    (ho : o.op = .call { callee := .builtin .append, args := #[s, x], argTypes := #[t, t] })
    (base : Nat) (e : TypeId) (i : TypeInfo) (ht : P.underlying t = some (.slice e)) (hi : P.info? e = some i) (hz : i.zero = some (.int .u8 0))
    (hsize : i.size = 1) (hby : i.bytes = 1) (v : Value) (l : List UInt8) (hs : a.eval s = v) (hown : OB e w base v l)
    (ad : Addr) (m c : Nat) (news : List UInt8) (hx : a.eval x = .slice (some ad) m c) (hm : m = news.length) (hnews : ∀ j u, (news.map byteV)[j]? = some u → w.cell? (ad.add j) = some u)
    (hbytes : l.length + news.length ≤ 140737488355328) (hbase : base ≤ w.heap.size)
    (h : ∀ v' w', OB e w' base v' (l ++ news) → w.grownBy w' v.ownBlock → wpList P ops Q rest (a.put o.dst v') w') : wpList P ops Q (o :: rest) a w := by
  subst hm
  refine wpList_plain hgd fun K hK => ?_
  obtain ⟨v', w', hr, h2, h3⟩ := run_append_OB (P := P) w base t o.type e i ht hi hz hsize hby v l hown ad c news hnews hbytes hbase
  unfold Oper.wp execOp
  simp only [ho, resolve, invoke, builtin, Sem.run_bind, Sem.run_pure, Result.andThen_ok, List.map_toArray, List.map_cons, List.map_nil, hs, hx, hr]
  exact hK _ _ (h v' w' h2 h3)
end

theorem madeCells_list (z : Value) (n : Nat) : (madeCells #[z] n).toList = List.replicate n z := toList_madeCells_one z n
theorem madeCells_size (z : Value) (n : Nat) : (madeCells #[z] n).size = n := by
  have := congrArg List.length (madeCells_list z n)
  simpa using this
/-- 'make([]byte, n)' -/
theorem OB_made (e : TypeId) (w : World) (n : Nat) (hn : n ≤ maxLen) (base : Nat) (hb : base ≤ w.heap.size) :
    OB e (w.alloc (.cells (madeCells #[.int .u8 0] n) e)) base (.slice (some ⟨w.heap.size, 0, none⟩) n n) (List.replicate n 0) :=
  .inr ⟨w.heap.size, n, _, (0, 0), by simp, hb, heap_alloc_new w _, .inl rfl, by simp, hn, madeCells_size _ _, by simp [madeCells_list, byteV]⟩
/-- '[]byte(s)' -/
theorem OB_of_string (e : TypeId) (w : World) (s : ByteArray) (hs : s.size ≤ maxLen) (base : Nat) (hb : base ≤ w.heap.size) :
    OB e (w.drew.alloc (.cells (bytesRow s (grownCap w s.size 0 e)) e ((bytesRow s (grownCap w s.size 0 e)).size, (bytesRow s (grownCap w s.size 0 e)).size + 1))) base (.slice (some ⟨w.heap.size, 0, none⟩) s.size (grownCap w s.size 0 e)) s.data.toList := by
  have hl : s.data.toList.length = s.size := by simp
  have hge := grownCap_ge w s.size 0 e
  refine .inr ⟨w.heap.size, grownCap w s.size 0 e, _, _, by rw [hl], hb, heap_alloc_new w.drew _, .inr (Nat.le_refl _), by omega, grownCap_le_maxLen w s.size 0 e hs, ?_, ?_⟩
  · simp [bytesRow]; omega
  · rw [hl]
    simp only [bytesRow, Array.toList_append, Array.toList_map]
    rw [show s.size = (s.data.toList.map fun b => Value.int .u8 b.toNat).length by simp, List.take_left]
    rfl

/-- 'string(v)' -/
theorem run_string_of_OB {P : Program} (w : World) (src dst e : TypeId) (base : Nat) (v : Value) (l : List UInt8) (hs : P.underlying src = some (.slice e)) (he : P.underlying e = some (.int .u8)) (hd : P.underlying dst = some .string)
    (h : OB e w base v l) : (convert src dst v).run P w = .ok (.string ⟨l.toArray⟩) w := by
  rcases h with ⟨rfl, rfl⟩ | ⟨g, cap, cur, fz, rfl, hb, hg, hfz, hnc, hcm, hcs, htake⟩
  · simp [convert, run_underlying hs, run_underlying hd, run_underlying he]
    rfl
  · refine run_convert_bytes_back w src dst e ⟨g, 0, none⟩ cap l hs he hd (fun j hj => ?_)
    refine OB.cells (e := e) (base := base) (v := .slice (some ⟨g, 0, none⟩) l.length cap) (.inr ⟨g, cap, cur, fz, rfl, hb, hg, hfz, hnc, hcm, hcs, htake⟩) rfl j _ ?_
    simp [List.getElem?_map, List.getElem?_eq_getElem hj, byteV]

section
variable {P : Program} (w : World)
theorem Below.of_marked (w : World) (o : Obj) : Below w.heap.size w (w.drew.alloc o) := ((Below.refl _ w).drew).alloc (Nat.le_refl _) o
/-- '[]byte(s)' as a law of the walk -/
theorem wpList_bytes_of_string {ops : Array Oper} {rest : List Oper} {o : Oper} {a : Act} {Q : Exit → Act → World → Prop} (hgd : o.guard = none) (src dst e : TypeId) (x : Operand) (ho : o.op = .convert src dst x)
    (s : ByteArray) (hx : a.eval x = .string s) (hs : P.underlying src = some .string) (hd : P.underlying dst = some (.slice e)) (he : P.underlying e = some (.int .u8)) (hmax : s.size ≤ maxLen)
    (h : ∀ v' w', OB e w' w.heap.size v' s.data.toList → Below w.heap.size w w' → wpList P ops Q rest (a.put o.dst v') w') : wpList P ops Q (o :: rest) a w := by
  refine wpList_plain hgd fun K hK => ?_
  have hr := run_bytes_of_string (P := P) w src dst e s hs hd he
  unfold Oper.wp execOp
  simp only [ho, hx, Sem.run_bind, Sem.run_pure, Result.andThen_ok, hr]
  exact hK _ _ (h _ _ (OB_of_string e w s hmax _ (Nat.le_refl _)) (Below.of_marked w _))
theorem wpList_string_of_OB {ops : Array Oper} {rest : List Oper} {o : Oper} {a : Act} {Q : Exit → Act → World → Prop} (hgd : o.guard = none) (src dst e : TypeId) (x : Operand) (ho : o.op = .convert src dst x)
    (base : Nat) (v : Value) (l : List UInt8) (hx : a.eval x = v) (hs : P.underlying src = some (.slice e)) (he : P.underlying e = some (.int .u8)) (hd : P.underlying dst = some .string) (hown : OB e w base v l)
    (h : wpList P ops Q rest (a.put o.dst (.string ⟨l.toArray⟩)) w) : wpList P ops Q (o :: rest) a w := by
  refine wpList_plain hgd fun K hK => ?_
  have hr := run_string_of_OB (P := P) w src dst e base v l hs he hd hown
  unfold Oper.wp execOp
  simp only [ho, hx, Sem.run_bind, Sem.run_pure, Result.andThen_ok, hr]
  exact hK _ _ h
end
theorem byteV_of (x : Nat) : byteV (UInt8.ofNat (x % 256)) = .int .u8 ((x : Int) % 256) := by
  unfold byteV
  rw [UInt8.toNat_ofNat']
  congr 1
  omega
theorem one_new (w : World) (e : TypeId) (b : UInt8) (v : Value) (hv : byteV b = v) : ∀ j u, ([b].map byteV)[j]? = some u → (w.alloc (.cells #[v] e)).cell? ((⟨w.heap.size, 0, none⟩ : Addr).add j) = some u := by
  intro j u hu
  match j, hu with
  | 0, hu => simp at hu; subst hu; simp [Addr.add, hv]
theorem info_u8 : (Tryz.prog.info? 5).map (fun i => (i.zero, i.size, i.bytes)) = some (some (.int .u8 0), 1, 1) := by kernel_rfl

end Go.Proofs.YtcegpcggdcgjbaaGreatDoor
/- strings.Clone: the same bytes; only new memory. -/
namespace Go.Proofs.YtcegpcggdcgjbaaGreatDoor
open Go.ChangeShapes Go.WideShapes Go.ChangeAt Go.RowKit
section
variable {P : Program} (w : World)
theorem wpList_copy_string {ops : Array Oper} {rest : List Oper} {o : Oper} {a : Act} {Q : Exit → Act → World → Prop} (hgd : o.guard = none) (d s : Operand) (dT sT : TypeId)
    (ho : o.op = .call { callee := .builtin .copy, args := #[d, s], argTypes := #[dT, sT] }) (e : TypeId) (i : TypeInfo) (hu : P.underlying dT = some (.slice e)) (hi : P.info? e = some i) (hs1 : i.size = 1)
    (g c : Nat) (str : ByteArray) (hd : a.eval d = .slice (some ⟨g, 0, none⟩) str.size c) (hs : a.eval s = .string str) (cur : Array Value) (hg : w.heap[g]? = some (.cells cur e (0, 0))) (hc : cur.size = str.size)
    (h : wpList P ops Q rest (a.put o.dst (.int .i64 str.size)) (w.setRow g (Lib.strCells str).toArray)) : wpList P ops Q (o :: rest) a w := by
  refine wpList_plain hgd fun K hK => ?_
  have hf := Lib.run_firstCells_string (P := P) w 1 str
  have hst := run_storeCells_at P g 0 e (Lib.strCells str) 0 cur w hg (by simp [Lib.strCells_length]; omega) (Lib.strCells_oneCell str)
  have hdrop : cur.toList.drop str.size = [] := by simp; omega
  simp only [Nat.add_zero, Nat.zero_add, Lib.strCells_length, List.take_zero, List.nil_append, hdrop, List.append_nil] at hst
  have hr : (Builtin.copy_ #[dT, sT] o.type #[.slice (some ⟨g, 0, none⟩) str.size c, .string str]).run P w = .ok (.int .i64 str.size) (w.setRow g (Lib.strCells str).toArray) := by
    simp [Builtin.copy_, run_underlying hu, sizeOf, typeInfo, hi, hs1, Builtin.lenOf, hf, hst, goInt]
  unfold Oper.wp execOp
  simp only [ho, resolve, invoke, builtin, Sem.run_bind, Sem.run_pure, Result.andThen_ok, List.map_toArray, List.map_cons, List.map_nil, hs, hd, hr]
  exact hK _ _ h
theorem wpList_unsafeString {ops : Array Oper} {rest : List Oper} {o : Oper} {a : Act} {Q : Exit → Act → World → Prop} (hgd : o.guard = none) (p n : Operand) (pt it : TypeId)
    (ho : o.op = .call { callee := .builtin .unsafeString, args := #[p, n], argTypes := #[pt, it] }) (e : TypeId) (hp : P.underlying pt = some (.pointer e)) (hc : P.cellsOf e = 1) (g : Nat)
    (hpv : a.eval p = .pointer (some ⟨g, 0, none⟩)) (str : ByteArray) (hn : a.eval n = .int .i64 str.size) (h0 : str.size ≠ 0) (h63 : str.size ≤ 9223372036854775807) (hg : w.heap[g]? = some (.cells (Lib.strCells str).toArray e (0, 0)))
    (h : wpList P ops Q rest (a.put o.dst (.string str)) (w.freeze ⟨g, 0, none⟩ str.size)) : wpList P ops Q (o :: rest) a w := by
  refine wpList_plain hgd fun K hK => ?_
  have hl : str.data.toList.length = str.size := by simp
  have hr := Lib.run_unsafeString_row (P := P) w pt it o.type e hp hc g str.size (by simp [World.shape?, hg, Lib.strCells_length]) str.data.toList (by intro h; rw [h] at hl; simp at hl; omega) (by omega) (by omega)
    (fun j x hx => by
      have hadd : (⟨g, 0, none⟩ : Addr).add j = ⟨g, j, none⟩ := by unfold Addr.add; split <;> simp_all
      rw [hadd, cell_of_row w g j _ _ _ hg]
      have hj : j < str.data.toList.length := (List.getElem?_eq_some_iff.1 hx).1
      simp [Lib.strCells, List.getElem?_map, hx])
  rw [hl] at hr
  unfold Oper.wp execOp
  simp only [ho, resolve, invoke, builtin, Sem.run_bind, Sem.run_pure, Result.andThen_ok, List.map_toArray, List.map_cons, List.map_nil, hpv, hn, hr]
  exact hK _ _ h
end
theorem info_u8' : (Tryz.prog.info? 5).map (fun i => (i.zero, i.size, i.bytes)) = some (some (.int .u8 0), 1, 1) := by kernel_rfl
theorem cells_u8 : Tryz.prog.cellsOf 5 = 1 := by kernel_rfl

set_option maxRecDepth 100000 in
theorem lite_clone (s : ByteArray) (w : World) (hs : s.size ≤ 281474976710656) :
    Calls Tryz.prog 143 #[.string s] w fun e w' => e = .returned (.string s) ∧ Below w.heap.size w w' := by
  obtain ⟨i0, hi, hz0, hz1, hz2⟩ := info_parts info_u8'
  by_cases h0 : s.size = 0
  · have hb : (((s.size : Nat) : Int) == 0) = true := by simp [h0]
    have he : s = ⟨#[]⟩ := by cases s with | mk d => have : d.size = 0 := h0; simp [Array.eq_empty_of_size_eq_zero this]
    clear hi hz0 hz1 hz2
    subst he
    clear h0 hb
    go_enter Tryz.func143, Tryz.ntmps143
    go_wp2
    go_ret
    exact ⟨rfl, Below.refl _ _⟩
  · have hb : (((s.size : Nat) : Int) == 0) = false := beq_eq_false_iff_ne.2 (by omega)
    have hmk : ∀ u : World, (Instr.makeSlice 22 (.int .i64 (s.size : Int)) (.int .i64 (s.size : Int))).run Tryz.prog u = .ok (.slice (some ⟨u.heap.size, 0, none⟩) s.size s.size) (u.alloc (.cells (madeCells #[.int .u8 0] s.size) 5)) := fun u => by
      have h := run_make (P := Tryz.prog) u 22 5 i0 (.int .u8 0) Tryz.underlying22 hi hz0 .i64 .i64 (s.size : Int) (s.size : Int) (by omega) (Int.le_refl _) (by rw [hz2]; omega) (by omega)
      simpa [hz1, Value.cells] using h
    have hm : (madeCells #[Value.int .u8 0] s.size).size = s.size := by
      have := congrArg List.length (toList_madeCells_one (.int .u8 0) s.size)
      simpa using this
    have H2 := Lib.hid (heap_alloc_new w (.cells (madeCells #[.int .u8 0] s.size) 5))
    have H3 := Lib.hid (setRow_heap _ _ _ (Lib.strCells s).toArray _ _ H2.out)
    have HB : Hid (Below w.heap.size w ((((w.alloc (.cells (madeCells #[.int .u8 0] s.size) 5)).setRow w.heap.size (Lib.strCells s).toArray)).freeze ⟨w.heap.size, 0, none⟩ s.size)) :=
      Lib.below_freeze (below_setRow (((Below.refl _ w).alloc (Nat.le_refl _) _)) (Nat.le_refl _) _) (Nat.le_refl _) _
    have HM := Lib.hid hm
    have HI := Lib.hid hi
    have HZ1 := Lib.hid hz1
    clear hi hz0 hz1 hz2 hm
    have hp : (0 : Int) < (s.size : Int) := by omega
    go_enter Tryz.func143, Tryz.ntmps143
    go_wp2_with (first | (refine wpList_copy_string _ rfl _ _ 22 9 rfl 5 i0 Tryz.underlying22 HI.out HZ1.out w.heap.size s.size s rfl rfl _ H2.out HM.out ?_) | (refine wpList_unsafeString _ rfl _ _ 68 3 rfl 5 Tryz.underlying68 cells_u8 w.heap.size rfl s rfl h0 (by omega) H3.out ?_))
    go_ret
    exact ⟨rfl, HB.out⟩
theorem clone_any (s : ByteArray) (w : World) (hs : s.size ≤ 281474976710656) :
    Calls Tryz.prog 156 #[.string s] w fun e w' => e = .returned (.string s) ∧ Below w.heap.size w w' := by
  go_enter Tryz.func156, Tryz.ntmps156
  go_wp2_with (go_at_call 143; refine (lite_clone _ _ hs).mono ?_; rintro e w' ⟨rfl, hb⟩)
  go_ret
  exact ⟨rfl, hb⟩
end Go.Proofs.YtcegpcggdcgjbaaGreatDoor
/- A strings.Builder of the call's own: written to, read once at the end. -/
namespace Go.Proofs.YtcegpcggdcgjbaaGreatDoor
open Go.ChangeShapes Go.WideShapes Go.ChangeAt Go.RowKit

theorem info_builder : (Tryz.prog.info? 42).map (fun i => (i.zero, i.size)) = some (some (.agg #[.pointer none, .slice none 0 0]), 2) := by kernel_rfl
theorem noEscape_run (x : Value) (w : World) : (callFunc 40 #[x]).run Tryz.prog w = .ok (.value x) w := by kernel_rfl
theorem builder_lies : liesAt Tryz.prog Tryz.prog.depth 42 (2 / Tryz.prog.cellsOf 42) 0 42 1 = true := by kernel_rfl
theorem builder_size : ∃ j, Tryz.prog.info? 42 = some j ∧ j.size ≠ 0 := by
  have h := info_builder
  cases hq : Tryz.prog.info? 42 with
  | none => rw [hq] at h; simp at h
  | some i =>
    rw [hq] at h
    simp at h
    exact ⟨i, rfl, by omega⟩

theorem copyCheck_used (b : Nat) (v : Value) (w : World) (hb : w.heap[b]? = some (.cells #[.pointer (some ⟨b, 0, none⟩), v] 42 (0, 0))) :
    Calls Tryz.prog 26 #[.pointer (some ⟨b, 0, none⟩)] w fun e w' => e = .returned (.tuple #[]) ∧ w = w' := by
  have c0 : w.cell? ⟨b, 0, none⟩ = some (.pointer (some ⟨b, 0, none⟩)) := by rw [cell_of_row w b 0 _ _ _ hb]; rfl
  obtain ⟨j, hj, hj0⟩ := builder_size
  have hne : ∀ u : World, (binOp .neq 40 (.pointer (some ⟨b, 0, none⟩)) (.pointer (some ⟨b, 0, none⟩))).run Tryz.prog u = .ok (.bool false) u := fun u => Lib.run_neq_ptr_same u ⟨b, 0, none⟩ Tryz.underlying40 hj
  clear hb hj hj0
  go_enter Tryz.func26, Tryz.ntmps26
  go_wp2
  go_end0
  exact ⟨rfl, rfl⟩
theorem copyCheck_fresh (b : Nat) (v : Value) (w : World) (hb : w.heap[b]? = some (.cells #[.pointer none, v] 42 (0, 0))) :
    Calls Tryz.prog 26 #[.pointer (some ⟨b, 0, none⟩)] w fun e w' => e = .returned (.tuple #[]) ∧ w' = w.setCell ⟨b, 0, none⟩ (.pointer (some ⟨b, 0, none⟩)) := by
  have c0 : w.cell? ⟨b, 0, none⟩ = some (.pointer none) := by rw [cell_of_row w b 0 _ _ _ hb]; rfl
  have f0 : w.frozen? ⟨b, 0, none⟩ = false := frozen_of_row w b 0 _ _ hb
  obtain ⟨j, hj, hj0⟩ := builder_size
  have hsh : w.shape? b = some (42, 2) := by simp [World.shape?, hb]
  have hne : ∀ u : World, (binOp .neq 40 (.pointer (some ⟨b, 0, none⟩)) (.pointer (some ⟨b, 0, none⟩))).run Tryz.prog u = .ok (.bool false) u := fun u => Lib.run_neq_ptr_same u ⟨b, 0, none⟩ Tryz.underlying40 hj
  have h1 := Lib.run_to_unsafe (P := Tryz.prog) w ⟨b, 0, none⟩ Tryz.underlying40 Tryz.underlying85 hj hj0 hsh (by simp)
  have h2 := Lib.run_from_unsafe (P := Tryz.prog) w ⟨b, 0, none⟩ Tryz.underlying85 Tryz.underlying40 hj hsh builder_lies
  have h3 := noEscape_run
  clear hb hj hj0 hsh
  go_enter Tryz.func26, Tryz.ntmps26
  go_wp2
  go_end0
  exact ⟨rfl, rfl⟩

/-- a row of bytes without a mark -/
def RB (w : World) (B : Nat) (v : Value) (l : List UInt8) : Prop := w.ownsRow B 5 1 v l.length (l.map byteV) ∧ (l = [] → v = .slice none 0 0)
theorem RB.ob {w : World} {B : Nat} {v : Value} {l : List UInt8} (h : RB w B v l) : OB 5 w B v l := by
  obtain ⟨⟨_, h2⟩, _⟩ := h
  rcases h2 with ⟨rfl, hn⟩ | ⟨g, cap, cur, rfl, hb, hg, hnc, hcm, hcs, htake⟩
  · exact .inl ⟨rfl, List.length_eq_zero_iff.1 hn⟩
  · exact .inr ⟨g, cap, cur, (0, 0), rfl, hb, hg, .inl rfl, hnc, hcm, by omega, by simpa using htake⟩
/-- a builder at block b, of the call's own (from B on), holding the bytes l -/
def BU (w : World) (B b : Nat) (l : List UInt8) : Prop :=
  B ≤ b ∧ ∃ p v, w.heap[b]? = some (.cells #[p, v] 42 (0, 0)) ∧ (p = .pointer none ∨ p = .pointer (some ⟨b, 0, none⟩)) ∧ RB w B v l
/-- only block b and rows of bytes have turned -/
def NB (b : Nat) (w w' : World) : Prop := w.heap.size ≤ w'.heap.size ∧ ∀ i, i < w.heap.size → i ≠ b → (∀ cs fz, w.heap[i]? ≠ some (.cells cs 5 fz)) → w'.heap[i]? = w.heap[i]?
theorem NB.refl (b : Nat) (w : World) : NB b w w := ⟨Nat.le_refl _, fun _ _ _ _ => rfl⟩
theorem NB.trans {b : Nat} {a w w' : World} (h : NB b a w) (k : NB b w w') : NB b a w' :=
  ⟨Nat.le_trans h.1 k.1, fun i hi hne hnb => by
    have e := h.2 i hi hne hnb
    rw [k.2 i (Nat.lt_of_lt_of_le hi h.1) hne (by rw [e]; exact hnb), e]⟩
theorem NB.alloc {b : Nat} {a w : World} (h : NB b a w) (o : Obj) : NB b a (w.alloc o) :=
  ⟨Nat.le_trans h.1 (by simp), fun i hi hne hnb => (Below.heap_alloc w o i (Nat.lt_of_lt_of_le hi h.1)).trans (h.2 i hi hne hnb)⟩
theorem NB.drew {b : Nat} {a w : World} (h : NB b a w) : NB b a w.drew := h
theorem NB.setCell {b : Nat} {a w : World} (h : NB b a w) (j : Nat) (u : Value) : NB b a (w.setCell ⟨b, j, none⟩ u) :=
  ⟨by simpa using h.1, fun i hi hne hnb => (Below.heap_setCell w ⟨b, j, none⟩ u i hne).trans (h.2 i hi hne hnb)⟩
/-- an append onto a row of bytes -/
theorem NB.grown {b base : Nat} {a w w' : World} {v : Value} {l : List UInt8} (h : NB b a w) (hown : OB 5 w base v l) (hg : w.grownBy w' v.ownBlock) : NB b a w' :=
  ⟨Nat.le_trans h.1 hg.size, fun i hi hne hnb => by
    have e := h.2 i hi hne hnb
    rw [hg.block i (Nat.lt_of_lt_of_le hi h.1) (fun he => by
      rcases hown with ⟨rfl, _⟩ | ⟨g, cap, cur, fz, rfl, _, hgg, _⟩
      · simp [Value.ownBlock] at he
      · simp [Value.ownBlock] at he
        subst he
        exact hnb cur fz (by rw [← e]; exact hgg)), e]⟩
theorem OB.ne_block {e T : TypeId} {w : World} {base b : Nat} {v : Value} {l : List UInt8} {cs : Array Value} {fr : Nat × Nat} (h : OB e w base v l) (hb : w.heap[b]? = some (.cells cs T fr)) (hT : T ≠ e) : v.ownBlock ≠ some b := by
  rcases h with ⟨rfl, _⟩ | ⟨g, cap, cur, fz, rfl, _, hgg, _⟩
  · simp [Value.ownBlock]
  · intro he
    simp [Value.ownBlock] at he
    subst he
    rw [hgg] at hb
    injection hb with hb
    injection hb with _ ht
    exact hT ht.symm
theorem RB.setCell_far {w : World} {B b j : Nat} {v u : Value} {l : List UInt8} (h : RB w B v l) (hne : v.ownBlock ≠ some b) : RB (w.setCell ⟨b, j, none⟩ u) B v l := by
  obtain ⟨⟨h1, h2⟩, h3⟩ := h
  refine ⟨⟨h1, ?_⟩, h3⟩
  rcases h2 with hn | ⟨g, cap, cur, rfl, hb, hgg, rest⟩
  · exact .inl hn
  · refine .inr ⟨g, cap, cur, rfl, hb, ?_, rest⟩
    rw [Below.heap_setCell w ⟨b, j, none⟩ u g (by intro e; simp only at e; exact hne (by simp [Value.ownBlock, e]))]
    exact hgg
theorem BU.fresh (w : World) : BU (w.alloc (.cells #[.pointer none, .slice none 0 0] 42)) w.heap.size w.heap.size [] :=
  ⟨Nat.le_refl _, _, _, heap_alloc_new w _, .inl rfl, World.ownsRow_nil _ _ _ _, fun _ => rfl⟩
theorem BU.lt {w : World} {B b : Nat} {l : List UInt8} (h : BU w B b l) : b < w.heap.size := by
  obtain ⟨_, p, v, hb, _⟩ := h
  exact (Array.getElem?_eq_some_iff.1 hb).1
/-- behind copyCheck the builder is used -/
theorem copyCheck_any (B b : Nat) (l : List UInt8) (w : World) (h : BU w B b l) :
    Calls Tryz.prog 26 #[.pointer (some ⟨b, 0, none⟩)] w fun e w' => e = .returned (.tuple #[]) ∧ (∃ v, w'.heap[b]? = some (.cells #[.pointer (some ⟨b, 0, none⟩), v] 42 (0, 0)) ∧ RB w' B v l) ∧ Below B w w' ∧ NB b w w' := by
  obtain ⟨hB, p, v, hb, hp, hown⟩ := h
  rcases hp with rfl | rfl
  · refine (copyCheck_fresh b v w hb).mono ?_
    rintro e w' ⟨rfl, rfl⟩
    exact ⟨rfl, ⟨v, by rw [heap_setCell_same _ _ _ _ _ _ hb]; rfl, hown.setCell_far (hown.ob.ne_block hb (by decide))⟩, (Below.refl _ _).setCell hB _, (NB.refl _ _).setCell _ _⟩
  · refine (copyCheck_used b v w hb).mono ?_
    rintro e w' ⟨rfl, rfl⟩
    exact ⟨rfl, ⟨v, hb, hown⟩, Below.refl _ _, NB.refl _ _⟩
/-- the buffer stored back -/
theorem BU.stored {w1 w1' w2 : World} {B b : Nat} {l l' : List UInt8} {v v' : Value} (hB : B ≤ b) (hb : w1.heap[b]? = some (.cells #[.pointer (some ⟨b, 0, none⟩), v] 42 (0, 0))) (hown : RB w1 B v l)
    (hsz : w1.heap.size ≤ w1'.heap.size) (h11 : w1'.heap[b]? = w1.heap[b]?) (hg : w1'.grownBy w2 v.ownBlock) (hown2 : RB w2 B v' l') :
    w2.heap[b]? = some (.cells #[.pointer (some ⟨b, 0, none⟩), v] 42 (0, 0)) ∧ BU (w2.setCell ⟨b, 1, none⟩ v') B b l' := by
  have hlt : b < w1.heap.size := (Array.getElem?_eq_some_iff.1 hb).1
  have hne := hown.ob.ne_block hb (by decide)
  have h2 : w2.heap[b]? = some (.cells #[.pointer (some ⟨b, 0, none⟩), v] 42 (0, 0)) := by
    rw [hg.block b (by omega) (fun e => hne e.symm), h11]; exact hb
  exact ⟨h2, hB, _, v', by rw [heap_setCell_same _ _ _ _ _ _ h2]; rfl, .inr rfl, hown2.setCell_far (hown2.ob.ne_block h2 (by decide))⟩

theorem byteV_len (l : List UInt8) : (l.map byteV).length = l.length := by simp
theorem RB.alloc {w : World} {B : Nat} {v : Value} {l : List UInt8} (h : RB w B v l) (o : Obj) : RB (w.alloc o) B v l := ⟨h.1.alloc o, h.2⟩
theorem one_cell (w : World) (e : TypeId) (v : Value) : ∀ j u, [v][j]? = some u → (w.alloc (.cells #[v] e)).cell? ((⟨w.heap.size, 0, none⟩ : Addr).add j) = some u := by
  intro j u hu
  match j, hu with
  | 0, hu => simp at hu; subst hu; simp [Addr.add]

set_option maxRecDepth 100000 in
theorem writeByte_any (B b : Nat) (l : List UInt8) (c : UInt8) (w : World) (h : BU w B b l) (hl : l.length + 1 ≤ 140737488355328) (hBw : B ≤ w.heap.size) :
    Calls Tryz.prog 18 #[.pointer (some ⟨b, 0, none⟩), .int .u8 c.toNat] w fun e w' => e = .returned .nilIface ∧ BU w' B b (l ++ [c]) ∧ Below B w w' ∧ NB b w w' := by
  obtain ⟨i0, hi, hz0, hz1, hz2⟩ := info_parts info_u8
  have HI := Lib.hid hi
  have HZ0 := Lib.hid hz0
  have HZ1 := Lib.hid hz1
  have HZ2 := Lib.hid hz2
  have hB : B ≤ b := h.1
  have H := Lib.hid h
  clear hi hz0 hz1 hz2 h
  go_enter Tryz.func18, Tryz.ntmps18
  go_wp2_with fail
  refine (copyCheck_any B b l w H.out).mono ?_
  rintro e w1 ⟨rfl, ⟨v, hb, hown⟩, hbel, hnb⟩
  have c1 : w1.cell? ⟨b, 1, none⟩ = some v := by rw [cell_of_row w1 b 1 _ _ _ hb]; rfl
  have hbl : b < w1.heap.size := (Array.getElem?_eq_some_iff.1 hb).1
  have HBk := Lib.hid hb
  have HO := Lib.hid hown
  have HBel := Lib.hid hbel
  have HNB := Lib.hid hnb
  have hsz := hbel.size
  clear hb hown hbel hnb
  go_wp2_with (at_builtin; refine wpList_append_own _ rfl _ _ 22 rfl B 5 i0 (.int .u8 0) 1 1 Tryz.underlying22 HI.out HZ0.out HZ1.out HZ2.out rfl (by decide) _ l.length (l.map byteV) rfl (HO.out.1.alloc _) ⟨w1.heap.size, 0, none⟩ 1 1 [.int .u8 c.toNat] rfl rfl (one_cell w1 _ _) (by simp [Value.oneCell']) (by unfold maxLen; omega) (by omega) (by simp; omega) ?_; intro v2 w2 hown2 hg2 hnil2; have hrb : RB w2 B v2 (l ++ [c]) := (⟨by rw [List.length_append, List.map_append]; exact hown2, fun h => by simp at h⟩); have hpos := hrb.ob.pos (by simp); obtain ⟨g, cap, hv2, _⟩ := hpos; rw [List.length_append] at hv2; simp only [List.length_singleton] at hv2; rw [hv2] at hrb ⊢; have HS := Lib.hid (BU.stored hB HBk.out HO.out (by simp) (Below.heap_alloc w1 _ b hbl) hg2 hrb); have c2 : w2.cell? ⟨b, 1, none⟩ = some v := (by rw [cell_of_row w2 b 1 _ _ _ HS.out.1]; rfl); have f2 : w2.frozen? ⟨b, 1, none⟩ = false := frozen_of_row w2 b 1 _ _ HS.out.1; clear hown2 hnil2 hv2 hrb)
  go_ret
  refine ⟨rfl, HS.out.2, ?_, ?_⟩
  · exact ((HBel.out.alloc (by omega) _).grown hg2 (by simp; omega) (fun k hk => (HO.out.ob.lt k hk).1)).setCell hB _
  · exact ((HNB.out.alloc _).grown (HO.out.ob.alloc _) hg2).setCell _ _

set_option maxRecDepth 100000 in
theorem writeString_any (B b : Nat) (l : List UInt8) (s : ByteArray) (w : World) (h : BU w B b l) (hl : l.length + s.size ≤ 140737488355328) (hBw : B ≤ w.heap.size) :
    Calls Tryz.prog 15 #[.pointer (some ⟨b, 0, none⟩), .string s] w fun e w' => e = .returned (.tuple #[.int .i64 s.size, .nilIface]) ∧ BU w' B b (l ++ s.data.toList) ∧ Below B w w' ∧ NB b w w' := by
  obtain ⟨i0, hi, hz0, hz1, hz2⟩ := info_parts info_u8
  have HI := Lib.hid hi
  have HZ0 := Lib.hid hz0
  have HZ1 := Lib.hid hz1
  have HZ2 := Lib.hid hz2
  have hB : B ≤ b := h.1
  have H := Lib.hid h
  have HSL := Lib.hid (show s.data.toList.length = s.size by simp)
  clear hi hz0 hz1 hz2 h
  go_enter Tryz.func15, Tryz.ntmps15
  go_wp2_with fail
  refine (copyCheck_any B b l w H.out).mono ?_
  rintro e w1 ⟨rfl, ⟨v, hb, hown⟩, hbel, hnb⟩
  have c1 : w1.cell? ⟨b, 1, none⟩ = some v := by rw [cell_of_row w1 b 1 _ _ _ hb]; rfl
  have hbl : b < w1.heap.size := (Array.getElem?_eq_some_iff.1 hb).1
  have HBk := Lib.hid hb
  have HO := Lib.hid hown
  have HBel := Lib.hid hbel
  have HNB := Lib.hid hnb
  have hsz := hbel.size
  clear hb hown hbel hnb
  go_wp2_with (at_builtin; refine Lib.wpList_append_own_string _ rfl _ _ 22 9 rfl B 5 i0 Tryz.underlying22 Tryz.underlying9 HI.out HZ0.out HZ1.out HZ2.out _ l.length (l.map byteV) rfl HO.out.1 s rfl (by unfold maxLen; omega) hl (by omega) ?_; intro v2 w2 hown2 hg2 hnil2; have hrb : RB w2 B v2 (l ++ s.data.toList) := (⟨by rw [List.length_append, List.map_append, HSL.out]; exact hown2, fun h => (by
    rw [List.append_eq_nil_iff] at h
    exact hnil2.2 ⟨HO.out.2 h.1, by rw [← HSL.out, h.2]; rfl⟩)⟩); have hsh := hrb.ob.shape; obtain ⟨a2, cap2, hv2, _⟩ := hsh; rw [List.length_append, HSL.out] at hv2; rw [hv2] at hrb ⊢; have HS := Lib.hid (BU.stored hB HBk.out HO.out (Nat.le_refl _) rfl hg2 hrb); have c2 : w2.cell? ⟨b, 1, none⟩ = some v := (by rw [cell_of_row w2 b 1 _ _ _ HS.out.1]; rfl); have f2 : w2.frozen? ⟨b, 1, none⟩ = false := frozen_of_row w2 b 1 _ _ HS.out.1; clear hown2 hnil2 hv2 hrb)
  go_ret2
  refine ⟨rfl, HS.out.2, ?_, ?_⟩
  · exact (HBel.out.grown hg2 (by omega) (fun k hk => (HO.out.ob.lt k hk).1)).setCell hB _
  · exact (HNB.out.grown HO.out.ob hg2).setCell _ _
end Go.Proofs.YtcegpcggdcgjbaaGreatDoor
/- A strings.Builder's text read. -/
namespace Go.Proofs.YtcegpcggdcgjbaaGreatDoor
open Go.ChangeShapes Go.WideShapes Go.ChangeAt Go.RowKit
theorem cellsOf_u8 : Tryz.prog.cellsOf 5 = 1 := by kernel_rfl

set_option maxRecDepth 100000 in
set_option maxHeartbeats 1000000 in
theorem string_any (B b : Nat) (l : List UInt8) (w : World) (h : BU w B b l) (hl : l.length ≤ 140737488355328) :
    Calls Tryz.prog 19 #[.pointer (some ⟨b, 0, none⟩)] w fun e w' => e = .returned (.string ⟨l.toArray⟩) ∧ Below B w w' := by
  obtain ⟨hB, p, v, hb, hp, hrb⟩ := h
  have c1 : w.cell? ⟨b, 1, none⟩ = some v := by rw [cell_of_row w b 1 _ _ _ hb]; rfl
  cases l with
  | nil =>
    have hv := hrb.2 rfl
    subst hv
    have h1 : ∀ (ts : Array TypeId) (ty : TypeId) (u : World), (Builtin.unsafeSliceData_ ts ty #[.slice none 0 0]).run Tryz.prog u = .ok (.pointer none) u := fun ts ty u => Lib.run_unsafeSliceData_nil (P := Tryz.prog) u ts ty 0 0
    have h2 : ∀ (ty : TypeId) (u : World), (Builtin.unsafeString_ #[68, 3] ty #[.pointer none, .int .i64 0]).run Tryz.prog u = .ok (.string .empty) u := fun ty u => Lib.run_unsafeString_none (P := Tryz.prog) u _ _ ty none
    clear hb hrb hp
    go_enter Tryz.func19, Tryz.ntmps19
    go_wp2
    go_region
    all_goals go_wp2
    all_goals go_ret
    all_goals exact ⟨rfl, (Below.refl _ _).drew⟩
  | cons x l =>
    obtain ⟨g, cap, rfl, hcap, hcapm, hbg, hgl⟩ := hrb.ob.pos (by simp)
    have hcap0 : cap ≠ 0 := by simp at hcap; omega
    obtain ⟨cur, hcur, hcs⟩ : ∃ cur, w.heap[g]? = some (.cells cur 5 (0, 0)) ∧ (x :: l).length ≤ cur.size := by
      obtain ⟨⟨_, h2⟩, _⟩ := hrb
      rcases h2 with ⟨h, _⟩ | ⟨g', cap', cur, h, _, hgg, hnc, _, hcs, _⟩
      · simp at h
      · have : g = g' := by injection h with h; injection h with h; injection h
        subst this
        exact ⟨cur, hgg, by omega⟩
    have h1 : ∀ (ts : Array TypeId) (ty : TypeId) (u : World), (Builtin.unsafeSliceData_ ts ty #[.slice (some ⟨g, 0, none⟩) (x :: l).length cap]).run Tryz.prog u = .ok (.pointer (some ⟨g, 0, none⟩)) u := fun ts ty u => Lib.run_unsafeSliceData_row (P := Tryz.prog) u ts ty ⟨g, 0, none⟩ _ cap hcap0
    have h2 : ∀ (ty : TypeId), (Builtin.unsafeString_ #[68, 3] ty #[.pointer (some ⟨g, 0, none⟩), .int .i64 ((x :: l).length : Int)]).run Tryz.prog w.drew = .ok (.string ⟨(x :: l).toArray⟩) (w.drew.freeze ⟨g, 0, none⟩ (x :: l).length) := fun ty =>
      Lib.run_unsafeString_row (P := Tryz.prog) w.drew 68 3 ty 5 Tryz.underlying68 cellsOf_u8 g cur.size (by simp [World.shape?, World.drew, -World.drew_eq, hcur]) (x :: l) (by simp) hcs (by omega)
        (fun j y hy => by
          have hc := hrb.ob.cells (g := g) rfl j (byteV y) (by rw [List.getElem?_map, hy]; rfl)
          exact hc)
    obtain ⟨L, hL⟩ : ∃ L, (x :: l) = L := ⟨_, rfl⟩
    rw [hL] at h1 h2 c1 hl ⊢
    obtain ⟨n, hn⟩ : ∃ n, L.length = n := ⟨_, rfl⟩
    rw [hn] at h1 h2 c1
    clear hb hrb hp hcur hcs hL hn
    go_enter Tryz.func19, Tryz.ntmps19
    go_wp2
    go_region
    all_goals go_wp2
    all_goals go_ret
    all_goals exact ⟨rfl, Lib.below_freeze ((Below.refl _ _).drew) (by simpa using hbg) _⟩
end Go.Proofs.YtcegpcggdcgjbaaGreatDoor
