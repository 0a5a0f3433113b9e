/- A strings.Builder of the call's own: written to, read once at the end. -/
import Derived.Test.YtabdejafmhnaaaaOwn
import Derived.Lib.Builder
import Derived.Lib.UnsafeStr
namespace Go.Proofs.Ytabdejafmhnaaaa
open Go.ChangeShapes Go.WideShapes Go.ChangeAt Go.RowKit

theorem info_builder : (Try.prog.info? 36).map (fun i => (i.zero, i.size)) = some (some (.agg #[.pointer none, .slice none 0 0]), 2) := by kernel_rfl
theorem noEscape_run (x : Value) (w : World) : (callFunc 66 #[x]).run Try.prog w = .ok (.value x) w := by kernel_rfl
theorem builder_lies : liesAt Try.prog Try.prog.depth 36 (2 / Try.prog.cellsOf 36) 0 36 1 = true := by kernel_rfl
theorem builder_size : ∃ j, Try.prog.info? 36 = some j ∧ j.size ≠ 0 := by
  have h := info_builder
  cases hq : Try.prog.info? 36 with
  | none => rw [hq] at h; simp at h
  | some i =>
    rw [hq] at h
    simp at h
    exact ⟨i, rfl, by omega⟩

theorem copyCheck_used (b : Nat) (v : Value) (w : World) (hb : w.heap[b]? = some (.cells #[.pointer (some ⟨b, 0, none⟩), v] 36 (0, 0))) :
    Calls Try.prog 60 #[.pointer (some ⟨b, 0, none⟩)] w fun e w' => e = .returned (.tuple #[]) ∧ w = w' := by
  have c0 : w.cell? ⟨b, 0, none⟩ = some (.pointer (some ⟨b, 0, none⟩)) := by rw [cell_of_row w b 0 _ _ _ hb]; rfl
  obtain ⟨j, hj, hj0⟩ := builder_size
  have hne : ∀ u : World, (binOp .neq 34 (.pointer (some ⟨b, 0, none⟩)) (.pointer (some ⟨b, 0, none⟩))).run Try.prog u = .ok (.bool false) u := fun u => Lib.run_neq_ptr_same u ⟨b, 0, none⟩ Try.underlying34 hj
  clear hb hj hj0
  go_enter Try.func60, Try.ntmps60
  go_wp2
  go_end0
  exact ⟨rfl, rfl⟩
theorem copyCheck_fresh (b : Nat) (v : Value) (w : World) (hb : w.heap[b]? = some (.cells #[.pointer none, v] 36 (0, 0))) :
    Calls Try.prog 60 #[.pointer (some ⟨b, 0, none⟩)] w fun e w' => e = .returned (.tuple #[]) ∧ w' = w.setCell ⟨b, 0, none⟩ (.pointer (some ⟨b, 0, none⟩)) := by
  have c0 : w.cell? ⟨b, 0, none⟩ = some (.pointer none) := by rw [cell_of_row w b 0 _ _ _ hb]; rfl
  have f0 : w.frozen? ⟨b, 0, none⟩ = false := frozen_of_row w b 0 _ _ hb
  obtain ⟨j, hj, hj0⟩ := builder_size
  have hsh : w.shape? b = some (36, 2) := by simp [World.shape?, hb]
  have hne : ∀ u : World, (binOp .neq 34 (.pointer (some ⟨b, 0, none⟩)) (.pointer (some ⟨b, 0, none⟩))).run Try.prog u = .ok (.bool false) u := fun u => Lib.run_neq_ptr_same u ⟨b, 0, none⟩ Try.underlying34 hj
  have h1 := Lib.run_to_unsafe (P := Try.prog) w ⟨b, 0, none⟩ Try.underlying34 Try.underlying59 hj hj0 hsh (by simp)
  have h2 := Lib.run_from_unsafe (P := Try.prog) w ⟨b, 0, none⟩ Try.underlying59 Try.underlying34 hj hsh builder_lies
  have h3 := noEscape_run
  clear hb hj hj0 hsh
  go_enter Try.func60, Try.ntmps60
  go_wp2
  go_end0
  exact ⟨rfl, rfl⟩

/-- a row of bytes without a mark -/
def RB (w : World) (B : Nat) (v : Value) (l : List UInt8) : Prop := w.ownsRow B 5 1 v l.length (l.map byteV) ∧ (l = [] → v = .slice none 0 0)
theorem RB.ob {w : World} {B : Nat} {v : Value} {l : List UInt8} (h : RB w B v l) : OB 5 w B v l := by
  obtain ⟨⟨_, h2⟩, _⟩ := h
  rcases h2 with ⟨rfl, hn⟩ | ⟨g, cap, cur, rfl, hb, hg, hnc, hcm, hcs, htake⟩
  · exact .inl ⟨rfl, List.length_eq_zero_iff.1 hn⟩
  · exact .inr ⟨g, cap, cur, (0, 0), rfl, hb, hg, .inl rfl, hnc, hcm, by omega, by simpa using htake⟩
/-- a builder at block b, of the call's own (from B on), holding the bytes l -/
def BU (w : World) (B b : Nat) (l : List UInt8) : Prop :=
  B ≤ b ∧ ∃ p v, w.heap[b]? = some (.cells #[p, v] 36 (0, 0)) ∧ (p = .pointer none ∨ p = .pointer (some ⟨b, 0, none⟩)) ∧ RB w B v l
/-- only block b and rows of bytes have turned -/
def NB (b : Nat) (w w' : World) : Prop := w.heap.size ≤ w'.heap.size ∧ ∀ i, i < w.heap.size → i ≠ b → (∀ cs fz, w.heap[i]? ≠ some (.cells cs 5 fz)) → w'.heap[i]? = w.heap[i]?
theorem NB.refl (b : Nat) (w : World) : NB b w w := ⟨Nat.le_refl _, fun _ _ _ _ => rfl⟩
theorem NB.trans {b : Nat} {a w w' : World} (h : NB b a w) (k : NB b w w') : NB b a w' :=
  ⟨Nat.le_trans h.1 k.1, fun i hi hne hnb => by
    have e := h.2 i hi hne hnb
    rw [k.2 i (Nat.lt_of_lt_of_le hi h.1) hne (by rw [e]; exact hnb), e]⟩
theorem NB.alloc {b : Nat} {a w : World} (h : NB b a w) (o : Obj) : NB b a (w.alloc o) :=
  ⟨Nat.le_trans h.1 (by simp), fun i hi hne hnb => (Below.heap_alloc w o i (Nat.lt_of_lt_of_le hi h.1)).trans (h.2 i hi hne hnb)⟩
theorem NB.drew {b : Nat} {a w : World} (h : NB b a w) : NB b a w.drew := h
theorem NB.setCell {b : Nat} {a w : World} (h : NB b a w) (j : Nat) (u : Value) : NB b a (w.setCell ⟨b, j, none⟩ u) :=
  ⟨by simpa using h.1, fun i hi hne hnb => (Below.heap_setCell w ⟨b, j, none⟩ u i hne).trans (h.2 i hi hne hnb)⟩
/-- an append onto a row of bytes -/
theorem NB.grown {b base : Nat} {a w w' : World} {v : Value} {l : List UInt8} (h : NB b a w) (hown : OB 5 w base v l) (hg : w.grownBy w' v.ownBlock) : NB b a w' :=
  ⟨Nat.le_trans h.1 hg.size, fun i hi hne hnb => by
    have e := h.2 i hi hne hnb
    rw [hg.block i (Nat.lt_of_lt_of_le hi h.1) (fun he => by
      rcases hown with ⟨rfl, _⟩ | ⟨g, cap, cur, fz, rfl, _, hgg, _⟩
      · simp [Value.ownBlock] at he
      · simp [Value.ownBlock] at he
        subst he
        exact hnb cur fz (by rw [← e]; exact hgg)), e]⟩
theorem OB.ne_block {e T : TypeId} {w : World} {base b : Nat} {v : Value} {l : List UInt8} {cs : Array Value} {fr : Nat × Nat} (h : OB e w base v l) (hb : w.heap[b]? = some (.cells cs T fr)) (hT : T ≠ e) : v.ownBlock ≠ some b := by
  rcases h with ⟨rfl, _⟩ | ⟨g, cap, cur, fz, rfl, _, hgg, _⟩
  · simp [Value.ownBlock]
  · intro he
    simp [Value.ownBlock] at he
    subst he
    rw [hgg] at hb
    injection hb with hb
    injection hb with _ ht
    exact hT ht.symm
theorem RB.setCell_far {w : World} {B b j : Nat} {v u : Value} {l : List UInt8} (h : RB w B v l) (hne : v.ownBlock ≠ some b) : RB (w.setCell ⟨b, j, none⟩ u) B v l := by
  obtain ⟨⟨h1, h2⟩, h3⟩ := h
  refine ⟨⟨h1, ?_⟩, h3⟩
  rcases h2 with hn | ⟨g, cap, cur, rfl, hb, hgg, rest⟩
  · exact .inl hn
  · refine .inr ⟨g, cap, cur, rfl, hb, ?_, rest⟩
    rw [Below.heap_setCell w ⟨b, j, none⟩ u g (by intro e; simp only at e; exact hne (by simp [Value.ownBlock, e]))]
    exact hgg
theorem BU.fresh (w : World) : BU (w.alloc (.cells #[.pointer none, .slice none 0 0] 36)) w.heap.size w.heap.size [] :=
  ⟨Nat.le_refl _, _, _, heap_alloc_new w _, .inl rfl, World.ownsRow_nil _ _ _ _, fun _ => rfl⟩
theorem BU.lt {w : World} {B b : Nat} {l : List UInt8} (h : BU w B b l) : b < w.heap.size := by
  obtain ⟨_, p, v, hb, _⟩ := h
  exact (Array.getElem?_eq_some_iff.1 hb).1
/-- behind copyCheck the builder is used -/
theorem copyCheck_any (B b : Nat) (l : List UInt8) (w : World) (h : BU w B b l) :
    Calls Try.prog 60 #[.pointer (some ⟨b, 0, none⟩)] w fun e w' => e = .returned (.tuple #[]) ∧ (∃ v, w'.heap[b]? = some (.cells #[.pointer (some ⟨b, 0, none⟩), v] 36 (0, 0)) ∧ RB w' B v l) ∧ Below B w w' ∧ NB b w w' := by
  obtain ⟨hB, p, v, hb, hp, hown⟩ := h
  rcases hp with rfl | rfl
  · refine (copyCheck_fresh b v w hb).mono ?_
    rintro e w' ⟨rfl, rfl⟩
    exact ⟨rfl, ⟨v, by rw [heap_setCell_same _ _ _ _ _ _ hb]; rfl, hown.setCell_far (hown.ob.ne_block hb (by decide))⟩, (Below.refl _ _).setCell hB _, (NB.refl _ _).setCell _ _⟩
  · refine (copyCheck_used b v w hb).mono ?_
    rintro e w' ⟨rfl, rfl⟩
    exact ⟨rfl, ⟨v, hb, hown⟩, Below.refl _ _, NB.refl _ _⟩
/-- the buffer stored back -/
theorem BU.stored {w1 w1' w2 : World} {B b : Nat} {l l' : List UInt8} {v v' : Value} (hB : B ≤ b) (hb : w1.heap[b]? = some (.cells #[.pointer (some ⟨b, 0, none⟩), v] 36 (0, 0))) (hown : RB w1 B v l)
    (hsz : w1.heap.size ≤ w1'.heap.size) (h11 : w1'.heap[b]? = w1.heap[b]?) (hg : w1'.grownBy w2 v.ownBlock) (hown2 : RB w2 B v' l') :
    w2.heap[b]? = some (.cells #[.pointer (some ⟨b, 0, none⟩), v] 36 (0, 0)) ∧ BU (w2.setCell ⟨b, 1, none⟩ v') B b l' := by
  have hlt : b < w1.heap.size := (Array.getElem?_eq_some_iff.1 hb).1
  have hne := hown.ob.ne_block hb (by decide)
  have h2 : w2.heap[b]? = some (.cells #[.pointer (some ⟨b, 0, none⟩), v] 36 (0, 0)) := by
    rw [hg.block b (by omega) (fun e => hne e.symm), h11]; exact hb
  exact ⟨h2, hB, _, v', by rw [heap_setCell_same _ _ _ _ _ _ h2]; rfl, .inr rfl, hown2.setCell_far (hown2.ob.ne_block h2 (by decide))⟩

theorem byteV_len (l : List UInt8) : (l.map byteV).length = l.length := by simp
theorem RB.alloc {w : World} {B : Nat} {v : Value} {l : List UInt8} (h : RB w B v l) (o : Obj) : RB (w.alloc o) B v l := ⟨h.1.alloc o, h.2⟩
theorem one_cell (w : World) (e : TypeId) (v : Value) : ∀ j u, [v][j]? = some u → (w.alloc (.cells #[v] e)).cell? ((⟨w.heap.size, 0, none⟩ : Addr).add j) = some u := by
  intro j u hu
  match j, hu with
  | 0, hu => simp at hu; subst hu; simp [Addr.add]

set_option maxRecDepth 100000 in
theorem writeByte_any (B b : Nat) (l : List UInt8) (c : UInt8) (w : World) (h : BU w B b l) (hl : l.length + 1 ≤ 140737488355328) (hBw : B ≤ w.heap.size) :
    Calls Try.prog 44 #[.pointer (some ⟨b, 0, none⟩), .int .u8 c.toNat] w fun e w' => e = .returned .nilIface ∧ BU w' B b (l ++ [c]) ∧ Below B w w' ∧ NB b w w' := by
  obtain ⟨i0, hi, hz0, hz1, hz2⟩ := info_parts info_u8
  have HI := Lib.hid hi
  have HZ0 := Lib.hid hz0
  have HZ1 := Lib.hid hz1
  have HZ2 := Lib.hid hz2
  have hB : B ≤ b := h.1
  have H := Lib.hid h
  clear hi hz0 hz1 hz2 h
  go_enter Try.func44, Try.ntmps44
  go_wp2_with fail
  refine (copyCheck_any B b l w H.out).mono ?_
  rintro e w1 ⟨rfl, ⟨v, hb, hown⟩, hbel, hnb⟩
  have c1 : w1.cell? ⟨b, 1, none⟩ = some v := by rw [cell_of_row w1 b 1 _ _ _ hb]; rfl
  have hbl : b < w1.heap.size := (Array.getElem?_eq_some_iff.1 hb).1
  have HBk := Lib.hid hb
  have HO := Lib.hid hown
  have HBel := Lib.hid hbel
  have HNB := Lib.hid hnb
  have hsz := hbel.size
  clear hb hown hbel hnb
  go_wp2_with (at_builtin; refine wpList_append_own _ rfl _ _ 22 rfl B 5 i0 (.int .u8 0) 1 1 Try.underlying22 HI.out HZ0.out HZ1.out HZ2.out rfl (by decide) _ l.length (l.map byteV) rfl (HO.out.1.alloc _) ⟨w1.heap.size, 0, none⟩ 1 1 [.int .u8 c.toNat] rfl rfl (one_cell w1 _ _) (by simp [Value.oneCell']) (by unfold maxLen; omega) (by omega) (by simp; omega) ?_; intro v2 w2 hown2 hg2 hnil2; have hrb : RB w2 B v2 (l ++ [c]) := (⟨by rw [List.length_append, List.map_append]; exact hown2, fun h => by simp at h⟩); have hpos := hrb.ob.pos (by simp); obtain ⟨g, cap, hv2, _⟩ := hpos; rw [List.length_append] at hv2; simp only [List.length_singleton] at hv2; rw [hv2] at hrb ⊢; have HS := Lib.hid (BU.stored hB HBk.out HO.out (by simp) (Below.heap_alloc w1 _ b hbl) hg2 hrb); have c2 : w2.cell? ⟨b, 1, none⟩ = some v := (by rw [cell_of_row w2 b 1 _ _ _ HS.out.1]; rfl); have f2 : w2.frozen? ⟨b, 1, none⟩ = false := frozen_of_row w2 b 1 _ _ HS.out.1; clear hown2 hnil2 hv2 hrb)
  go_ret
  refine ⟨rfl, HS.out.2, ?_, ?_⟩
  · exact ((HBel.out.alloc (by omega) _).grown hg2 (by simp; omega) (fun k hk => (HO.out.ob.lt k hk).1)).setCell hB _
  · exact ((HNB.out.alloc _).grown (HO.out.ob.alloc _) hg2).setCell _ _

set_option maxRecDepth 100000 in
theorem writeString_any (B b : Nat) (l : List UInt8) (s : ByteArray) (w : World) (h : BU w B b l) (hl : l.length + s.size ≤ 140737488355328) (hBw : B ≤ w.heap.size) :
    Calls Try.prog 63 #[.pointer (some ⟨b, 0, none⟩), .string s] w fun e w' => e = .returned (.tuple #[.int .i64 s.size, .nilIface]) ∧ BU w' B b (l ++ s.data.toList) ∧ Below B w w' ∧ NB b w w' := by
  obtain ⟨i0, hi, hz0, hz1, hz2⟩ := info_parts info_u8
  have HI := Lib.hid hi
  have HZ0 := Lib.hid hz0
  have HZ1 := Lib.hid hz1
  have HZ2 := Lib.hid hz2
  have hB : B ≤ b := h.1
  have H := Lib.hid h
  have HSL := Lib.hid (show s.data.toList.length = s.size by simp)
  clear hi hz0 hz1 hz2 h
  go_enter Try.func63, Try.ntmps63
  go_wp2_with fail
  refine (copyCheck_any B b l w H.out).mono ?_
  rintro e w1 ⟨rfl, ⟨v, hb, hown⟩, hbel, hnb⟩
  have c1 : w1.cell? ⟨b, 1, none⟩ = some v := by rw [cell_of_row w1 b 1 _ _ _ hb]; rfl
  have hbl : b < w1.heap.size := (Array.getElem?_eq_some_iff.1 hb).1
  have HBk := Lib.hid hb
  have HO := Lib.hid hown
  have HBel := Lib.hid hbel
  have HNB := Lib.hid hnb
  have hsz := hbel.size
  clear hb hown hbel hnb
  go_wp2_with (at_builtin; refine Lib.wpList_append_own_string _ rfl _ _ 22 9 rfl B 5 i0 Try.underlying22 Try.underlying9 HI.out HZ0.out HZ1.out HZ2.out _ l.length (l.map byteV) rfl HO.out.1 s rfl (by unfold maxLen; omega) hl (by omega) ?_; intro v2 w2 hown2 hg2 hnil2; have hrb : RB w2 B v2 (l ++ s.data.toList) := (⟨by rw [List.length_append, List.map_append, HSL.out]; exact hown2, fun h => (by
    rw [List.append_eq_nil_iff] at h
    exact hnil2.2 ⟨HO.out.2 h.1, by rw [← HSL.out, h.2]; rfl⟩)⟩); have hsh := hrb.ob.shape; obtain ⟨a2, cap2, hv2, _⟩ := hsh; rw [List.length_append, HSL.out] at hv2; rw [hv2] at hrb ⊢; have HS := Lib.hid (BU.stored hB HBk.out HO.out (Nat.le_refl _) rfl hg2 hrb); have c2 : w2.cell? ⟨b, 1, none⟩ = some v := (by rw [cell_of_row w2 b 1 _ _ _ HS.out.1]; rfl); have f2 : w2.frozen? ⟨b, 1, none⟩ = false := frozen_of_row w2 b 1 _ _ HS.out.1; clear hown2 hnil2 hv2 hrb)
  go_ret2
  refine ⟨rfl, HS.out.2, ?_, ?_⟩
  · exact (HBel.out.grown hg2 (by omega) (fun k hk => (HO.out.ob.lt k hk).1)).setCell hB _
  · exact (HNB.out.grown HO.out.ob hg2).setCell _ _
end Go.Proofs.Ytabdejafmhnaaaa
