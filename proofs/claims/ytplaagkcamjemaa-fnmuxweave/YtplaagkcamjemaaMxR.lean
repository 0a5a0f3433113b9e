/- Slices of strings that are read, with room behind; cut. -/
import Derived.Test.YtplaagkcamjemaaMxN
import Derived.Test.YtplaagkcamjemaaKitA
import Derived.Deep.RegionHeld3
namespace Go.Proofs.Ytplaagkcamjemaa
open Go.ChangeShapes Go.WideShapes Go.ChangeAt Go.RowKit
/-- read, with room behind: below B -/
def RC (w : World) (B : Nat) (v : Value) (ss : List ByteArray) : Prop :=
  ∃ a cap, v = .slice a ss.length cap ∧ ss.length ≤ cap ∧ (0 < ss.length → ∃ x : Addr, a = some x ∧ x.block < B ∧ ∀ j (h : j < ss.length), w.cell? (x.add j) = some (.string ss[j]))
section
variable {w w' : World} {B : Nat} {v : Value} {ss : List ByteArray}
theorem RC.below (h : RC w B v ss) (hb : Below B w w') : RC w' B v ss := by
  obtain ⟨a, cap, hv, hc, h2⟩ := h
  refine ⟨a, cap, hv, hc, fun h0 => ?_⟩
  obtain ⟨x, hx, hB, hc⟩ := h2 h0
  exact ⟨x, hx, hB, fun j hj => (hb.cell (p := x.add j) (by rw [add_block]; exact hB)).trans (hc j hj)⟩
theorem RC.of_own {base : Nat} (h : OS w base v ss) : RC w w.heap.size v ss := by
  obtain ⟨a, cap, hv, h2⟩ := h.reads
  refine ⟨a, cap, hv, ?_, h2⟩
  rcases h.2 with ⟨e, h0⟩ | ⟨g, cp, cur, e, _, _, h1, _⟩
  · rw [h0]; exact Nat.zero_le _
  · rw [hv] at e
    injection e with _ _ e
    rw [e]; exact h1
theorem RC.shape (h : RC w B v ss) : ∃ a cap, v = .slice a ss.length cap ∧ ss.length ≤ cap := by
  obtain ⟨a, cap, hv, hc, _⟩ := h
  exact ⟨a, cap, hv, hc⟩
theorem RC.head {s : ByteArray} {a : Option Addr} {n cap : Nat} (h : RC w B (.slice a n cap) (s :: ss)) : ∃ x : Addr, a = some x ∧ x.block < B ∧ w.cell? x = some (.string s) := by
  obtain ⟨a', cap', hv, hc, h2⟩ := h
  injection hv with h1 _ _
  subst h1
  obtain ⟨x, hx, hB, hcs⟩ := h2 (by simp)
  have c0 := hcs 0 (by simp)
  have e0 : x.add 0 = x := by cases x; unfold Addr.add; split <;> simp_all
  rw [e0] at c0
  exact ⟨x, hx, hB, c0⟩
theorem RC.tail {s : ByteArray} {x : Addr} {n cap : Nat} (h : RC w B (.slice (some x) n cap) (s :: ss)) : RC w B (sliced (some x) 1 n cap 1) ss := by
  obtain ⟨a', cap', hv, hc, h2⟩ := h
  injection hv with h1 h3 h4
  subst h1 h3 h4
  obtain ⟨x', hx, hB, hcs⟩ := h2 (by simp)
  cases hx
  have c0 := hcs 0 (by simp)
  have hs : x.spot = none := by
    have := World.cell?_spot c0
    revert this
    cases x; unfold Addr.add; split <;> simp_all
  obtain ⟨b, o, sp⟩ := x
  simp only at hs
  subst hs
  have hadd : ∀ (o j : Nat), (⟨b, o, none⟩ : Addr).add j = ⟨b, o + j, none⟩ := by intro o j; unfold Addr.add; split <;> simp_all
  have hl : (s :: ss).length = ss.length + 1 := rfl
  rw [hl] at hc ⊢
  refine ⟨if cap = 1 then some ⟨b, o, none⟩ else some ⟨b, o + 1, none⟩, cap - 1, ?_, by omega, fun h0 => ?_⟩
  · unfold sliced
    by_cases h1 : cap = 1
    · rw [if_pos h1, if_pos h1]; simp
    · rw [if_neg h1, if_neg h1]; simp [hadd]
  · rw [if_neg (by omega)]
    refine ⟨⟨b, o + 1, none⟩, rfl, hB, fun j hj => ?_⟩
    have := hcs (j + 1) (by simp; omega)
    rw [hadd] at this ⊢
    rw [show o + 1 + j = o + (j + 1) by omega]
    simpa using this
end
theorem opwp_append_os2 {P : Program} {w : World} {o : Oper} {a : Act} {K : Act → World → Prop} {Q : Exit → Act → World → Prop} (s x : Operand) (t : TypeId)
    (ho : o.op = .call { callee := .builtin .append, args := #[s, x], argTypes := #[t, t] })
    (base : Nat) (i : TypeInfo) (ht : P.underlying t = some (.slice 9)) (hi : P.info? 9 = some i) (hz : i.zero = some (.string ⟨#[]⟩))
    (hsize : i.size = 1) (hby : i.bytes = 16) (v : Value) (l : List ByteArray) (hs : a.eval s = v) (hown : OS w base v l)
    (B : Nat) (v2 : Value) (news : List ByteArray) (hx : a.eval x = v2) (hr : RS w B v2 news) (hlen : l.length + news.length ≤ 1000000000000) (hbase : base ≤ w.heap.size)
    (h : ∀ v' w', OS w' base v' (l ++ news) → w.grownBy w' v.ownBlock → K (a.put o.dst v') w') : Oper.wp P o a w K Q := by
  obtain ⟨v', w', hr, h2, h3, h4⟩ := run_append_os (P := P) w base t o.type i ht hi hz hsize hby v l hown B v2 news hr hlen hbase
  unfold Oper.wp execOp
  simp only [ho, resolve, invoke, builtin, Sem.run_bind, Sem.run_pure, Result.andThen_ok, List.map_toArray, List.map_cons, List.map_nil, hs, hx, hr]
  exact h v' w' h2 h3
theorem slice_one (u : World) (x : Addr) (n c : Nat) (hn : 1 ≤ n) : (Instr.slice 25 (.slice (some x) n c) (some (.int .i64 1)) none none).run Try.prog u = .ok (sliced (some x) 1 n c 1) u := by
  have he : Try.prog.elem 25 = 9 := by kernel_rfl
  obtain ⟨i0, hi, hz0, hz1, hz2⟩ := info_parts info_str
  rw [run_slice_l u 25 (some x) n c (by rw [he]; exact Try.underlying25) .i64 1 (by omega) (by omega)]
  simp [sizeOf, typeInfo, he, hi, hz1]
theorem add_zero (x : Addr) (h : x.spot = none) : x.add 0 = x := by
  obtain ⟨b, o, sp⟩ := x
  simp only at h
  subst h
  unfold Addr.add; split <;> simp_all
/-- the first k of a slice -/
theorem slice_to (u : World) (a : Option Addr) (n c k : Nat) (ha : ∀ x, a = some x → x.spot = none) (hk : k ≤ c) : (Instr.slice 25 (.slice a n c) none (some (.int .i64 (k : Int))) none).run Try.prog u = .ok (.slice a k c) u := by
  have he : Try.prog.elem 25 = 9 := by kernel_rfl
  obtain ⟨i0, hi, hz0, hz1, hz2⟩ := info_parts info_str
  rw [run_slice_h u 25 a n c (by rw [he]; exact Try.underlying25) .i64 (k : Int) (by omega) (by omega)]
  simp [sizeOf, typeInfo, he, hi, hz1, sliced]
  cases a with
  | none => simp
  | some x => simp [add_zero x (ha x rfl)]
theorem slice_toE (u : World) (a : Option Addr) (n c k : Nat) (ha : ∀ x, a = some x → x.spot = none) (hk : k ≤ c) : (Instr.slice 29 (.slice a n c) none (some (.int .i64 (k : Int))) none).run Try.prog u = .ok (.slice a k c) u := by
  have he : Try.prog.elem 29 = 32 := by kernel_rfl
  obtain ⟨i0, hi, hz0, hz1, hz2⟩ := info_parts info_ev
  rw [run_slice_h u 29 a n c (by rw [he]; exact Try.underlying29) .i64 (k : Int) (by omega) (by omega)]
  simp [sizeOf, typeInfo, he, hi, hz1, sliced]
  cases a with
  | none => simp
  | some x => simp [add_zero x (ha x rfl)]
theorem RS.take {w : World} {B : Nat} {a : Option Addr} {n cap : Nat} {ss : List ByteArray} (h : RS w B (.slice a n cap) ss) (k : Nat) (hk : k ≤ ss.length) : RS w B (.slice a k cap) (ss.take k) := by
  obtain ⟨a', cap', hv, h2⟩ := h
  injection hv with h1 h3 h4
  subst h1 h3 h4
  have hl : (ss.take k).length = k := by rw [List.length_take]; omega
  refine ⟨a, cap, by rw [hl], fun h0 => ?_⟩
  obtain ⟨x, hx, hB, hc⟩ := h2 (by omega)
  exact ⟨x, hx, hB, fun j hj => by rw [hc j (by omega)]; simp [List.getElem_take]⟩
theorem RE.take {w : World} {lo B : Nat} {a : Option Addr} {n cap : Nat} {l : List Ev} (h : RE w lo B (.slice a n cap) l) (k : Nat) (hk : k ≤ l.length) : RE w lo B (.slice a k cap) (l.take k) := by
  obtain ⟨a', cap', hv, h2⟩ := h
  injection hv with h1 h3 h4
  subst h1 h3 h4
  have hl : (l.take k).length = k := by rw [List.length_take]; omega
  refine ⟨a, cap, by rw [hl], fun h0 => ?_⟩
  obtain ⟨g, hx, h5, h6, hc⟩ := h2 (by omega)
  refine ⟨g, hx, h5, h6, fun j u hu => hc j u ?_⟩
  have e : evCs l = evCs (l.take k) ++ evCs (l.drop k) := by rw [← evCs_append, List.take_append_drop]
  rw [e, List.getElem?_append_left (by
    rcases Nat.lt_or_ge j (evCs (l.take k)).length with h | h
    · exact h
    · rw [List.getElem?_eq_none h] at hu; cases hu)]
  exact hu
theorem RC.plain {w : World} {B : Nat} {a : Option Addr} {n cap : Nat} {ss : List ByteArray} (h : RC w B (.slice a n cap) ss) (h0 : 0 < ss.length) : ∀ x, a = some x → x.spot = none := by
  obtain ⟨a', cap', hv, hc, h2⟩ := h
  injection hv with h1 h3 h4
  subst h1
  intro x hx
  obtain ⟨x', hx', _, hcs⟩ := h2 h0
  rw [hx] at hx'
  cases hx'
  have := World.cell?_spot (hcs 0 h0)
  revert this
  cases x; unfold Addr.add; split <;> simp_all
theorem RC.reads {w : World} {B : Nat} {v : Value} {ss : List ByteArray} (h : RC w B v ss) : RS w B v ss := by
  obtain ⟨a, cap, hv, _, h2⟩ := h
  refine ⟨a, cap, hv, fun h0 => ?_⟩
  obtain ⟨x, hx, hB, hc⟩ := h2 h0
  exact ⟨x, hx, hB, hc⟩
/-- a slice of strings that is read, with room behind, at an address that can be cut at -/
def RP (w : World) (B : Nat) (v : Value) (ss : List ByteArray) : Prop := RC w B v ss ∧ ∃ a cap, v = .slice a ss.length cap ∧ ss.length ≤ cap ∧ ∀ x, a = some x → x.spot = none
theorem RP.of_own {w : World} {base : Nat} {v : Value} {ss : List ByteArray} (h : OS w base v ss) : RP w w.heap.size v ss := by
  refine ⟨RC.of_own h, ?_⟩
  rcases h.2 with ⟨rfl, h0⟩ | ⟨g, cap, cur, rfl, _, _, h1, _⟩
  · exact ⟨none, 0, by rw [h0], by omega, fun x hx => by cases hx⟩
  · exact ⟨_, cap, rfl, h1, fun x hx => by cases hx; rfl⟩
theorem RP.below {w w' : World} {B : Nat} {v : Value} {ss : List ByteArray} (h : RP w B v ss) (hb : Below B w w') : RP w' B v ss := ⟨h.1.below hb, h.2⟩
theorem RP.tail {w : World} {B : Nat} {v : Value} {s : ByteArray} {ss : List ByteArray} (h : RP w B v (s :: ss)) : ∃ x cap, v = .slice (some x) (ss.length + 1) cap ∧ x.spot = none ∧ RP w B (sliced (some x) 1 (ss.length + 1) cap 1) ss := by
  obtain ⟨hc, a, cap, rfl, hl, hp⟩ := h
  obtain ⟨x, rfl, _, _⟩ := hc.head
  refine ⟨x, cap, rfl, hp x rfl, hc.tail, ?_⟩
  have hx := hp x rfl
  obtain ⟨b, o, sp⟩ := x
  simp only at hx
  subst hx
  have hadd : (⟨b, o, none⟩ : Addr).add 1 = ⟨b, o + 1, none⟩ := by unfold Addr.add; split <;> simp_all
  have hl2 : (s :: ss).length = ss.length + 1 := rfl
  rw [hl2] at hl
  refine ⟨if cap = 1 then some ⟨b, o, none⟩ else some ⟨b, o + 1, none⟩, cap - 1, ?_, by omega, fun x hx => ?_⟩
  · unfold sliced
    by_cases h1 : cap = 1
    · rw [if_pos h1, if_pos h1]; simp
    · rw [if_neg h1, if_neg h1]; simp [hadd]
  · by_cases h1 : cap = 1
    · rw [if_pos h1] at hx; cases hx; rfl
    · rw [if_neg h1] at hx; cases hx; rfl
end Go.Proofs.Ytplaagkcamjemaa
