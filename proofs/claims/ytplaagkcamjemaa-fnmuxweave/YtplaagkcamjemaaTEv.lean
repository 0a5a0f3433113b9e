/- A slice of events of the call's own. -/
import Derived.Test.YtplaagkcamjemaaKitA
import Derived.Maps.AppendAt
import Derived.Deep.RegionWith
import Derived.Deep.RegionHeld3
import Derived.RegionTactic
namespace Go.Proofs.Ytplaagkcamjemaa
open Go.ChangeShapes Go.WideShapes Go.ChangeAt Go.RowKit
/-- what a channel told (its number and its text) -/
structure Ev where
  kind : Int
  text : List UInt8
deriving DecidableEq
theorem zero_event (w : World) : (zeroValue 32).run Try.prog w = .ok (.agg #[.int .i64 0, .string ⟨#[]⟩]) w := by kernel_rfl
theorem below2 (w : World) (a b : Obj) : Below w.heap.size w ((w.alloc a).alloc b) := ((Below.refl _ _).alloc (Nat.le_refl _) _).alloc (by simp) _
def evC (e : Ev) : List Value := [.int .i64 e.kind, .string ⟨e.text.toArray⟩]
def evCs (l : List Ev) : List Value := l.flatMap evC
theorem evCs_len (l : List Ev) : (evCs l).length = l.length * 2 := by
  induction l with
  | nil => rfl
  | cons e l ih => simp only [evCs, List.flatMap_cons, List.length_append, List.length_cons] at ih ⊢; rw [ih]; simp [evC]; omega
theorem evCs_append (a b : List Ev) : evCs (a ++ b) = evCs a ++ evCs b := by simp [evCs]
theorem evCs_one (l : List Ev) : ∀ u ∈ evCs l, u.oneCell' = true := by
  intro u hu
  obtain ⟨e, _, he⟩ := List.mem_flatMap.1 hu
  simp only [evC, List.mem_cons, List.not_mem_nil, or_false] at he
  rcases he with rfl | rfl <;> rfl
theorem evCs_at (l : List Ev) (k : Nat) (h : k < l.length) : (evCs l)[2 * k]? = some (.int .i64 l[k].kind) ∧ (evCs l)[2 * k + 1]? = some (.string ⟨l[k].text.toArray⟩) := by
  induction l generalizing k with
  | nil => simp at h
  | cons e l ih =>
    have e1 : evCs (e :: l) = .int .i64 e.kind :: .string ⟨e.text.toArray⟩ :: evCs l := rfl
    rw [e1]
    cases k with
    | zero => exact ⟨rfl, rfl⟩
    | succ k =>
      have := ih k (by simpa using h)
      rw [show 2 * (k + 1) = 2 * k + 1 + 1 by omega]
      simpa using this
/-- the slice value v owns the events l -/
def OE (w : World) (base : Nat) (v : Value) (l : List Ev) : Prop := w.ownsRow base 32 2 v l.length (evCs l)
theorem info_ev : (Try.prog.info? 32).map (fun i => (i.zero, i.size, i.bytes)) = some (some (.agg #[.int .i64 0, .string ⟨#[]⟩]), 2, 24) := by kernel_rfl
/-- the slice value v reads as the events l, in a block from lo on and below B -/
def RE (w : World) (lo B : Nat) (v : Value) (l : List Ev) : Prop :=
  ∃ a cap, v = .slice a l.length cap ∧ (0 < l.length → ∃ g, a = some ⟨g, 0, none⟩ ∧ lo ≤ g ∧ g < B ∧ ∀ j u, (evCs l)[j]? = some u → w.cell? ⟨g, j, none⟩ = some u)
theorem lit_add (g j : Nat) : (⟨g, 0, none⟩ : Addr).add j = ⟨g, j, none⟩ := by unfold Addr.add; split <;> simp_all
theorem OE.reads {w : World} {base : Nat} {v : Value} {l : List Ev} (h : OE w base v l) : RE w base w.heap.size v l := by
  have hlt := h.lt
  have hcs := @World.ownsRow.cells _ _ _ _ _ _ _ h
  rcases h.2 with ⟨rfl, hn⟩ | ⟨g, cap, cur, rfl, hb, hg, _⟩
  · exact ⟨none, 0, by rw [hn], fun h0 => by omega⟩
  · exact ⟨_, cap, rfl, fun _ => ⟨_, rfl, (hlt g rfl).1, (hlt g rfl).2, fun j u hu => by rw [← lit_add]; exact hcs rfl j u hu⟩⟩
section
variable {w w' : World} {lo lo' B B' : Nat} {v : Value} {l : List Ev}
theorem RE.keep (h : RE w lo B v l) (hk : ∀ p : Addr, lo ≤ p.block → p.block < B → w'.cell? p = w.cell? p) : RE w' lo B v l := by
  obtain ⟨a, cap, hv, h2⟩ := h
  refine ⟨a, cap, hv, fun h0 => ?_⟩
  obtain ⟨x, hx, hl, hB, hc⟩ := h2 h0
  exact ⟨x, hx, hl, hB, fun j u hu => (hk ⟨x, j, none⟩ hl hB).trans (hc j u hu)⟩
theorem RE.below (h : RE w lo B v l) (hb : Below B w w') : RE w' lo B v l := h.keep fun _ _ hp => hb.cell hp
theorem RE.mono (h : RE w lo B v l) (hl : lo' ≤ lo) (hB : B ≤ B') : RE w lo' B' v l := by
  obtain ⟨a, cap, hv, h2⟩ := h
  refine ⟨a, cap, hv, fun h0 => ?_⟩
  obtain ⟨x, hx, hx1, hx2, hc⟩ := h2 h0
  exact ⟨x, hx, by omega, by omega, hc⟩
theorem RE.setCell (h : RE w lo B v l) {p : Addr} (hp : p.block < lo) (u : Value) : RE (w.setCell p u) lo B v l :=
  h.keep fun q hq _ => World.cell?_setCell_other w p q u (fun e => by subst e; omega)
theorem RE.drew (h : RE w lo B v l) : RE w.drew lo B v l := h
end
theorem RE_new (w : World) (ev : Ev) : RE (w.alloc (.cells #[.int .i64 ev.kind, .string ⟨ev.text.toArray⟩] 32)) w.heap.size (w.heap.size + 1) (.slice (some ⟨w.heap.size, 0, none⟩) 1 1) [ev] := by
  refine ⟨_, _, rfl, fun _ => ⟨_, rfl, by simp, by simp, fun j u hu => ?_⟩⟩
  match j, hu with
  | 0, hu => simp [evCs, evC] at hu; subst hu; simp
  | 1, hu => simp [evCs, evC] at hu; subst hu; simp
theorem RE_nil (w : World) (lo B : Nat) : RE w lo B (.slice none 0 0) [] := ⟨none, 0, rfl, fun h => by simp at h⟩
section
variable {P : Program} (w : World)
/-- append of events that are read, nil or not -/
theorem wpList_append_ev {ops : Array Oper} {rest : List Oper} {o : Oper} {a : Act} {Q : Exit → Act → World → Prop} (hgd : o.guard = none) (s x : Operand) (t : TypeId)
    (ho : o.op = .call { callee := .builtin .append, args := #[s, x], argTypes := #[t, t] })
    (base : Nat) (i : TypeInfo) (ht : P.underlying t = some (.slice 32)) (hi : P.info? 32 = some i) (hz : i.zero = some (.agg #[.int .i64 0, .string ⟨#[]⟩]))
    (hsize : i.size = 2) (hby : i.bytes = 24) (v : Value) (l : List Ev) (hs : a.eval s = v) (hown : OE w base v l)
    (lo B : Nat) (v2 : Value) (news : List Ev) (hx : a.eval x = v2) (hr : RE w lo B v2 news) (hlen : l.length + news.length ≤ 1000000000000) (hbase : base ≤ w.heap.size)
    (h : ∀ v' w', OE w' base v' (l ++ news) → w.grownBy w' v.ownBlock → (v'.ownBlock = v.ownBlock ∨ v'.ownBlock = some w.heap.size) → wpList P ops Q rest (a.put o.dst v') w') : wpList P ops Q (o :: rest) a w := by
  refine wpList_plain hgd fun K hK => ?_
  obtain ⟨ad, cap, hv2, hr2⟩ := hr
  have hmain : ∃ v' w', (Builtin.append_ #[t, t] o.type #[v, v2]).run P w = .ok v' w' ∧ OE w' base v' (l ++ news) ∧ w.grownBy w' v.ownBlock ∧ (v'.ownBlock = v.ownBlock ∨ v'.ownBlock = some w.heap.size) := by
    cases ad with
    | some y =>
      have hc : ∀ j u, (evCs news)[j]? = some u → w.cell? (y.add j) = some u := by
        by_cases h0 : 0 < news.length
        · obtain ⟨y', hy, _, _, hc⟩ := hr2 h0
          injection hy with hy
          subst hy
          exact fun j u hu => by rw [lit_add]; exact hc j u hu
        · have hn : news = [] := List.eq_nil_of_length_eq_zero (by omega)
          subst hn
          intro j u hu
          simp [evCs] at hu
      obtain ⟨v', w', r1, r2, r3, _, r5⟩ := run_append_own_at (P := P) w base t o.type 32 i _ 2 24 ht hi hz hsize hby rfl (by omega) v l.length (evCs l) hown y news.length cap (evCs news) (by rw [evCs_len]) hc (evCs_one _) (by unfold maxLen; omega) (by omega) hbase
      refine ⟨v', w', by rw [hv2]; exact r1, ?_, r3, r5⟩
      unfold OE
      rw [List.length_append, evCs_append]
      exact r2
    | none =>
      have hn : news = [] := by
        by_cases h0 : 0 < news.length
        · obtain ⟨y', hy, _⟩ := hr2 h0
          cases hy
        · exact List.eq_nil_of_length_eq_zero (by omega)
      subst hn
      refine ⟨v, w, ?_, by simpa using hown, ⟨rfl, rfl, rfl, Nat.le_refl _, fun _ _ _ => rfl⟩, .inl rfl⟩
      rw [hv2]
      rcases hown.2 with ⟨rfl, hl⟩ | ⟨g, cp, cur, rfl, _, hg, hnc, _, hcs, _⟩
      · simp [Builtin.append_, run_underlying ht, sizeOf, typeInfo, hi, Builtin.lenOf, Builtin.firstCells]
      · simp [Builtin.append_, run_underlying ht, sizeOf, typeInfo, hi, Builtin.lenOf, Builtin.firstCells, hnc, storeCells]
  obtain ⟨v', w', hr, h2, h3, h4⟩ := hmain
  unfold Oper.wp execOp
  simp only [ho, resolve, invoke, builtin, Sem.run_bind, Sem.run_pure, Result.andThen_ok, List.map_toArray, List.map_cons, List.map_nil, hs, hx, hr]
  exact hK _ _ (h v' w' h2 h3 h4)
end
theorem OE.put {W : World} {base : Nat} {v : Value} {l : List Ev} (h : OE W base v l) {p : Addr} (hp : p.block < base) (x : Value) : OE (W.setCell p x) base v l := by
  refine ⟨h.1, ?_⟩
  rcases h.2 with hn | ⟨g, cap, cur, hv, hbg, hg, rest⟩
  · exact .inl hn
  · exact .inr ⟨g, cap, cur, hv, hbg, by rw [Below.heap_setCell _ _ _ _ (by omega)]; exact hg, rest⟩
theorem OE.below {W W' : World} {base : Nat} {v : Value} {l : List Ev} (h : OE W base v l) (hb : Below W.heap.size W W') : OE W' base v l :=
  World.ownsRow.kept h (row := none) ⟨hb.os, hb.tape, hb.output, hb.size, fun g hg _ => hb.block g hg⟩ (by cases v.ownBlock <;> simp)
end Go.Proofs.Ytplaagkcamjemaa
