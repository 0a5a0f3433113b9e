/- append of events behind a guard ('&&'). -/
import Derived.Test.YtekhakapmpdnaaaHdlcE
namespace Go.Proofs.Ytekhakapmpdnaaa
open Go.ChangeShapes Go.WideShapes Go.ChangeAt Go.RowKit
section
variable {P : Program} (w : World)
/-- append of events that are read, nil or not -/
theorem run_append_ev (t ty : TypeId) (base : Nat) (i : TypeInfo) (ht : P.underlying t = some (.slice 42)) (hi : P.info? 42 = some i) (hz : i.zero = some (.agg #[.int .i64 0, .string ⟨#[]⟩]))
    (hsize : i.size = 2) (hby : i.bytes = 24) (v : Value) (l : List Ev) (hown : OE w base v l) (lo B : Nat) (v2 : Value) (news : List Ev) (hr : RE w lo B v2 news) (hlen : l.length + news.length ≤ 1000000000000) (hbase : base ≤ w.heap.size) :
    ∃ v' w', (Builtin.append_ #[t, t] ty #[v, v2]).run P w = .ok v' w' ∧ OE w' base v' (l ++ news) ∧ w.grownBy w' v.ownBlock ∧ (v'.ownBlock = v.ownBlock ∨ v'.ownBlock = some w.heap.size) := by
  obtain ⟨ad, cap, hv2, hr2⟩ := hr
  cases ad with
  | some y =>
    have hc : ∀ j u, (evCs news)[j]? = some u → w.cell? (y.add j) = some u := by
      by_cases h0 : 0 < news.length
      · obtain ⟨y', hy, _, _, hc⟩ := hr2 h0
        injection hy with hy
        subst hy
        exact fun j u hu => by rw [lit_add]; exact hc j u hu
      · have hn : news = [] := List.eq_nil_of_length_eq_zero (by omega)
        subst hn
        intro j u hu
        simp [evCs] at hu
    obtain ⟨v', w', r1, r2, r3, _, r5⟩ := run_append_own_at (P := P) w base t ty 42 i _ 2 24 ht hi hz hsize hby rfl (by omega) v l.length (evCs l) hown y news.length cap (evCs news) (by rw [evCs_len]) hc (evCs_one _) (by unfold maxLen; omega) (by omega) hbase
    refine ⟨v', w', by rw [hv2]; exact r1, ?_, r3, r5⟩
    unfold OE
    rw [List.length_append, evCs_append]
    exact r2
  | none =>
    have hn : news = [] := by
      by_cases h0 : 0 < news.length
      · obtain ⟨y', hy, _⟩ := hr2 h0
        cases hy
      · exact List.eq_nil_of_length_eq_zero (by omega)
    subst hn
    refine ⟨v, w, ?_, by simpa using hown, ⟨rfl, rfl, rfl, Nat.le_refl _, fun _ _ _ => rfl⟩, .inl rfl⟩
    rw [hv2]
    rcases hown.2 with ⟨rfl, hl⟩ | ⟨g, cp, cur, rfl, _, hg, hnc, _, hcs, _⟩
    · simp [Builtin.append_, run_underlying ht, sizeOf, typeInfo, hi, Builtin.lenOf, Builtin.firstCells]
    · simp [Builtin.append_, run_underlying ht, sizeOf, typeInfo, hi, Builtin.lenOf, Builtin.firstCells, hnc, storeCells]
theorem wpList_append_evg {ops : Array Oper} {rest : List Oper} {o : Oper} {a : Act} {Q : Exit → Act → World → Prop} (hw : Region.wanted o (yielded ops a.tmps) = true) (s x : Operand) (t : TypeId)
    (ho : o.op = .call { callee := .builtin .append, args := #[s, x], argTypes := #[t, t] })
    (base : Nat) (i : TypeInfo) (ht : P.underlying t = some (.slice 42)) (hi : P.info? 42 = some i) (hz : i.zero = some (.agg #[.int .i64 0, .string ⟨#[]⟩]))
    (hsize : i.size = 2) (hby : i.bytes = 24) (v : Value) (l : List Ev) (hs : a.eval s = v) (hown : OE w base v l)
    (lo B : Nat) (v2 : Value) (news : List Ev) (hx : a.eval x = v2) (hr : RE w lo B v2 news) (hlen : l.length + news.length ≤ 1000000000000) (hbase : base ≤ w.heap.size)
    (h : ∀ v' w', OE w' base v' (l ++ news) → w.grownBy w' v.ownBlock → (v'.ownBlock = v.ownBlock ∨ v'.ownBlock = some w.heap.size) → wpList P ops Q rest (a.put o.dst v') w') : wpList P ops Q (o :: rest) a w := by
  refine wpList_step fun K hK => ?_
  rw [if_pos hw]
  obtain ⟨v', w', hr, h2, h3, h4⟩ := run_append_ev (P := P) w t o.type base i ht hi hz hsize hby v l hown lo B v2 news hr hlen hbase
  unfold Oper.wp execOp
  simp only [ho, resolve, invoke, builtin, Sem.run_bind, Sem.run_pure, Result.andThen_ok, List.map_toArray, List.map_cons, List.map_nil, hs, hx, hr]
  exact hK _ _ (h v' w' h2 h3 h4)
end
/-- a step of the law: a box g of the finder, its events -/
def FeedAt (w W W' : World) (g : Nat) (p : HS × List Ev) (v : Value) : Prop :=
  W'.heap[g]? = some (.cells #[.bool p.1.inn, .int .i64 p.1.ones, .string ⟨p.1.bits.toArray⟩] 29 (0, 0)) ∧ W.heap.size ≤ g ∧ RE W' W.heap.size W'.heap.size v p.2 ∧ Below W.heap.size W W' ∧ Below w.heap.size w W'
theorem feed_last {w W W3 : World} {p : HS × List Ev} {v : Value} (hw : Below w.heap.size w W) (hb : Below W.drew.heap.size W.drew W3) (ho : OE W3 W.drew.heap.size v p.2) :
    FeedAt w W (W3.alloc (.cells #[.bool p.1.inn, .int .i64 p.1.ones, .string ⟨p.1.bits.toArray⟩] 29)) W3.heap.size p v := by
  have hb2 : Below W.heap.size W W3 := (Below.refl _ W).drew.trans hb
  have hb3 : Below W.heap.size W (W3.alloc (.cells #[.bool p.1.inn, .int .i64 p.1.ones, .string ⟨p.1.bits.toArray⟩] 29)) := hb2.alloc hb2.size _
  exact ⟨heap_alloc_new W3 _, hb2.size, (ho.reads.keep fun q _ hq => World.cell?_alloc_lt W3 _ q hq).mono (Nat.le_refl _) (by simp), hb3, hw.trans (hb3.mono hw.size)⟩
theorem feed_ahead {w W W3 : World} {p : HS × List Ev} {v a b c : Value} (hw : Below w.heap.size w W) (hb : Below (W.drew.alloc (.cells #[a, b, c] 29)).heap.size (W.drew.alloc (.cells #[a, b, c] 29)) W3) (ho : OE W3 (W.drew.alloc (.cells #[a, b, c] 29)).heap.size v p.2) :
    FeedAt w W (((W3.setCell ⟨W.heap.size, 0, none⟩ (.bool p.1.inn)).setCell ⟨W.heap.size, 1, none⟩ (.int .i64 p.1.ones)).setCell ⟨W.heap.size, 2, none⟩ (.string ⟨p.1.bits.toArray⟩)) W.heap.size p v := by
  have hs : (W.drew.alloc (.cells #[a, b, c] 29)).heap.size = W.heap.size + 1 := by simp
  have hb2 : Below W.heap.size W W3 := Below.trans ((Below.refl W.heap.size W).drew.alloc (Nat.le_refl _) _) (hb.mono (by rw [hs]; omega))
  have hb3 : Below W.heap.size W (((W3.setCell ⟨W.heap.size, 0, none⟩ (.bool p.1.inn)).setCell ⟨W.heap.size, 1, none⟩ (.int .i64 p.1.ones)).setCell ⟨W.heap.size, 2, none⟩ (.string ⟨p.1.bits.toArray⟩)) := ((hb2.setCell (Nat.le_refl _) _).setCell (Nat.le_refl _) _).setCell (Nat.le_refl _) _
  have h0 : W3.heap[W.heap.size]? = some (.cells #[a, b, c] 29 (0, 0)) := (hb.block _ (by rw [hs]; omega)).trans (heap_alloc_new W.drew _)
  have hre := ho.reads
  rw [hs] at hre
  have h1 := ((hre.setCell (p := ⟨W.heap.size, 0, none⟩) (by simp) (.bool p.1.inn)).setCell (p := ⟨W.heap.size, 1, none⟩) (by simp) (.int .i64 p.1.ones)).setCell (p := ⟨W.heap.size, 2, none⟩) (by simp) (.string ⟨p.1.bits.toArray⟩)
  refine ⟨?_, Nat.le_refl _, h1.mono (by omega) (by simp), hb3, hw.trans (hb3.mono hw.size)⟩
  rw [setCell_eq_setRow W3 _ 0 _ _ _ _ h0]
  have e1 := setRow_heap W3 W.heap.size _ (#[a, b, c].setIfInBounds 0 (.bool p.1.inn)) _ _ h0
  rw [setCell_eq_setRow _ _ 1 _ _ _ _ e1]
  have e2 := setRow_heap _ W.heap.size _ ((#[a, b, c].setIfInBounds 0 (.bool p.1.inn)).setIfInBounds 1 (.int .i64 p.1.ones)) _ _ e1
  rw [setCell_eq_setRow _ _ 2 _ _ _ _ e2]
  exact setRow_heap _ W.heap.size _ _ _ _ e2
end Go.Proofs.Ytekhakapmpdnaaa
