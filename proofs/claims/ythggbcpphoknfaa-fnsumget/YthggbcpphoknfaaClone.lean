/- strings.Clone: the same bytes; only new memory. -/
import Derived.Test.YthggbcpphoknfaaOwn
import Derived.Lib.UnsafeStr
import Derived.Laws.MakeOwn
namespace Go.Proofs.Ythggbcpphoknfaa
open Go.ChangeShapes Go.WideShapes Go.ChangeAt Go.RowKit
section
variable {P : Program} (w : World)
theorem wpList_copy_string {ops : Array Oper} {rest : List Oper} {o : Oper} {a : Act} {Q : Exit → Act → World → Prop} (hgd : o.guard = none) (d s : Operand) (dT sT : TypeId)
    (ho : o.op = .call { callee := .builtin .copy, args := #[d, s], argTypes := #[dT, sT] }) (e : TypeId) (i : TypeInfo) (hu : P.underlying dT = some (.slice e)) (hi : P.info? e = some i) (hs1 : i.size = 1)
    (g c : Nat) (str : ByteArray) (hd : a.eval d = .slice (some ⟨g, 0, none⟩) str.size c) (hs : a.eval s = .string str) (cur : Array Value) (hg : w.heap[g]? = some (.cells cur e (0, 0))) (hc : cur.size = str.size)
    (h : wpList P ops Q rest (a.put o.dst (.int .i64 str.size)) (w.setRow g (Lib.strCells str).toArray)) : wpList P ops Q (o :: rest) a w := by
  refine wpList_plain hgd fun K hK => ?_
  have hf := Lib.run_firstCells_string (P := P) w 1 str
  have hst := run_storeCells_at P g 0 e (Lib.strCells str) 0 cur w hg (by simp [Lib.strCells_length]; omega) (Lib.strCells_oneCell str)
  have hdrop : cur.toList.drop str.size = [] := by simp; omega
  simp only [Nat.add_zero, Nat.zero_add, Lib.strCells_length, List.take_zero, List.nil_append, hdrop, List.append_nil] at hst
  have hr : (Builtin.copy_ #[dT, sT] o.type #[.slice (some ⟨g, 0, none⟩) str.size c, .string str]).run P w = .ok (.int .i64 str.size) (w.setRow g (Lib.strCells str).toArray) := by
    simp [Builtin.copy_, run_underlying hu, sizeOf, typeInfo, hi, hs1, Builtin.lenOf, hf, hst, goInt]
  unfold Oper.wp execOp
  simp only [ho, resolve, invoke, builtin, Sem.run_bind, Sem.run_pure, Result.andThen_ok, List.map_toArray, List.map_cons, List.map_nil, hs, hd, hr]
  exact hK _ _ h
theorem wpList_unsafeString {ops : Array Oper} {rest : List Oper} {o : Oper} {a : Act} {Q : Exit → Act → World → Prop} (hgd : o.guard = none) (p n : Operand) (pt it : TypeId)
    (ho : o.op = .call { callee := .builtin .unsafeString, args := #[p, n], argTypes := #[pt, it] }) (e : TypeId) (hp : P.underlying pt = some (.pointer e)) (hc : P.cellsOf e = 1) (g : Nat)
    (hpv : a.eval p = .pointer (some ⟨g, 0, none⟩)) (str : ByteArray) (hn : a.eval n = .int .i64 str.size) (h0 : str.size ≠ 0) (h63 : str.size ≤ 9223372036854775807) (hg : w.heap[g]? = some (.cells (Lib.strCells str).toArray e (0, 0)))
    (h : wpList P ops Q rest (a.put o.dst (.string str)) (w.freeze ⟨g, 0, none⟩ str.size)) : wpList P ops Q (o :: rest) a w := by
  refine wpList_plain hgd fun K hK => ?_
  have hl : str.data.toList.length = str.size := by simp
  have hr := Lib.run_unsafeString_row (P := P) w pt it o.type e hp hc g str.size (by simp [World.shape?, hg, Lib.strCells_length]) str.data.toList (by intro h; rw [h] at hl; simp at hl; omega) (by omega) (by omega)
    (fun j x hx => by
      have hadd : (⟨g, 0, none⟩ : Addr).add j = ⟨g, j, none⟩ := by unfold Addr.add; split <;> simp_all
      rw [hadd, cell_of_row w g j _ _ _ hg]
      have hj : j < str.data.toList.length := (List.getElem?_eq_some_iff.1 hx).1
      simp [Lib.strCells, List.getElem?_map, hx])
  rw [hl] at hr
  unfold Oper.wp execOp
  simp only [ho, resolve, invoke, builtin, Sem.run_bind, Sem.run_pure, Result.andThen_ok, List.map_toArray, List.map_cons, List.map_nil, hpv, hn, hr]
  exact hK _ _ h
end
theorem info_u8' : (Try.prog.info? 5).map (fun i => (i.zero, i.size, i.bytes)) = some (some (.int .u8 0), 1, 1) := by kernel_rfl
theorem cells_u8 : Try.prog.cellsOf 5 = 1 := by kernel_rfl

set_option maxRecDepth 100000 in
theorem lite_clone (s : ByteArray) (w : World) (hs : s.size ≤ 281474976710656) :
    Calls Try.prog 52 #[.string s] w fun e w' => e = .returned (.string s) ∧ Below w.heap.size w w' := by
  obtain ⟨i0, hi, hz0, hz1, hz2⟩ := info_parts info_u8'
  by_cases h0 : s.size = 0
  · have hb : (((s.size : Nat) : Int) == 0) = true := by simp [h0]
    have he : s = ⟨#[]⟩ := by cases s with | mk d => have : d.size = 0 := h0; simp [Array.eq_empty_of_size_eq_zero this]
    clear hi hz0 hz1 hz2
    subst he
    clear h0 hb
    go_enter Try.func52, Try.ntmps52
    go_wp2
    go_ret
    exact ⟨rfl, Below.refl _ _⟩
  · have hb : (((s.size : Nat) : Int) == 0) = false := beq_eq_false_iff_ne.2 (by omega)
    have hmk : ∀ u : World, (Instr.makeSlice 22 (.int .i64 (s.size : Int)) (.int .i64 (s.size : Int))).run Try.prog u = .ok (.slice (some ⟨u.heap.size, 0, none⟩) s.size s.size) (u.alloc (.cells (madeCells #[.int .u8 0] s.size) 5)) := fun u => by
      have h := run_make (P := Try.prog) u 22 5 i0 (.int .u8 0) Try.underlying22 hi hz0 .i64 .i64 (s.size : Int) (s.size : Int) (by omega) (Int.le_refl _) (by rw [hz2]; omega) (by omega)
      simpa [hz1, Value.cells] using h
    have hm : (madeCells #[Value.int .u8 0] s.size).size = s.size := by
      have := congrArg List.length (toList_madeCells_one (.int .u8 0) s.size)
      simpa using this
    have H2 := Lib.hid (heap_alloc_new w (.cells (madeCells #[.int .u8 0] s.size) 5))
    have H3 := Lib.hid (setRow_heap _ _ _ (Lib.strCells s).toArray _ _ H2.out)
    have HB : Hid (Below w.heap.size w ((((w.alloc (.cells (madeCells #[.int .u8 0] s.size) 5)).setRow w.heap.size (Lib.strCells s).toArray)).freeze ⟨w.heap.size, 0, none⟩ s.size)) :=
      Lib.below_freeze (below_setRow (((Below.refl _ w).alloc (Nat.le_refl _) _)) (Nat.le_refl _) _) (Nat.le_refl _) _
    have HM := Lib.hid hm
    have HI := Lib.hid hi
    have HZ1 := Lib.hid hz1
    clear hi hz0 hz1 hz2 hm
    have hp : (0 : Int) < (s.size : Int) := by omega
    go_enter Try.func52, Try.ntmps52
    go_wp2_with (first | (refine wpList_copy_string _ rfl _ _ 22 9 rfl 5 i0 Try.underlying22 HI.out HZ1.out w.heap.size s.size s rfl rfl _ H2.out HM.out ?_) | (refine wpList_unsafeString _ rfl _ _ 62 3 rfl 5 Try.underlying62 cells_u8 w.heap.size rfl s rfl h0 (by omega) H3.out ?_))
    go_ret
    exact ⟨rfl, HB.out⟩
theorem clone_any (s : ByteArray) (w : World) (hs : s.size ≤ 281474976710656) :
    Calls Try.prog 46 #[.string s] w fun e w' => e = .returned (.string s) ∧ Below w.heap.size w w' := by
  go_enter Try.func46, Try.ntmps46
  go_wp2_with (go_at_call 52; refine (lite_clone _ _ hs).mono ?_; rintro e w' ⟨rfl, hb⟩)
  go_ret
  exact ⟨rfl, hb⟩
end Go.Proofs.Ythggbcpphoknfaa
