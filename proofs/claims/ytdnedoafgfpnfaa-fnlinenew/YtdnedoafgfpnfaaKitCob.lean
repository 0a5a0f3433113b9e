/- The blocks that bytes are cut into: plainly, and in the program. -/
import Derived.Test.YtdnedoafgfpnfaaIdx
import Derived.Test.YtdnedoafgfpnfaaKitBits
import Derived.RegionTactic
import Derived.RangeFuncNested
import Derived.RangeFuncBound
import Derived.RangeFuncCalls
import Derived.RangeFuncLeaves
import Derived.RangeFuncBox
import Derived.RangeFuncWrites
import Derived.Shelf.Abstract
import Derived.Shelf.RegionOpen
import Derived.OwnWalkIn
import Derived.TacticsInMore
import Derived.LoopNIn
import Derived.LoopIn
import Derived.Laws.EntriesVeiled
import Derived.Test.YtdnedoafgfpnfaaKitA
import Derived.Lib.AppendStr
import Derived.Maps.AppendAt
namespace Go.Proofs.Ytdnedoafgfpnfaa
open Go.ChangeShapes Go.WideShapes Go.ChangeAt Go.RowKit
/-- how many bytes the first block has -/
def blkN (l : List UInt8) : Nat := ((l.take 254).takeWhile (· != 0)).length
/-- how many bytes are done with the first block -/
def stepN (l : List UInt8) : Nat := if blkN l < 254 then blkN l + 1 else blkN l
theorem takeWhile_le (p : UInt8 → Bool) (l : List UInt8) : (l.takeWhile p).length ≤ l.length := (List.takeWhile_prefix p).length_le
theorem blkN_le (l : List UInt8) : blkN l ≤ 254 ∧ blkN l ≤ l.length := by
  have h := takeWhile_le (· != 0) (l.take 254)
  rw [List.length_take] at h
  unfold blkN
  omega
theorem stepN_pos (l : List UInt8) : 1 ≤ stepN l := by
  have := blkN_le l
  unfold stepN; split <;> omega
/-- the blocks' bytes, one by one -/
def pcs (l : List UInt8) : List (List UInt8) := l.take (blkN l) :: if blkN l < l.length then pcs (l.drop (stepN l)) else []
termination_by l.length
decreasing_by
  have := stepN_pos l
  simp only [List.length_drop]; omega
def putB (p : List UInt8) : List UInt8 := UInt8.ofNat (p.length + 1) :: p
def cob (l : List UInt8) : List UInt8 := (pcs l).flatMap putB
theorem pcs_last {l : List UInt8} (h : l.length ≤ blkN l) : pcs l = [l] := by
  rw [pcs, if_neg (by omega), List.take_of_length_le h]
theorem pcs_more {l : List UInt8} (h : blkN l < l.length) : pcs l = l.take (blkN l) :: pcs (l.drop (stepN l)) := by
  rw [pcs, if_pos h]
theorem cob_last {l : List UInt8} (h : l.length ≤ blkN l) : cob l = putB l := by rw [cob, pcs_last h]; simp
theorem cob_more {l : List UInt8} (h : blkN l < l.length) : cob l = putB (l.take (blkN l)) ++ cob (l.drop (stepN l)) := by rw [cob, pcs_more h]; simp [cob]
theorem pcs_le (l : List UInt8) : (pcs l).length ≤ l.length + 1 := by
  induction hn : l.length using Nat.strongRecOn generalizing l with
  | _ n ih =>
    by_cases h : blkN l < l.length
    · rw [pcs_more h]
      have h1 := stepN_pos l
      have h2 := ih (l.drop (stepN l)).length (by rw [List.length_drop]; omega) _ rfl
      rw [List.length_drop] at h2
      simp only [List.length_cons]; omega
    · rw [pcs_last (by omega)]; simp
/-- what lies at the end of a block: a nought, where it is not full, and not the last -/
theorem idx_takeWhile (l : List UInt8) : Lib.indexByte l 0 = if (l.takeWhile (· != 0)).length < l.length then ((l.takeWhile (· != 0)).length : Int) else -1 := by
  induction l with
  | nil => rfl
  | cons b l ih =>
    by_cases hb : b = 0
    · subst hb; simp [Lib.indexByte]
    · have h1 : (b == 0) = false := beq_eq_false_iff_ne.2 hb
      have h2 : (b != 0) = true := by simp [hb]
      rw [Lib.indexByte, h1, List.takeWhile_cons, if_pos h2, ih]
      simp only [List.length_cons, Nat.add_lt_add_iff_right, Bool.false_eq_true, if_false]
      split
      · have : (((l.takeWhile (· != 0)).length : Int) == -1) = false := beq_eq_false_iff_ne.2 (by omega)
        rw [this]; simp
      · rfl
theorem idx_blk (l : List UInt8) : Lib.indexByte (l.take 254) 0 = if blkN l < 254 ∧ blkN l < l.length then (blkN l : Int) else -1 := by
  rw [idx_takeWhile, List.length_take]
  show (if blkN l < min 254 l.length then _ else _) = _
  congr 1
  simp only [eq_iff_iff]
  omega
theorem ext_to (s : ByteArray) (k : Nat) : s.extract 0 k = ⟨(s.data.toList.take k).toArray⟩ := by
  rw [← Lib.mk_data (s.extract 0 k)]; congr 2; simp
theorem ext_from (s : ByteArray) (k : Nat) : s.extract k s.size = ⟨(s.data.toList.drop k).toArray⟩ := by
  rw [← Lib.mk_data (s.extract k s.size)]; congr 2; simp [List.take_of_length_le]
theorem ext_full (s : ByteArray) : s.extract 0 s.size = s := by
  rw [ext_to, List.take_of_length_le (by simp), Lib.mk_data]
theorem ext_none (s : ByteArray) : s.extract s.size s.size = ByteArray.empty := by
  rw [ext_from, List.drop_eq_nil_of_le (by simp)]; rfl
theorem slice_to (s : ByteArray) (k : Nat) (hk : k ≤ s.size) (u : World) : (Instr.slice 9 (.string s) none (some (.int .i64 (k : Int))) none).run Try.prog u = .ok (.string (s.extract 0 k)) u := by
  rw [run_slice_string_to_if u 9 s .i64 (k : Int) Try.underlying9]
  simp; omega
theorem slice_from (s : ByteArray) (k : Nat) (hk : k ≤ s.size) (u : World) : (Instr.slice 9 (.string s) (some (.int .i64 (k : Int))) none none).run Try.prog u = .ok (.string (s.extract k s.size)) u := by
  rw [run_slice_string_from_if u 9 s .i64 (k : Int) Try.underlying9]
  simp; omega
end Go.Proofs.Ytdnedoafgfpnfaa
/- The iterator over the blocks' bytes: its contract. -/
namespace Go.Proofs.Ytdnedoafgfpnfaa
open Go.ChangeShapes Go.WideShapes Go.ChangeAt Go.RowKit Go.Shelf
attribute [local go_sem] Oper.semAt_some
abbrev Pc := { l : List UInt8 // l.length ≤ 254 }
theorem pcs_mem {l p : List UInt8} (h : p ∈ pcs l) : p.length ≤ 254 := by
  induction hn : l.length using Nat.strongRecOn generalizing l with
  | _ n ih =>
    have hb := blkN_le l
    by_cases hm : blkN l < l.length
    · rw [pcs_more hm, List.mem_cons] at h
      rcases h with h | h
      · subst h; rw [List.length_take]; omega
      · have := stepN_pos l
        exact ih (l.drop (stepN l)).length (by rw [List.length_drop]; omega) h rfl
    · rw [pcs_last (by omega), List.mem_singleton] at h
      subst h; omega
def pcsP (l : List UInt8) : List Pc := (pcs l).attachWith (fun p => p.length ≤ 254) (fun _ h => pcs_mem h)
theorem pcsP_val (l : List UInt8) : (pcsP l).map (·.1) = pcs l := by simp [pcsP]
theorem pcsP_len (l : List UInt8) : (pcsP l).length = (pcs l).length := by simp [pcsP]
end Go.Proofs.Ytdnedoafgfpnfaa
/- The blocks written one behind the other, in the program. -/
namespace Go.Proofs.Ytdnedoafgfpnfaa
open Go.ChangeShapes Go.WideShapes Go.ChangeAt Go.RowKit Go.Shelf
attribute [local go_sem] Oper.semAt_some
theorem wpListIn_append_str {F : Fence} {n : Nat} {P : Program} (w : World) {ops : Array Oper} {rest : List Oper} {o : Oper} {a : Act} {Q : Exit → Act → World → Prop} (hg : o.guard = none) (sl x : Operand) (t u : TypeId)
    (hop : o.op = .call { callee := .builtin .append, args := #[sl, x], argTypes := #[t, u] })
    (base : Nat) (e : TypeId) (i : TypeInfo) (ht : P.underlying t = some (.slice e)) (hu : P.underlying u = some .string) (hi : P.info? e = some i) (hz : i.zero = some (.int .u8 0)) (hsize : i.size = 1) (hby : i.bytes = 1)
    (v : Value) (k : Nat) (xs : List Value) (hs : a.eval sl = v) (hown : w.ownsRow base e 1 v k xs) (s : ByteArray) (hx : a.eval x = .string s) (hb : k + s.size ≤ 1000000) (hbase : base ≤ w.heap.size)
    (hK : ∀ v' w', w'.ownsRow base e 1 v' (k + s.size) (xs ++ Lib.strCells s) → w.grownBy w' v.ownBlock → (v' = .slice none 0 0 ↔ v = .slice none 0 0 ∧ s.size = 0) → wpListIn F n P ops Q rest (a.put o.dst v') w') :
    wpListIn F n P ops Q (o :: rest) a w := by
  refine wpListIn_plain hg fun K hK' => ?_
  obtain ⟨v', w', hrun, r1, r2, r3⟩ := Lib.run_append_own_string (P := P) (w := w) base t u o.type e i ht hu hi hz hsize hby v k xs hown s (by unfold maxLen; omega) (by omega) hbase
  unfold Oper.wpIn
  refine ⟨by simp [Oper.about, hop, resolve, Target.leads, Sem.run_pure], ?_⟩
  rw [Oper.semAt_plain F _ _ (by rw [hop]; intro c hc'; cases hc')]
  simp [execOp, hop, resolve, invoke, builtin, hs, hx, hrun, Result.andThen]
  exact hK' _ _ (hK v' w' r1 r2 r3)
/-- behind an append onto the row that a box holds, and the store of what came into that box -/
theorem app_store {W w1 : World} {n0 b : Nat} {v v' : Value} {k m : Nat} {xs ys : List Value} (hv : Boxed W b 22 v) (hrow : W.ownsRow n0 5 1 v k xs) (hn0 : n0 ≤ W.heap.size) (hB : n0 ≤ b)
    (hown' : w1.ownsRow n0 5 1 v' m ys) (hgrow : W.grownBy w1 v.ownBlock) :
    Boxed w1 b 22 v ∧ Boxed (w1.setCell ⟨b, 0, none⟩ v') b 22 v' ∧ (w1.setCell ⟨b, 0, none⟩ v').ownsRow n0 5 1 v' m ys ∧ KeepsOthers W (w1.setCell ⟨b, 0, none⟩ v') ∧ Below n0 W (w1.setCell ⟨b, 0, none⟩ v') ∧
      (∀ c t u, t ≠ 5 → c ≠ b → Boxed W c t u → Boxed (w1.setCell ⟨b, 0, none⟩ v') c t u) := by
  have hv1 : Boxed w1 b 22 v := hv.kept hgrow (hv.not_row (by decide) hrow)
  refine ⟨hv1, hv1.set v', hown'.kept (grownBy_setCell' w1 b v') (.inr (hv1.not_row (by decide) hown').symm), ?_, ?_, ?_⟩
  · refine (KeepsOthers.of_grownBy hgrow fun j o ej hj => ?_).trans (KeepsOthers.setCell _ _ _)
    rcases hrow.2 with ⟨rfl, _⟩ | ⟨g, cap, cur, rfl, _, hgb, _⟩
    · simp [Value.ownBlock] at ej
    · obtain rfl : g = j := by simpa [Value.ownBlock] using ej
      rw [hgb] at hj; cases hj; rfl
  · refine ((Below.refl n0 W).grown hgrow hn0 fun j ej => ?_).setCell (p := ⟨b, 0, none⟩) hB v'
    rcases hrow.2 with ⟨rfl, _⟩ | ⟨g, cap, cur, rfl, hb, _, _⟩
    · simp [Value.ownBlock] at ej
    · obtain rfl : g = j := by simpa [Value.ownBlock] using ej
      exact hb
  · intro c t u ht hc hbx
    exact (hbx.kept hgrow (hbx.not_row ht hrow)).kept (grownBy_setCell' w1 b v') (by simpa using hc)
theorem ownsRow_pos {W : World} {base : Nat} {e : TypeId} {size : Nat} {v : Value} {k : Nat} {xs : List Value} (h : W.ownsRow base e size v k xs) (hk : 0 < k) : ∃ g cap, v = .slice (some ⟨g, 0, none⟩) k cap := by
  obtain ⟨j, rfl⟩ : ∃ j, k = j + 1 := ⟨k - 1, by omega⟩
  exact ownsRow_succ h
theorem strCells_map (s : ByteArray) : Lib.strCells s = s.data.toList.map byteV := by
  simp [Lib.strCells, byteV]
/-- the box b holds a row of bytes of the call's own -/
def BR (W : World) (n0 b : Nat) (l : List UInt8) : Prop := ∃ v, Boxed W b 22 v ∧ W.ownsRow n0 5 1 v l.length (l.map byteV) ∧ (l = [] → v = .slice none 0 0)
def wrP (pre : List Pc) : List UInt8 := (pre.map (·.1)).flatMap putB
def laP (pre : List Pc) : Nat := (wrP pre.dropLast).length
theorem wrP_snoc (pre : List Pc) (x : Pc) : wrP (pre ++ [x]) = wrP pre ++ putB x.1 := by simp [wrP]
theorem laP_snoc (pre : List Pc) (x : Pc) : laP (pre ++ [x]) = (wrP pre).length := by simp [laP]
theorem putB_len (l : List UInt8) : (putB l).length = l.length + 1 := by simp [putB]
theorem wrP_len (pre : List Pc) : (wrP pre).length ≤ 255 * pre.length := by
  induction pre with
  | nil => simp [wrP]
  | cons x l ih =>
    have h : wrP (x :: l) = putB x.1 ++ wrP l := by simp [wrP]
    have := x.2
    rw [h, List.length_append, putB_len, List.length_cons]; omega
theorem zero_bytes (w : World) : (zeroValue 22).run Try.prog w = .ok (.slice none 0 0) w := by kernel_rfl
theorem zero_int (w : World) : (zeroValue 3).run Try.prog w = .ok (.int .i64 0) w := by kernel_rfl
theorem BR.own (n0 b : Nat) : Own (fun (pre : List Pc) W => BR W n0 b (wrP pre)) :=
  holdsRow_own n0 b 22 5 1 (fun pre => (wrP pre).length) (fun pre => (wrP pre).map byteV) (fun pre v => wrP pre = [] → v = .slice none 0 0)
theorem boxed_own' {β : Type} (b : Nat) (t : TypeId) (f : β → Value) : Own (fun (s : β) W => Boxed W b t (f s)) := by
  intro s X Y row hv hg hrow
  refine hv.kept hg (fun e' => ?_)
  obtain ⟨o, ho, hc⟩ := hrow b e'.symm
  rw [show X.heap[b]? = _ from hv] at ho; cases ho; cases hc
theorem Own.both {β : Type} {I J : β → World → Prop} (h : Own I) (k : Own J) : Own (fun s W => I s W ∧ J s W) := fun s A B row hs hg hr => ⟨h s A B row hs.1 hg hr, k s A B row hs.2 hg hr⟩
end Go.Proofs.Ytdnedoafgfpnfaa
/- CobsPut of the program. -/
namespace Go.Proofs.Ytdnedoafgfpnfaa
open Go.ChangeShapes Go.WideShapes Go.ChangeAt Go.RowKit
def cobA (l : List UInt8) : List UInt8 := if l.length ≤ 600 then cob l else []
theorem wrP_cob {l : List UInt8} {pre : List Pc} (h : pre.map (·.1) = pcs l) : wrP pre = cob l := by rw [wrP, h, cob]
theorem ownsRow_ob {W : World} {base : Nat} {v : Value} {l : List UInt8} (h : W.ownsRow base 5 1 v l.length (l.map byteV)) : OB 5 W base v l := by
  obtain ⟨_, h2⟩ := h
  rcases h2 with ⟨rfl, hn⟩ | ⟨g, cap, cur, rfl, hb, hg, hnc, hcm, hcs, htake⟩
  · exact .inl ⟨rfl, List.length_eq_zero_iff.1 hn⟩
  · exact .inr ⟨g, cap, cur, (0, 0), rfl, hb, hg, .inl rfl, hnc, hcm, by omega, by simpa using htake⟩
end Go.Proofs.Ytdnedoafgfpnfaa
