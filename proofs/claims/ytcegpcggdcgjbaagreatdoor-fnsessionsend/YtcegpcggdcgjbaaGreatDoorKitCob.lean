/- The blocks that bytes are cut into: plainly, and in the program. -/
import Derived.Test.YtcegpcggdcgjbaaGreatDoorIdx
import Derived.Test.YtcegpcggdcgjbaaGreatDoorKitBits
import Derived.RegionTactic
import Derived.RangeFuncNested
import Derived.RangeFuncBound
import Derived.RangeFuncCalls
import Derived.RangeFuncLeaves
import Derived.RangeFuncBox
import Derived.RangeFuncWrites
import Derived.Shelf.Abstract
import Derived.Shelf.RegionOpen
import Derived.OwnWalkIn
import Derived.TacticsInMore
import Derived.LoopNIn
import Derived.LoopIn
import Derived.Laws.EntriesVeiled
import Derived.Test.YtcegpcggdcgjbaaGreatDoorKitA
import Derived.Lib.AppendStr
import Derived.Maps.AppendAt
namespace Go.Proofs.YtcegpcggdcgjbaaGreatDoor
open Go.ChangeShapes Go.WideShapes Go.ChangeAt Go.RowKit
/-- how many bytes the first block has -/
def blkN (l : List UInt8) : Nat := ((l.take 254).takeWhile (· != 0)).length
/-- how many bytes are done with the first block -/
def stepN (l : List UInt8) : Nat := if blkN l < 254 then blkN l + 1 else blkN l
theorem takeWhile_le (p : UInt8 → Bool) (l : List UInt8) : (l.takeWhile p).length ≤ l.length := (List.takeWhile_prefix p).length_le
theorem blkN_le (l : List UInt8) : blkN l ≤ 254 ∧ blkN l ≤ l.length := by
  have h := takeWhile_le (· != 0) (l.take 254)
  rw [List.length_take] at h
  unfold blkN
  omega
theorem stepN_pos (l : List UInt8) : 1 ≤ stepN l := by
  have := blkN_le l
  unfold stepN; split <;> omega
/-- the blocks' bytes, one by one -/
def pcs (l : List UInt8) : List (List UInt8) := l.take (blkN l) :: if blkN l < l.length then pcs (l.drop (stepN l)) else []
termination_by l.length
decreasing_by
  have := stepN_pos l
  simp only [List.length_drop]; omega
def putB (p : List UInt8) : List UInt8 := UInt8.ofNat (p.length + 1) :: p
def cob (l : List UInt8) : List UInt8 := (pcs l).flatMap putB
theorem pcs_last {l : List UInt8} (h : l.length ≤ blkN l) : pcs l = [l] := by
  rw [pcs, if_neg (by omega), List.take_of_length_le h]
theorem pcs_more {l : List UInt8} (h : blkN l < l.length) : pcs l = l.take (blkN l) :: pcs (l.drop (stepN l)) := by
  rw [pcs, if_pos h]
theorem cob_last {l : List UInt8} (h : l.length ≤ blkN l) : cob l = putB l := by rw [cob, pcs_last h]; simp
theorem cob_more {l : List UInt8} (h : blkN l < l.length) : cob l = putB (l.take (blkN l)) ++ cob (l.drop (stepN l)) := by rw [cob, pcs_more h]; simp [cob]
theorem pcs_le (l : List UInt8) : (pcs l).length ≤ l.length + 1 := by
  induction hn : l.length using Nat.strongRecOn generalizing l with
  | _ n ih =>
    by_cases h : blkN l < l.length
    · rw [pcs_more h]
      have h1 := stepN_pos l
      have h2 := ih (l.drop (stepN l)).length (by rw [List.length_drop]; omega) _ rfl
      rw [List.length_drop] at h2
      simp only [List.length_cons]; omega
    · rw [pcs_last (by omega)]; simp
/-- what lies at the end of a block: a nought, where it is not full, and not the last -/
theorem idx_takeWhile (l : List UInt8) : Lib.indexByte l 0 = if (l.takeWhile (· != 0)).length < l.length then ((l.takeWhile (· != 0)).length : Int) else -1 := by
  induction l with
  | nil => rfl
  | cons b l ih =>
    by_cases hb : b = 0
    · subst hb; simp [Lib.indexByte]
    · have h1 : (b == 0) = false := beq_eq_false_iff_ne.2 hb
      have h2 : (b != 0) = true := by simp [hb]
      rw [Lib.indexByte, h1, List.takeWhile_cons, if_pos h2, ih]
      simp only [List.length_cons, Nat.add_lt_add_iff_right, Bool.false_eq_true, if_false]
      split
      · have : (((l.takeWhile (· != 0)).length : Int) == -1) = false := beq_eq_false_iff_ne.2 (by omega)
        rw [this]; simp
      · rfl
theorem idx_blk (l : List UInt8) : Lib.indexByte (l.take 254) 0 = if blkN l < 254 ∧ blkN l < l.length then (blkN l : Int) else -1 := by
  rw [idx_takeWhile, List.length_take]
  show (if blkN l < min 254 l.length then _ else _) = _
  congr 1
  simp only [eq_iff_iff]
  omega
theorem ext_to (s : ByteArray) (k : Nat) : s.extract 0 k = ⟨(s.data.toList.take k).toArray⟩ := by
  rw [← Lib.mk_data (s.extract 0 k)]; congr 2; simp
theorem ext_from (s : ByteArray) (k : Nat) : s.extract k s.size = ⟨(s.data.toList.drop k).toArray⟩ := by
  rw [← Lib.mk_data (s.extract k s.size)]; congr 2; simp [List.take_of_length_le]
theorem ext_full (s : ByteArray) : s.extract 0 s.size = s := by
  rw [ext_to, List.take_of_length_le (by simp), Lib.mk_data]
theorem ext_none (s : ByteArray) : s.extract s.size s.size = ByteArray.empty := by
  rw [ext_from, List.drop_eq_nil_of_le (by simp)]; rfl
theorem slice_to (s : ByteArray) (k : Nat) (hk : k ≤ s.size) (u : World) : (Instr.slice 9 (.string s) none (some (.int .i64 (k : Int))) none).run Tryz.prog u = .ok (.string (s.extract 0 k)) u := by
  rw [run_slice_string_to_if u 9 s .i64 (k : Int) Tryz.underlying9]
  simp; omega
theorem slice_from (s : ByteArray) (k : Nat) (hk : k ≤ s.size) (u : World) : (Instr.slice 9 (.string s) (some (.int .i64 (k : Int))) none none).run Tryz.prog u = .ok (.string (s.extract k s.size)) u := by
  rw [run_slice_string_from_if u 9 s .i64 (k : Int) Tryz.underlying9]
  simp; omega
set_option maxHeartbeats 1000000 in
theorem cutPiece_any (s : ByteArray) (w : World) (hs : s.size ≤ 1000000) :
    Calls Tryz.prog 132 #[.string s] w fun e w' => e = .returned (.tuple #[.string ⟨(s.data.toList.take (blkN s.data.toList)).toArray⟩, .string ⟨(s.data.toList.drop (stepN s.data.toList)).toArray⟩, .bool (decide (blkN s.data.toList < s.size))]) ∧ Below w.heap.size w w' ∧ w.heap = w'.heap := by
  have HSL := Lib.hid (size_list s)
  have hbl := blkN_le s.data.toList
  rw [HSL.out] at hbl
  have hidx0 := idx_blk s.data.toList
  rw [HSL.out] at hidx0
  obtain ⟨n, hn⟩ : ∃ n, n = blkN s.data.toList := ⟨_, rfl⟩
  rw [← hn] at hidx0 hbl ⊢
  by_cases hA : s.size ≤ 254
  · have hAi : (s.size : Int) ≤ 254 := by omega
    rw [List.take_of_length_le (by rw [HSL.out]; exact hA)] at hidx0
    by_cases hz : n < 254 ∧ n < s.size
    · have HIdx := Lib.hid (show Lib.indexByte s.data.toList 0 = (n : Int) by rw [hidx0, if_pos hz])
      clear hidx0
      have HST := Lib.hid (show stepN s.data.toList = n + 1 by rw [stepN, ← hn, if_pos hz.1])
      have s1 := slice_to s n (by omega)
      have s2 := slice_from s (n + 1) (by omega)
      have hd : (decide (n < s.size)) = true := by simp; omega
      have hni : IntKind.i64.wrap ((n : Int) + 1) = ((n + 1 : Nat) : Int) := by rw [IntKind.wrap_i64]; omega
      have hni2 : (n : Int) + 1 = ((n + 1 : Nat) : Int) := by omega
      rw [HST.out, hd, ← ext_to, ← ext_from]
      clear hn hni2
      go_enter Tryz.func132, Tryz.ntmps132
      go_wp2_with fail
      all_goals first | (exfalso; omega) | skip
      refine (idx_any _ _ _).mono ?_
      rintro e w' ⟨rfl, rfl⟩
      rw [show ((0 : Int).toNat.toUInt8) = 0 from rfl, HIdx.out]
      go_wp2
      go_region
      all_goals go_wp2
      all_goals go_ret3
      all_goals exact ⟨rfl, (Below.refl _ _).drew, rfl⟩
    · have HIdx := Lib.hid (show Lib.indexByte s.data.toList 0 = -1 by rw [hidx0, if_neg hz])
      clear hidx0
      have hnm : n = s.size := by omega
      have HST := Lib.hid (show (⟨(s.data.toList.drop (stepN s.data.toList)).toArray⟩ : ByteArray) = s.extract n s.size by
        rw [ext_from]; congr 2; rw [stepN, ← hn]; split
        · rw [List.drop_eq_nil_of_le (by rw [HSL.out]; omega), List.drop_eq_nil_of_le (by rw [HSL.out]; omega)]
        · rfl)
      have s1 := slice_to s n (by omega)
      have s2 := slice_from s n (by omega)
      have hdd : decide (n < s.size) = false := by simp; omega
      rw [HST.out, hdd, ← ext_to]
      clear hn hdd
      subst hnm
      try rw [ext_full, ext_none]
      go_enter Tryz.func132, Tryz.ntmps132
      go_wp2_with fail
      all_goals first | (exfalso; omega) | skip
      refine (idx_any _ _ _).mono ?_
      rintro e w' ⟨rfl, rfl⟩
      rw [show ((0 : Int).toNat.toUInt8) = 0 from rfl, HIdx.out]
      go_wp2
      go_region
      all_goals go_wp2
      all_goals go_ret3
      all_goals exact ⟨rfl, (Below.refl _ _).drew, rfl⟩
  · have hBi : (254 : Int) < s.size := by omega
    by_cases hz : n < 254 ∧ n < s.size
    · have HIdx := Lib.hid (show Lib.indexByte (s.extract 0 254).data.toList 0 = (n : Int) by rw [ext_to]; simp only []; rw [hidx0, if_pos hz])
      clear hidx0
      have HST := Lib.hid (show stepN s.data.toList = n + 1 by rw [stepN, ← hn, if_pos hz.1])
      have s1 := slice_to s n (by omega)
      have s2 := slice_from s (n + 1) (by omega)
      have hd : (decide (n < s.size)) = true := by simp; omega
      have hni : IntKind.i64.wrap ((n : Int) + 1) = ((n + 1 : Nat) : Int) := by rw [IntKind.wrap_i64]; omega
      have hni2 : (n : Int) + 1 = ((n + 1 : Nat) : Int) := by omega
      rw [HST.out, hd, ← ext_to, ← ext_from]
      clear hn hni2
      go_enter Tryz.func132, Tryz.ntmps132
      go_wp2_with fail
      all_goals first | (exfalso; omega) | skip
      refine (idx_any _ _ _).mono ?_
      rintro e w' ⟨rfl, rfl⟩
      rw [show ((0 : Int).toNat.toUInt8) = 0 from rfl, HIdx.out]
      go_wp2
      go_region
      all_goals go_wp2
      all_goals go_ret3
      all_goals exact ⟨rfl, (Below.refl _ _).drew, rfl⟩
    · have HIdx := Lib.hid (show Lib.indexByte (s.extract 0 254).data.toList 0 = -1 by rw [ext_to]; simp only []; rw [hidx0, if_neg hz])
      clear hidx0
      have hnm : n = 254 := by omega
      have HST := Lib.hid (show (⟨(s.data.toList.drop (stepN s.data.toList)).toArray⟩ : ByteArray) = s.extract n s.size by
        rw [ext_from]; congr 2; rw [stepN, ← hn]; split
        · rw [List.drop_eq_nil_of_le (by rw [HSL.out]; omega), List.drop_eq_nil_of_le (by rw [HSL.out]; omega)]
        · rfl)
      have s1 := slice_to s n (by omega)
      have s2 := slice_from s n (by omega)
      have hdd : decide (n < s.size) = true := by simp; omega
      rw [HST.out, hdd, ← ext_to]
      clear hn hdd
      subst hnm
      try rw [ext_full, ext_none]
      go_enter Tryz.func132, Tryz.ntmps132
      go_wp2_with fail
      all_goals first | (exfalso; omega) | skip
      refine (idx_any _ _ _).mono ?_
      rintro e w' ⟨rfl, rfl⟩
      rw [show ((0 : Int).toNat.toUInt8) = 0 from rfl, HIdx.out]
      go_wp2
      go_region
      all_goals go_wp2
      all_goals go_ret3
      all_goals exact ⟨rfl, (Below.refl _ _).drew, rfl⟩
end Go.Proofs.YtcegpcggdcgjbaaGreatDoor
/- The iterator over the blocks' bytes: its contract. -/
namespace Go.Proofs.YtcegpcggdcgjbaaGreatDoor
open Go.ChangeShapes Go.WideShapes Go.ChangeAt Go.RowKit Go.Shelf
attribute [local go_sem] Oper.semAt_some
abbrev Pc := { l : List UInt8 // l.length ≤ 254 }
theorem pcs_mem {l p : List UInt8} (h : p ∈ pcs l) : p.length ≤ 254 := by
  induction hn : l.length using Nat.strongRecOn generalizing l with
  | _ n ih =>
    have hb := blkN_le l
    by_cases hm : blkN l < l.length
    · rw [pcs_more hm, List.mem_cons] at h
      rcases h with h | h
      · subst h; rw [List.length_take]; omega
      · have := stepN_pos l
        exact ih (l.drop (stepN l)).length (by rw [List.length_drop]; omega) h rfl
    · rw [pcs_last (by omega), List.mem_singleton] at h
      subst h; omega
def pcsP (l : List UInt8) : List Pc := (pcs l).attachWith (fun p => p.length ≤ 254) (fun _ h => pcs_mem h)
theorem pcsP_val (l : List UInt8) : (pcsP l).map (·.1) = pcs l := by simp [pcsP]
theorem pcsP_len (l : List UInt8) : (pcsP l).length = (pcs l).length := by simp [pcsP]
theorem cutPiece_list (l : List UInt8) (w : World) (hs : l.length ≤ 1000000) :
    Calls Tryz.prog 132 #[.string ⟨l.toArray⟩] w fun e w' => e = .returned (.tuple #[.string ⟨(l.take (blkN l)).toArray⟩, .string ⟨(l.drop (stepN l)).toArray⟩, .bool (decide (blkN l < l.length))]) ∧ w.grownBy w' none := by
  refine (cutPiece_any ⟨l.toArray⟩ w (by simpa [ByteArray.size] using hs)).mono ?_
  rintro e w' ⟨rfl, hb, _⟩
  exact ⟨by simp [ByteArray.size], ⟨hb.os, hb.tape, hb.output, hb.size, fun i hi _ => hb.block i hi⟩⟩
set_option maxRecDepth 100000 in
set_option maxHeartbeats 2000000 in
theorem pieces_stops (n : Nat) (hn : 1 ≤ n) (bx : Nat) (s : ByteArray) (hs : s.size ≤ 600) (w : World) (hbx : w.cell? ⟨bx, 0, none⟩ = some (.string s)) (hbl : bx < w.heap.size) :
    SeqStopsK Fence.wide n Tryz.prog 131 #[.pointer (some ⟨bx, 0, none⟩)] (fun p : Pc => #[.string ⟨p.1.toArray⟩]) (fun _ _ => True) (fun xs => xs.map (·.1) = pcs s.data.toList) (fun _ => True) (s.size + 1) w := fun l J Jx W hW hJ hJx hY h0 => by
  have hcW : W.cell? ⟨bx, 0, none⟩ = some (.string s) := (hW.cell (p := ⟨bx, 0, none⟩) hbl).trans hbx
  have HSL := Lib.hid (size_list s)
  clear hbx
  refine callsIn_of_wp Tryz.func131 rfl trivial ?_ rfl
  simp only [Tryz.ntmps131, List.size_toArray, List.length_cons, List.length_nil, Nat.reduceAdd, Nat.reduceSub, Array.replicate_succ, Array.replicate_zero, List.push_toArray, List.append_toArray, List.nil_append, List.cons_append]
  gi_wp2
  gi_loopw [3, 4, 5] (fun r m _ wr => ∃ (pre : List Pc) (rest : List UInt8) (more : Bool), r = .string ⟨rest.toArray⟩ ∧ m = .bool more ∧ rest.length + pre.length ≤ s.size + 1 ∧ (more = true → rest.length + pre.length ≤ s.size ∧ pre.map (·.1) ++ pcs rest = pcs s.data.toList) ∧ (more = false → pre.map (·.1) = pcs s.data.toList) ∧ J pre wr) (fun r m _ _ => match r, m with | .string t, .bool true => t.size + 2 | .string t, _ => 1 | _, _ => 0)
  case atStart => exact ⟨[], s.data.toList, true, by rw [Lib.mk_data], rfl, by rw [HSL.out]; simp, fun _ => ⟨by rw [HSL.out]; simp, by simp⟩, fun h => by simp at h, h0⟩
  case round =>
    obtain ⟨pre, rest, more, rfl, rfl, hlen, hmo, hle, hJk⟩ := hrel
    cases more with
    | false =>
      have hS := hle rfl
      gi_wp2
      go_end0
      exact ⟨⟨_, rfl⟩, .inl ⟨pre, hS, hJk⟩⟩
    | true =>
      obtain ⟨hl2, hpc⟩ := hmo rfl
      clear hle hmo
      have hbn := blkN_le rest
      have hst := stepN_pos rest
      gi_wp2_with (refine ⟨trivial, ?_⟩; gi_at_call 132; refine (callsIn_wide.2 (cutPiece_list rest wr (by omega))).mono ?_; rintro e w1 ⟨rfl, hg1⟩; have hJ1 := hJ pre wr w1 none hJk hg1 (by simp); obtain ⟨fn, tmps, assign, body, hy, hR⟩ := hY pre ⟨rest.take (blkN rest), by rw [List.length_take]; omega⟩ w1 hJ1 (by omega); have HR := Lib.hid hR; clear hR)
      refine HR.out.mono ?_
      rintro e W3 (⟨rfl, hJ3, _⟩ | ⟨rfl, hJx3⟩)
      · gi_wp2
        go_roundw
        case rel =>
          refine ⟨pre ++ [⟨rest.take (blkN rest), by rw [List.length_take]; omega⟩], rest.drop (stepN rest), decide (blkN rest < rest.length), rfl, rfl, ?_, ?_, ?_, hJ3⟩
          · rw [List.length_append, List.length_drop]; simp only [List.length_singleton]; omega
          · intro h
            have h' : blkN rest < rest.length := by simpa using h
            refine ⟨by rw [List.length_append, List.length_drop]; simp only [List.length_singleton]; omega, ?_⟩
            rw [List.map_append, List.append_assoc, ← hpc, pcs_more h']; rfl
          · intro h
            have h' : rest.length ≤ blkN rest := by simpa using h
            rw [List.map_append, ← hpc, pcs_last h']
            simp [List.take_of_length_le h']
        case measure =>
          by_cases h' : blkN rest < rest.length
          · simp [h', ByteArray.size]; omega
          · simp [h', ByteArray.size]
      · gi_wp2
        refine bodyPost_ret (results_none rfl _ _ _) rfl ?_
        exact ⟨⟨_, rfl⟩, .inr ⟨_, trivial, hJx3⟩⟩
end Go.Proofs.YtcegpcggdcgjbaaGreatDoor
/- The blocks written one behind the other, in the program. -/
namespace Go.Proofs.YtcegpcggdcgjbaaGreatDoor
open Go.ChangeShapes Go.WideShapes Go.ChangeAt Go.RowKit Go.Shelf
attribute [local go_sem] Oper.semAt_some
theorem wpListIn_append_str {F : Fence} {n : Nat} {P : Program} (w : World) {ops : Array Oper} {rest : List Oper} {o : Oper} {a : Act} {Q : Exit → Act → World → Prop} (hg : o.guard = none) (sl x : Operand) (t u : TypeId)
    (hop : o.op = .call { callee := .builtin .append, args := #[sl, x], argTypes := #[t, u] })
    (base : Nat) (e : TypeId) (i : TypeInfo) (ht : P.underlying t = some (.slice e)) (hu : P.underlying u = some .string) (hi : P.info? e = some i) (hz : i.zero = some (.int .u8 0)) (hsize : i.size = 1) (hby : i.bytes = 1)
    (v : Value) (k : Nat) (xs : List Value) (hs : a.eval sl = v) (hown : w.ownsRow base e 1 v k xs) (s : ByteArray) (hx : a.eval x = .string s) (hb : k + s.size ≤ 1000000) (hbase : base ≤ w.heap.size)
    (hK : ∀ v' w', w'.ownsRow base e 1 v' (k + s.size) (xs ++ Lib.strCells s) → w.grownBy w' v.ownBlock → (v' = .slice none 0 0 ↔ v = .slice none 0 0 ∧ s.size = 0) → wpListIn F n P ops Q rest (a.put o.dst v') w') :
    wpListIn F n P ops Q (o :: rest) a w := by
  refine wpListIn_plain hg fun K hK' => ?_
  obtain ⟨v', w', hrun, r1, r2, r3⟩ := Lib.run_append_own_string (P := P) (w := w) base t u o.type e i ht hu hi hz hsize hby v k xs hown s (by unfold maxLen; omega) (by omega) hbase
  unfold Oper.wpIn
  refine ⟨by simp [Oper.about, hop, resolve, Target.leads, Sem.run_pure], ?_⟩
  rw [Oper.semAt_plain F _ _ (by rw [hop]; intro c hc'; cases hc')]
  simp [execOp, hop, resolve, invoke, builtin, hs, hx, hrun, Result.andThen]
  exact hK' _ _ (hK v' w' r1 r2 r3)
/-- behind an append onto the row that a box holds, and the store of what came into that box -/
theorem app_store {W w1 : World} {n0 b : Nat} {v v' : Value} {k m : Nat} {xs ys : List Value} (hv : Boxed W b 22 v) (hrow : W.ownsRow n0 5 1 v k xs) (hn0 : n0 ≤ W.heap.size) (hB : n0 ≤ b)
    (hown' : w1.ownsRow n0 5 1 v' m ys) (hgrow : W.grownBy w1 v.ownBlock) :
    Boxed w1 b 22 v ∧ Boxed (w1.setCell ⟨b, 0, none⟩ v') b 22 v' ∧ (w1.setCell ⟨b, 0, none⟩ v').ownsRow n0 5 1 v' m ys ∧ KeepsOthers W (w1.setCell ⟨b, 0, none⟩ v') ∧ Below n0 W (w1.setCell ⟨b, 0, none⟩ v') ∧
      (∀ c t u, t ≠ 5 → c ≠ b → Boxed W c t u → Boxed (w1.setCell ⟨b, 0, none⟩ v') c t u) := by
  have hv1 : Boxed w1 b 22 v := hv.kept hgrow (hv.not_row (by decide) hrow)
  refine ⟨hv1, hv1.set v', hown'.kept (grownBy_setCell' w1 b v') (.inr (hv1.not_row (by decide) hown').symm), ?_, ?_, ?_⟩
  · refine (KeepsOthers.of_grownBy hgrow fun j o ej hj => ?_).trans (KeepsOthers.setCell _ _ _)
    rcases hrow.2 with ⟨rfl, _⟩ | ⟨g, cap, cur, rfl, _, hgb, _⟩
    · simp [Value.ownBlock] at ej
    · obtain rfl : g = j := by simpa [Value.ownBlock] using ej
      rw [hgb] at hj; cases hj; rfl
  · refine ((Below.refl n0 W).grown hgrow hn0 fun j ej => ?_).setCell (p := ⟨b, 0, none⟩) hB v'
    rcases hrow.2 with ⟨rfl, _⟩ | ⟨g, cap, cur, rfl, hb, _, _⟩
    · simp [Value.ownBlock] at ej
    · obtain rfl : g = j := by simpa [Value.ownBlock] using ej
      exact hb
  · intro c t u ht hc hbx
    exact (hbx.kept hgrow (hbx.not_row ht hrow)).kept (grownBy_setCell' w1 b v') (by simpa using hc)
theorem ownsRow_pos {W : World} {base : Nat} {e : TypeId} {size : Nat} {v : Value} {k : Nat} {xs : List Value} (h : W.ownsRow base e size v k xs) (hk : 0 < k) : ∃ g cap, v = .slice (some ⟨g, 0, none⟩) k cap := by
  obtain ⟨j, rfl⟩ : ∃ j, k = j + 1 := ⟨k - 1, by omega⟩
  exact ownsRow_succ h
theorem strCells_map (s : ByteArray) : Lib.strCells s = s.data.toList.map byteV := by
  simp [Lib.strCells, byteV]
/-- the box b holds a row of bytes of the call's own -/
def BR (W : World) (n0 b : Nat) (l : List UInt8) : Prop := ∃ v, Boxed W b 22 v ∧ W.ownsRow n0 5 1 v l.length (l.map byteV) ∧ (l = [] → v = .slice none 0 0)
def wrP (pre : List Pc) : List UInt8 := (pre.map (·.1)).flatMap putB
def laP (pre : List Pc) : Nat := (wrP pre.dropLast).length
theorem wrP_snoc (pre : List Pc) (x : Pc) : wrP (pre ++ [x]) = wrP pre ++ putB x.1 := by simp [wrP]
theorem laP_snoc (pre : List Pc) (x : Pc) : laP (pre ++ [x]) = (wrP pre).length := by simp [laP]
theorem putB_len (l : List UInt8) : (putB l).length = l.length + 1 := by simp [putB]
theorem wrP_len (pre : List Pc) : (wrP pre).length ≤ 255 * pre.length := by
  induction pre with
  | nil => simp [wrP]
  | cons x l ih =>
    have h : wrP (x :: l) = putB x.1 ++ wrP l := by simp [wrP]
    have := x.2
    rw [h, List.length_append, putB_len, List.length_cons]; omega
theorem piecesOf_make (s : ByteArray) (w : World) :
    Calls Tryz.prog 104 #[.string s] w fun e w' => e = .returned (.func (.func 131) #[] #[.pointer (some ⟨w.heap.size, 0, none⟩)]) ∧ w' = w.alloc (.cells #[.string s] 9) := by
  have hmf : ∀ (fn : Fn) (first cap : Array Value) (w : World), (Instr.makeFunc fn first cap).run Tryz.prog w = .ok (.func fn first cap) w := fun _ _ _ _ => rfl
  go_enter Tryz.func104, Tryz.ntmps104
  go_wp2
  go_ret
  exact ⟨rfl, rfl⟩
theorem zero_bytes (w : World) : (zeroValue 22).run Tryz.prog w = .ok (.slice none 0 0) w := by kernel_rfl
theorem zero_int (w : World) : (zeroValue 3).run Tryz.prog w = .ok (.int .i64 0) w := by kernel_rfl
theorem BR.own (n0 b : Nat) : Own (fun (pre : List Pc) W => BR W n0 b (wrP pre)) :=
  holdsRow_own n0 b 22 5 1 (fun pre => (wrP pre).length) (fun pre => (wrP pre).map byteV) (fun pre v => wrP pre = [] → v = .slice none 0 0)
theorem boxed_own' {β : Type} (b : Nat) (t : TypeId) (f : β → Value) : Own (fun (s : β) W => Boxed W b t (f s)) := by
  intro s X Y row hv hg hrow
  refine hv.kept hg (fun e' => ?_)
  obtain ⟨o, ho, hc⟩ := hrow b e'.symm
  rw [show X.heap[b]? = _ from hv] at ho; cases ho; cases hc
theorem Own.both {β : Type} {I J : β → World → Prop} (h : Own I) (k : Own J) : Own (fun s W => I s W ∧ J s W) := fun s A B row hs hg hr => ⟨h s A B row hs.1 hg hr, k s A B row hs.2 hg hr⟩
set_option maxRecDepth 100000 in
set_option maxHeartbeats 4000000 in
theorem writeBlocks_any (s : ByteArray) (w : World) (hs : s.size ≤ 600) :
    Calls Tryz.prog 73 #[.string s] w fun e w' => ∃ (v : Value) (pre : List Pc), pre.map (·.1) = pcs s.data.toList ∧ e = .returned (.tuple #[v, .int .i64 (laP pre)]) ∧ w'.ownsRow w.heap.size 5 1 v (wrP pre).length ((wrP pre).map byteV) ∧ Below w.heap.size w w' := by
  obtain ⟨i0, hi, hz0, hz1, hz2⟩ := info_parts info_u8
  have HI := Lib.hid hi
  have HZ0 := Lib.hid hz0
  have HZ1 := Lib.hid hz1
  have HZ2 := Lib.hid hz2
  have HSL := Lib.hid (size_list s)
  have hz := zero_bytes
  have hzi := zero_int
  clear hi hz0 hz1 hz2
  refine (callsIn_wide (n := 3)).1 ?_
  refine callsIn_of_wp_marks Tryz.func73 rfl trivial ?_ rfl
  simp only [Tryz.ntmps73, List.size_toArray, List.length_cons, List.length_nil, Nat.reduceAdd, Nat.reduceSub, Array.replicate_succ, Array.replicate_zero, List.push_toArray, List.append_toArray, List.nil_append, List.cons_append]
  gi_wp2_with (refine ⟨trivial, ?_⟩; gi_at_call 104; refine (callsIn_wide.2 (piecesOf_make s _)).mono ?_; rintro e w' ⟨rfl, rfl⟩)
  clear hz hzi
  have hws : (((w.alloc (.cells #[.slice none 0 0] 22)).alloc (.cells #[.int .i64 0] 3)).alloc (.cells #[.string s] 9)).heap.size = w.heap.size + 3 := by simp
  have hb1 : Boxed (((w.alloc (.cells #[.slice none 0 0] 22)).alloc (.cells #[.int .i64 0] 3)).alloc (.cells #[.string s] 9)) w.heap.size 22 (.slice none 0 0) := ((Boxed.new w _ _).alloc _).alloc _
  have hb2 : Boxed (((w.alloc (.cells #[.slice none 0 0] 22)).alloc (.cells #[.int .i64 0] 3)).alloc (.cells #[.string s] 9)) (w.heap.size + 1) 3 (.int .i64 0) := by
    have h := (Boxed.new (w.alloc (.cells #[.slice none 0 0] 22)) 3 (.int .i64 0)).alloc (.cells #[.string s] 9)
    rw [World.size_alloc] at h
    exact h
  have hb3 : (((w.alloc (.cells #[.slice none 0 0] 22)).alloc (.cells #[.int .i64 0] 3)).alloc (.cells #[.string s] 9)).cell? ⟨w.heap.size + 1 + 1, 0, none⟩ = some (.string s) := by
    have h := (Boxed.new ((w.alloc (.cells #[.slice none 0 0] 22)).alloc (.cells #[.int .i64 0] 3)) 9 (.string s)).cell
    rw [World.size_alloc, World.size_alloc] at h
    exact h
  have hbe0 : Below w.heap.size w (((w.alloc (.cells #[.slice none 0 0] 22)).alloc (.cells #[.int .i64 0] 3)).alloc (.cells #[.string s] 9)) := (((Below.refl _ w).alloc (Nat.le_refl _) _).alloc (by simp) _).alloc (by simp; omega) _
  generalize ((w.alloc (.cells #[.slice none 0 0] 22)).alloc (.cells #[.int .i64 0] 3)).alloc (.cells #[.string s] 9) = W0 at *
  refine wpIn_rangeFunc_ownF rfl (by omega) (gf := 131) (lb := #[.pointer (some ⟨w.heap.size + 1 + 1, 0, none⟩)]) rfl trivial (enters_of Tryz.func131 (by kernel_rfl) rfl)
    (pieces_stops (3 - 1) (by omega) (w.heap.size + 1 + 1) s hs W0 hb3 (by omega)) (fun _ _ => trivial) (fun _ _ _ _ _ _ _ _ => trivial) (Below.refl _ _) (fun _ => rfl)
    (fun pre W => (BR W w.heap.size w.heap.size (wrP pre) ∧ Boxed W (w.heap.size + 1) 3 (.int .i64 (laP pre))) ∧ Below w.heap.size w W)
    (fun _ _ _ => False)
    (OwnFrom.and (Own.from (Own.both (BR.own w.heap.size w.heap.size) (boxed_own' (w.heap.size + 1) 3 (fun pre : List Pc => .int .i64 (laP pre)))) _) (ownFrom_below (Nat.le_refl _) (by omega)))
    (fun _ _ _ _ _ hs _ _ => hs)
    ⟨⟨⟨_, hb1, ⟨rfl, .inl ⟨rfl, rfl⟩⟩, fun _ => rfl⟩, hb2⟩, hbe0⟩
    (fun x => { tmps := #[.string s, undef, .slice none 0 0, .int .i64 0, .pointer (some ⟨w.heap.size, 0, none⟩), .pointer (some ⟨w.heap.size + 1, 0, none⟩), .string ⟨x.1.toArray⟩, .string s, .func (.func 131) #[] #[.pointer (some ⟨w.heap.size + 1 + 1, 0, none⟩)], .string ⟨x.1.toArray⟩, undef, undef, undef, undef, undef, undef, undef, undef, undef, undef, undef, undef, undef, undef], defers := [] }) ?assign ?body ?done ?stop
  case assign =>
    intro l x W K hK
    gi_wp2
    exact hK
  case body =>
    clear hb1 hb2 hb3 hbe0
    rintro l pre ⟨p, hp⟩ W ⟨⟨⟨v, hv, hrow, hnil⟩, hla⟩, hB⟩ hlen
    have HW := Lib.hid (wrP_snoc pre ⟨p, hp⟩)
    have HL := Lib.hid (laP_snoc pre ⟨p, hp⟩)
    have hol := wrP_len pre
    obtain ⟨a0, cap0, hshape, _⟩ := (show RB W w.heap.size v (wrP pre) from ⟨hrow, hnil⟩).ob.shape
    subst hshape
    generalize wrP pre = out at *
    obtain ⟨T, hT⟩ : ∃ T : ByteArray, T = ⟨p.toArray⟩ := ⟨_, rfl⟩
    have HT := Lib.hid (show T.data.toList = p by rw [hT])
    have hTs : T.size ≤ 254 := by rw [← size_list T, HT.out]; exact hp
    simp only [← hT]
    have hu8 : IntKind.u8.wrap ((T.size : Int) + 1) = (T.size : Int) + 1 := by rw [IntKind.wrap_u8]; omega
    have cv := hv.cell
    have cl := hla.cell
    have fl := hla.frozen
    have hv1 : Boxed (W.setCell ⟨w.heap.size + 1, 0, none⟩ (.int .i64 (out.length : Int))) w.heap.size 22 (.slice a0 out.length cap0) := hv.kept (grownBy_setCell' W _ _) (by simp)
    have hla1 : Boxed (W.setCell ⟨w.heap.size + 1, 0, none⟩ (.int .i64 (out.length : Int))) (w.heap.size + 1) 3 (.int .i64 (out.length : Int)) := hla.set _
    have hrow1 : (W.setCell ⟨w.heap.size + 1, 0, none⟩ (.int .i64 (out.length : Int))).ownsRow w.heap.size 5 1 (.slice a0 out.length cap0) out.length (out.map byteV) := hrow.kept (grownBy_setCell' W _ _) (.inr (hla.not_row (by decide) hrow).symm)
    have hbe1 : Below w.heap.size w (W.setCell ⟨w.heap.size + 1, 0, none⟩ (.int .i64 (out.length : Int))) := hB.setCell (p := ⟨w.heap.size + 1, 0, none⟩) (by simp) _
    have hk1 := KeepsOthers.setCell W ⟨w.heap.size + 1, 0, none⟩ (.int .i64 (out.length : Int))
    have cv1 := hv1.cell
    have hn1 : w.heap.size ≤ (W.setCell ⟨w.heap.size + 1, 0, none⟩ (.int .i64 (out.length : Int))).heap.size := hbe1.size
    have HONE := Lib.hid (show ∀ j u, [Value.int .u8 ((T.size : Int) + 1)][j]? = some u → ((W.setCell ⟨w.heap.size + 1, 0, none⟩ (.int .i64 (out.length : Int))).alloc (.cells #[.int .u8 ((T.size : Int) + 1)] 5)).cell? ((⟨W.heap.size, 0, none⟩ : Addr).add j) = some u by
      have h := one_cell (W.setCell ⟨w.heap.size + 1, 0, none⟩ (.int .i64 (out.length : Int))) 5 (.int .u8 ((T.size : Int) + 1))
      rwa [show (W.setCell ⟨w.heap.size + 1, 0, none⟩ (.int .i64 (out.length : Int))).heap.size = W.heap.size by simp] at h)
    have HV1 := Lib.hid hv1
    have HLA1 := Lib.hid hla1
    have HR1 := Lib.hid hrow1
    have HB1 := Lib.hid hbe1
    have HK1 := Lib.hid hk1
    clear hv hla hrow hnil hB hv1 hla1 hrow1 hbe1 hk1 hT
    gi_wp2_with (first | (gi_at_builtin; refine wpListIn_append_own _ rfl _ _ 22 rfl w.heap.size 5 i0 (.int .u8 0) 1 1 Tryz.underlying22 HI.out HZ0.out HZ1.out HZ2.out rfl (by decide) _ out.length (out.map byteV) rfl (HR1.out.alloc _) ⟨W.heap.size, 0, none⟩ 1 1 [.int .u8 ((T.size : Int) + 1)] rfl rfl HONE.out (by simp [Value.oneCell']) (by unfold maxLen; omega) (by omega) (by rw [World.size_alloc]; omega) ?_; intro v2 w2 hown2 hg2 _; obtain ⟨g2, cap2, rfl⟩ := ownsRow_succ hown2; obtain ⟨hvA, hvB, hrB, hkB, hbB, hoB⟩ := app_store (HV1.out.alloc _) (HR1.out.alloc _) (by rw [World.size_alloc]; omega) (Nat.le_refl _) hown2 hg2; have cA := hvA.cell; have fA := hvA.frozen; have cB := hvB.cell; have HVB := Lib.hid hvB; have HRB := Lib.hid hrB; have HKB := Lib.hid (HK1.out.trans ((KeepsOthers.alloc _ _).trans hkB)); have HBB := Lib.hid (HB1.out.trans (((Below.refl _ _).alloc hn1 _).trans hbB)); have HLAB := Lib.hid (hoB _ _ _ (by decide) (by omega) (HLA1.out.alloc _)); have hnB := HBB.out.size; clear hvA hvB hrB hkB hbB hoB hown2 hg2) | (gi_at_builtin; refine wpListIn_append_str _ rfl _ _ 22 9 rfl w.heap.size 5 i0 Tryz.underlying22 Tryz.underlying9 HI.out HZ0.out HZ1.out HZ2.out _ _ _ rfl HRB.out T rfl (by omega) hnB ?_; intro v3 w3 hown3 hg3 _; obtain ⟨g3, cap3, rfl⟩ := ownsRow_pos hown3 (by omega); obtain ⟨hvC, hvD, hrD, hkD, hbD, hoD⟩ := app_store HVB.out HRB.out hnB (Nat.le_refl _) hown3 hg3; have cC := hvC.cell; have fC := hvC.frozen; have HVD := Lib.hid hvD; have HRD := Lib.hid hrD; have HKD := Lib.hid (HKB.out.trans hkD); have HBD := Lib.hid (HBB.out.trans hbD); have HLAD := Lib.hid (hoD _ _ _ (by decide) (by omega) HLAB.out); clear hvC hvD hrD hkD hbD hoD hown3 hg3))
    refine ⟨HKD.out, trivial, ⟨⟨_, HVD.out, ?_, ?_⟩, ?_⟩, HBD.out⟩
    · have e1 : (wrP (pre ++ [⟨p, hp⟩])).length = out.length + 1 + T.size := by rw [HW.out, List.length_append, putB_len, ← HT.out, size_list]; omega
      have e2 : (wrP (pre ++ [⟨p, hp⟩])).map byteV = out.map byteV ++ [.int .u8 ((T.size : Int) + 1)] ++ Lib.strCells T := by
        rw [HW.out, List.map_append, strCells_map, HT.out, putB, List.map_cons, List.append_assoc]
        congr 1
        show byteV _ :: _ = _ :: _
        congr 1
        unfold byteV
        rw [UInt8.toNat_ofNat', ← HT.out, size_list]
        exact val_int (by omega)
      rw [e1, e2]; exact HRD.out
    · intro h; rw [HW.out] at h; simp [putB] at h
    · rw [HL.out]; exact HLAD.out
  case done =>
    clear hb1 hb2 hb3 hbe0
    rintro D ys W hD hS ⟨⟨⟨v, hv, hrow, hnil⟩, hla⟩, hB⟩ hK
    have cv := hv.cell
    have cl := hla.cell
    have HRow := Lib.hid hrow
    have HB := Lib.hid hB
    have HK := Lib.hid hK
    have HS := Lib.hid hS
    clear hv hla hrow hnil hB hK hS
    gi_wp2
    gi_region
    all_goals gi_wp2
    refine ⟨by simp, .inl ⟨_, _, rfl, run_takeDeferred (w := W.drew) HK.out, ?_⟩⟩
    refine ⟨_, results_tmp2 rfl _ _ _, v, ys, HS.out, rfl, ?_, ?_⟩
    · exact ownsRow_putObj (W := W.drew) HRow.out (.deferred none) HK.out rfl
    · exact HB.out.drew.trans (belowK_b (w := w) (Nat.le_refl _) W.drew D _ _ (by omega) HK.out rfl rfl)
  case stop =>
    rintro D c pre W _ _ h _
    exact h.elim
end Go.Proofs.YtcegpcggdcgjbaaGreatDoor
/- CobsPut of the program. -/
namespace Go.Proofs.YtcegpcggdcgjbaaGreatDoor
open Go.ChangeShapes Go.WideShapes Go.ChangeAt Go.RowKit
def cobA (l : List UInt8) : List UInt8 := if l.length ≤ 600 then cob l else []
theorem wrP_cob {l : List UInt8} {pre : List Pc} (h : pre.map (·.1) = pcs l) : wrP pre = cob l := by rw [wrP, h, cob]
theorem ownsRow_ob {W : World} {base : Nat} {v : Value} {l : List UInt8} (h : W.ownsRow base 5 1 v l.length (l.map byteV)) : OB 5 W base v l := by
  obtain ⟨_, h2⟩ := h
  rcases h2 with ⟨rfl, hn⟩ | ⟨g, cap, cur, rfl, hb, hg, hnc, hcm, hcs, htake⟩
  · exact .inl ⟨rfl, List.length_eq_zero_iff.1 hn⟩
  · exact .inr ⟨g, cap, cur, (0, 0), rfl, hb, hg, .inl rfl, hnc, hcm, by omega, by simpa using htake⟩
theorem implCobs_any (s : ByteArray) (w : World) :
    Calls Tryz.prog 48 #[.string s] w fun e w' => e = .returned (.string ⟨(cobA s.data.toList).toArray⟩) ∧ Below w.heap.size w w' := by
  have HSL := Lib.hid (size_list s)
  by_cases h6 : s.size ≤ 600
  · have HV := Lib.hid (show cobA s.data.toList = cob s.data.toList by rw [cobA, HSL.out, if_pos h6])
    go_enter Tryz.func48, Tryz.ntmps48
    go_wp2_with fail
    refine (writeBlocks_any s w h6).mono ?_
    rintro e w1 ⟨v, pre, hpre, rfl, hrow, hb⟩
    have HO := Lib.hid (ownsRow_ob hrow)
    have HB := Lib.hid hb
    have HP := Lib.hid (wrP_cob hpre)
    clear hrow hb hpre
    go_wp2_with (refine wpList_string_of_OB _ rfl 22 9 5 _ rfl w.heap.size _ _ rfl Tryz.underlying22 Tryz.underlying5 Tryz.underlying9 HO.out ?_)
    go_ret
    exact ⟨by rw [HV.out, ← HP.out]; rfl, HB.out⟩
  · have HV := Lib.hid (show cobA s.data.toList = [] by rw [cobA, HSL.out, if_neg h6])
    go_enter Tryz.func48, Tryz.ntmps48
    go_wp2
    go_ret
    exact ⟨by rw [HV.out]; rfl, Below.refl _ _⟩
end Go.Proofs.YtcegpcggdcgjbaaGreatDoor
