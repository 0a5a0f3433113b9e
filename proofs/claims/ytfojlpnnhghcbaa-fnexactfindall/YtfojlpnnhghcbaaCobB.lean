/- The iterator over the blocks' bytes: its contract. -/
import Derived.RangeFuncNested
import Derived.RangeFuncBound
import Derived.RangeFuncCalls
import Derived.RangeFuncLeaves
import Derived.RangeFuncBox
import Derived.RangeFuncWrites
import Derived.Shelf.Abstract
import Derived.Shelf.RegionOpen
import Derived.OwnWalkIn
import Derived.TacticsInMore
import Derived.LoopNIn
import Derived.LoopIn
import Derived.Laws.EntriesVeiled
import Derived.Test.YtfojlpnnhghcbaaKitA
import Derived.Test.YtfojlpnnhghcbaaCobA
namespace Go.Proofs.Ytfojlpnnhghcbaa
open Go.ChangeShapes Go.WideShapes Go.ChangeAt Go.RowKit Go.Shelf
attribute [local go_sem] Oper.semAt_some
abbrev Pc := { l : List UInt8 // l.length ≤ 254 }
theorem pcs_mem {l p : List UInt8} (h : p ∈ pcs l) : p.length ≤ 254 := by
  induction hn : l.length using Nat.strongRecOn generalizing l with
  | _ n ih =>
    have hb := blkN_le l
    by_cases hm : blkN l < l.length
    · rw [pcs_more hm, List.mem_cons] at h
      rcases h with h | h
      · subst h; rw [List.length_take]; omega
      · have := stepN_pos l
        exact ih (l.drop (stepN l)).length (by rw [List.length_drop]; omega) h rfl
    · rw [pcs_last (by omega), List.mem_singleton] at h
      subst h; omega
def pcsP (l : List UInt8) : List Pc := (pcs l).attachWith (fun p => p.length ≤ 254) (fun _ h => pcs_mem h)
theorem pcsP_val (l : List UInt8) : (pcsP l).map (·.1) = pcs l := by simp [pcsP]
theorem pcsP_len (l : List UInt8) : (pcsP l).length = (pcs l).length := by simp [pcsP]
theorem cutPiece_list (l : List UInt8) (w : World) (hs : l.length ≤ 1000000) :
    Calls Try.prog 146 #[.string ⟨l.toArray⟩] w fun e w' => e = .returned (.tuple #[.string ⟨(l.take (blkN l)).toArray⟩, .string ⟨(l.drop (stepN l)).toArray⟩, .bool (decide (blkN l < l.length))]) ∧ w.grownBy w' none := by
  refine (cutPiece_any ⟨l.toArray⟩ w (by simpa [ByteArray.size] using hs)).mono ?_
  rintro e w' ⟨rfl, hb, _⟩
  exact ⟨by simp [ByteArray.size], ⟨hb.os, hb.tape, hb.output, hb.size, fun i hi _ => hb.block i hi⟩⟩
set_option maxRecDepth 100000 in
set_option maxHeartbeats 2000000 in
theorem pieces_stops (n : Nat) (hn : 1 ≤ n) (bx : Nat) (s : ByteArray) (hs : s.size ≤ 600) (w : World) (hbx : w.cell? ⟨bx, 0, none⟩ = some (.string s)) (hbl : bx < w.heap.size) :
    SeqStopsK Fence.wide n Try.prog 145 #[.pointer (some ⟨bx, 0, none⟩)] (fun p : Pc => #[.string ⟨p.1.toArray⟩]) (fun _ _ => True) (fun xs => xs.map (·.1) = pcs s.data.toList) (fun _ => True) (s.size + 1) w := fun l J Jx W hW hJ hJx hY h0 => by
  have hcW : W.cell? ⟨bx, 0, none⟩ = some (.string s) := (hW.cell (p := ⟨bx, 0, none⟩) hbl).trans hbx
  have HSL := Lib.hid (size_list s)
  clear hbx
  refine callsIn_of_wp Try.func145 rfl trivial ?_ rfl
  simp only [Try.ntmps145, List.size_toArray, List.length_cons, List.length_nil, Nat.reduceAdd, Nat.reduceSub, Array.replicate_succ, Array.replicate_zero, List.push_toArray, List.append_toArray, List.nil_append, List.cons_append]
  gi_wp2
  gi_loopw [3, 4, 5] (fun r m _ wr => ∃ (pre : List Pc) (rest : List UInt8) (more : Bool), r = .string ⟨rest.toArray⟩ ∧ m = .bool more ∧ rest.length + pre.length ≤ s.size + 1 ∧ (more = true → rest.length + pre.length ≤ s.size ∧ pre.map (·.1) ++ pcs rest = pcs s.data.toList) ∧ (more = false → pre.map (·.1) = pcs s.data.toList) ∧ J pre wr) (fun r m _ _ => match r, m with | .string t, .bool true => t.size + 2 | .string t, _ => 1 | _, _ => 0)
  case atStart => exact ⟨[], s.data.toList, true, by rw [Lib.mk_data], rfl, by rw [HSL.out]; simp, fun _ => ⟨by rw [HSL.out]; simp, by simp⟩, fun h => by simp at h, h0⟩
  case round =>
    obtain ⟨pre, rest, more, rfl, rfl, hlen, hmo, hle, hJk⟩ := hrel
    cases more with
    | false =>
      have hS := hle rfl
      gi_wp2
      go_end0
      exact ⟨⟨_, rfl⟩, .inl ⟨pre, hS, hJk⟩⟩
    | true =>
      obtain ⟨hl2, hpc⟩ := hmo rfl
      clear hle hmo
      have hbn := blkN_le rest
      have hst := stepN_pos rest
      gi_wp2_with (refine ⟨trivial, ?_⟩; gi_at_call 146; refine (callsIn_wide.2 (cutPiece_list rest wr (by omega))).mono ?_; rintro e w1 ⟨rfl, hg1⟩; have hJ1 := hJ pre wr w1 none hJk hg1 (by simp); obtain ⟨fn, tmps, assign, body, hy, hR⟩ := hY pre ⟨rest.take (blkN rest), by rw [List.length_take]; omega⟩ w1 hJ1 (by omega); have HR := Lib.hid hR; clear hR)
      refine HR.out.mono ?_
      rintro e W3 (⟨rfl, hJ3, _⟩ | ⟨rfl, hJx3⟩)
      · gi_wp2
        go_roundw
        case rel =>
          refine ⟨pre ++ [⟨rest.take (blkN rest), by rw [List.length_take]; omega⟩], rest.drop (stepN rest), decide (blkN rest < rest.length), rfl, rfl, ?_, ?_, ?_, hJ3⟩
          · rw [List.length_append, List.length_drop]; simp only [List.length_singleton]; omega
          · intro h
            have h' : blkN rest < rest.length := by simpa using h
            refine ⟨by rw [List.length_append, List.length_drop]; simp only [List.length_singleton]; omega, ?_⟩
            rw [List.map_append, List.append_assoc, ← hpc, pcs_more h']; rfl
          · intro h
            have h' : rest.length ≤ blkN rest := by simpa using h
            rw [List.map_append, ← hpc, pcs_last h']
            simp [List.take_of_length_le h']
        case measure =>
          by_cases h' : blkN rest < rest.length
          · simp [h', ByteArray.size]; omega
          · simp [h', ByteArray.size]
      · gi_wp2
        refine bodyPost_ret (results_none rfl _ _ _) rfl ?_
        exact ⟨⟨_, rfl⟩, .inr ⟨_, trivial, hJx3⟩⟩
end Go.Proofs.Ytfojlpnnhghcbaa
