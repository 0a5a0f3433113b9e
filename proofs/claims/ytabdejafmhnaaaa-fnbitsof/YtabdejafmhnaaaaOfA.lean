/- The iterator over the bits of bytes: its contract. -/
import Derived.RangeFuncNested
import Derived.RangeFuncBound
import Derived.RangeFuncCalls
import Derived.RangeFuncLeaves
import Derived.Shelf.Abstract
import Derived.Shelf.RegionOpen
import Derived.OwnWalkIn
import Derived.TacticsInMore
import Derived.LoopNIn
import Derived.LoopIn
import Derived.Test.YtabdejafmhnaaaaBuildS
import Derived.Test.YtabdejafmhnaaaaBitsD
namespace Go.Proofs.Ytabdejafmhnaaaa
open Go.ChangeShapes Go.WideShapes Go.ChangeAt Go.RowKit Go.Shelf
attribute [local go_sem] Oper.semAt_some
/-- bit i of bytes, the lowest of each byte first -/
def bitAt (l : List UInt8) (i : Nat) : UInt8 := UInt8.ofNat (48 + (l[i / 8]?.getD 0).toNat / 2 ^ (i % 8) % 2)
def uptoL (l : List UInt8) (k : Nat) : List UInt8 := (List.range k).map (bitAt l)
def ofL (l : List UInt8) : List UInt8 := uptoL l (8 * l.length)
theorem uptoL_succ (l : List UInt8) (k : Nat) : uptoL l (k + 1) = uptoL l k ++ [bitAt l k] := by simp [uptoL, List.range_succ]
theorem uptoL_len (l : List UInt8) (k : Nat) : (uptoL l k).length = k := by simp [uptoL]
theorem and_one (a : Nat) (h : a < 256) : bits .and .u8 (a : Int) 1 = ((a % 2 : Nat) : Int) := by
  have h1 : (BitVec.ofInt 8 (a : Int)).toNat = a := by
    rw [BitVec.ofInt_natCast, BitVec.toNat_ofNat]; exact Nat.mod_eq_of_lt (by omega)
  have h2 : (BitVec.ofInt 8 1).toNat = 1 := rfl
  show IntKind.u8.wrap ((BitVec.ofInt 8 (a : Int) &&& BitVec.ofInt 8 1).toNat : Int) = _
  rw [BitVec.toNat_and, h1, h2, Nat.and_one_is_mod, IntKind.wrap_u8]
  omega
theorem bitAt_of {s : ByteArray} {k q r : Nat} (hq : k / 8 = q) (hr : k % 8 = r) (hqs : q < s.size) : bitAt s.data.toList k = UInt8.ofNat (48 + s[q].toNat / 2 ^ r % 2) := by
  have e : s.data.toList[q]? = some s[q] := by rw [List.getElem?_eq_getElem (by simpa using hqs)]; rfl
  rw [bitAt, hq, hr, e]; rfl
def KpBox (bx : Nat) (s : ByteArray) (W W' : World) : Prop := W.cell? ⟨bx, 0, none⟩ = some (.string s) → W'.cell? ⟨bx, 0, none⟩ = some (.string s)
set_option maxRecDepth 100000 in
set_option maxHeartbeats 2000000 in
theorem bitsIn_stops (n : Nat) (hn : 1 ≤ n) (bx : Nat) (s : ByteArray) (hs : s.size ≤ 150) (w : World) (hbx : w.cell? ⟨bx, 0, none⟩ = some (.string s)) (hbl : bx < w.heap.size) :
    SeqStopsK Fence.wide n Try.prog 59 #[.pointer (some ⟨bx, 0, none⟩)] (fun c : UInt8 => #[.int .u8 c.toNat]) (KpBox bx s) (fun xs => xs = ofL s.data.toList) (fun _ => True) (8 * s.size) w := fun l J Jx W hW hJ hJx hY h0 => by
  have hcW : W.cell? ⟨bx, 0, none⟩ = some (.string s) := (hW.cell (p := ⟨bx, 0, none⟩) hbl).trans hbx
  have HSL := Lib.hid (size_list s)
  clear hbx
  refine callsIn_of_wp Try.func59 rfl trivial ?_ rfl
  simp only [Try.ntmps59, List.size_toArray, List.length_cons, List.length_nil, Nat.reduceAdd, Nat.reduceSub, Array.replicate_succ, Array.replicate_zero, List.push_toArray, List.append_toArray, List.nil_append, List.cons_append]
  gi_wp2
  gi_loopw [3, 7] (fun _ i wr => ∃ k : Nat, k ≤ 8 * s.size ∧ i = .int .i64 k ∧ J (uptoL s.data.toList k) wr ∧ wr.cell? ⟨bx, 0, none⟩ = some (.string s)) (fun _ i _ => 8 * s.size - (intOf i).toNat)
  case atStart => exact ⟨0, by omega, rfl, h0, hcW⟩
  case round =>
    obtain ⟨k, hk, rfl, hJk, hck⟩ := hrel
    by_cases hlt : k < 8 * s.size
    · obtain ⟨q, hq⟩ : ∃ q, k / 8 = q := ⟨_, rfl⟩
      obtain ⟨r, hr⟩ : ∃ r, k % 8 = r := ⟨_, rfl⟩
      have hqs : q < s.size := by omega
      have hr8 : r < 8 := by omega
      have hqi : (k : Int) / 8 = (q : Int) := by omega
      have hqi2 : (k : Int).tdiv 8 = (q : Int) := by rw [Int.tdiv_eq_ediv_of_nonneg (by omega)]; exact hqi
      have hri : (k : Int) % 8 = (r : Int) := by omega
      have hri2 : (k : Int).tmod 8 = (r : Int) := by rw [Int.tmod_eq_emod_of_nonneg (by omega)]; exact hri
      have hba := bitAt_of hq hr hqs
      have hlt2 : (k : Int) < 8 * (s.size : Int) := by omega
      have hub := UInt8.toNat_lt s[q]
      have hdl : s[q].toNat / 2 ^ r < 256 := Nat.lt_of_le_of_lt (Nat.div_le_self _ _) hub
      have hbit : bits .and .u8 ((s[q].toNat : Int) / 2 ^ r) 1 = ((s[q].toNat / 2 ^ r % 2 : Nat) : Int) := by
        rw [← and_one _ hdl]; simp
      clear hq hr
      rcases Nat.mod_two_eq_zero_or_one (s[q].toNat / 2 ^ r) with h01 | h01
      all_goals
        rw [h01] at hba hbit
        obtain ⟨fn, tmps, assign, body, hy, hR⟩ := hY (uptoL s.data.toList k) (bitAt s.data.toList k) wr hJk (by rw [uptoL_len]; omega)
        rw [hba] at hy
        simp only [← uptoL_succ] at hR
        have HR := Lib.hid hR
        simp only [show ((UInt8.ofNat (48 + 0)).toNat : Int) = 48 from rfl, show ((UInt8.ofNat (48 + 1)).toNat : Int) = 49 from rfl] at hy
        clear hR h01 hba
        gi_wp2
        refine HR.out.mono ?_
        rintro e W3 (⟨rfl, hJ3, hk3⟩ | ⟨rfl, hJx3⟩)
        · gi_wp2
          go_roundw
          case rel => exact ⟨k + 1, by omega, by go_num, hJ3, hk3 hck⟩
          case measure => simp [intOf]; omega
        · gi_wp2
          refine bodyPost_ret (results_none rfl _ _ _) rfl ?_
          exact ⟨⟨_, rfl⟩, .inr ⟨_, trivial, hJx3⟩⟩
    · gi_wp2
      go_end0
      have e : k = 8 * s.data.toList.length := by rw [HSL.out]; omega
      exact ⟨⟨_, rfl⟩, .inl ⟨_, by rw [ofL, ← e], hJk⟩⟩
end Go.Proofs.Ytabdejafmhnaaaa
