/- Blocks read: plainly, and the iterator over them, in the program. -/
import Derived.Test.YtfojlpnnhghcbaaFall
namespace Go.Proofs.Ytfojlpnnhghcbaa
open Go.ChangeShapes Go.WideShapes Go.ChangeAt Go.RowKit Go.Shelf
attribute [local go_sem] Oper.semAt_some
def hdN (t : List UInt8) : Nat := (t.headD 0).toNat
/-- the complete blocks, each with whether something follows, and what is left -/
def rdB (t : List UInt8) : List (List UInt8 × Bool) × List UInt8 :=
  if hdN t = 0 ∨ t.length < hdN t then ([], t) else ((t.take (hdN t), decide (hdN t < t.length)) :: (rdB (t.drop (hdN t))).1, (rdB (t.drop (hdN t))).2)
termination_by t.length
decreasing_by all_goals (rename_i h; rw [List.length_drop]; omega)
theorem rdB_cut {t : List UInt8} (h : hdN t = 0 ∨ t.length < hdN t) : rdB t = ([], t) := by rw [rdB, if_pos h]
theorem rdB_more {t : List UInt8} (h : 0 < hdN t) (h2 : hdN t ≤ t.length) : rdB t = ((t.take (hdN t), decide (hdN t < t.length)) :: (rdB (t.drop (hdN t))).1, (rdB (t.drop (hdN t))).2) := by rw [rdB, if_neg (by omega)]
theorem rdB_nil : rdB [] = ([], []) := rdB_cut (.inl rfl)
abbrev Bk := { x : List UInt8 × Bool // 1 ≤ x.1.length ∧ x.1.length ≤ 255 }
def nzL (t : List UInt8) : Prop := ∀ x ∈ t, x ≠ 0
theorem hdN_pos {t : List UInt8} (h : nzL t) (hne : t ≠ []) : 0 < hdN t := by
  cases t with
  | nil => exact absurd rfl hne
  | cons c r =>
    have hc := h c (by simp)
    show 0 < c.toNat
    have : c.toNat ≠ 0 := fun e => hc (by apply UInt8.toNat_inj.1; exact e)
    omega
theorem hdN_le (t : List UInt8) : hdN t ≤ 255 := by have := (t.headD 0).toNat_lt; unfold hdN; omega
theorem nzL_drop {t : List UInt8} (h : nzL t) (k : Nat) : nzL (t.drop k) := fun x hx => h x (List.mem_of_mem_drop hx)
theorem hd_at (T : ByteArray) (h : 0 < T.size) : T[0].toNat = hdN T.data.toList := by
  have e := List.drop_eq_getElem_cons (l := T.data.toList) (i := 0) (by simpa using h)
  rw [List.drop_zero] at e
  rw [e]; rfl
set_option maxRecDepth 100000 in
set_option maxHeartbeats 4000000 in
theorem blocks_stops (n : Nat) (hn : 1 ≤ n) (bx : Nat) (s : ByteArray) (hz : nzL s.data.toList) (hcut : (rdB s.data.toList).2 = []) (w : World) (hbx : w.cell? ⟨bx, 0, none⟩ = some (.string s)) (hbl : bx < w.heap.size) :
    SeqStopsK Fence.wide n Try.prog 144 #[.pointer (some ⟨bx, 0, none⟩)] (fun x : Bk => #[.string ⟨x.1.1.toArray⟩, .bool x.1.2]) (fun _ _ => True) (fun xs => xs.map (·.1) = (rdB s.data.toList).1) (fun _ => True) (s.size + 1) w := fun l J Jx W hW hJ hJx hY h0 => by
  have hcW : W.cell? ⟨bx, 0, none⟩ = some (.string s) := (hW.cell (p := ⟨bx, 0, none⟩) hbl).trans hbx
  have HSL := Lib.hid (size_list s)
  have HZ := Lib.hid hz
  have HCut := Lib.hid hcut
  clear hbx hz hcut
  refine callsIn_of_wp Try.func144 rfl trivial ?_ rfl
  simp only [Try.ntmps144, List.size_toArray, List.length_cons, List.length_nil, Nat.reduceAdd, Nat.reduceSub, Array.replicate_succ, Array.replicate_zero, List.push_toArray, List.append_toArray, List.nil_append, List.cons_append]
  gi_wp2
  gi_loopw [3, 4] (fun r _ wr => ∃ (pre : List Bk) (R : ByteArray), r = .string R ∧ R.size + pre.length ≤ s.size ∧ nzL R.data.toList ∧ pre.map (·.1) ++ (rdB R.data.toList).1 = (rdB s.data.toList).1 ∧ (rdB R.data.toList).2 = [] ∧ J pre wr) (fun r _ _ => match r with | .string R => R.size | _ => 0)
  case atStart => exact ⟨[], s, rfl, by simp, HZ.out, by simp, HCut.out, h0⟩
  case round =>
    obtain ⟨pre, R, rfl, hlen, hnz, hpc, hc, hJk⟩ := hrel
    have HRL := Lib.hid (size_list R)
    have HNZ := Lib.hid hnz
    have HPC := Lib.hid hpc
    have HC := Lib.hid hc
    have HJ := Lib.hid hJk
    clear hnz hpc hc hJk
    by_cases he : R.size = 0
    · have hemp : R.toList.isEmpty = true := by rw [ByteArray.toList_eq, List.isEmpty_iff]; exact List.length_eq_zero_iff.1 (by rw [HRL.out]; exact he)
      have e0 : R.data.toList = [] := List.length_eq_zero_iff.1 (by rw [HRL.out]; exact he)
      have HS := Lib.hid (show pre.map (·.1) = (rdB s.data.toList).1 by rw [← HPC.out, e0, rdB_nil]; simp)
      gi_wp2
      go_end0
      exact ⟨⟨_, rfl⟩, .inl ⟨pre, HS.out, HJ.out⟩⟩
    · have e0 : R.data.toList ≠ [] := fun e => he (by rw [← HRL.out, e]; rfl)
      have hpos : 0 < R.size := by omega
      have hemp : R.toList.isEmpty = false := by rw [ByteArray.toList_eq]; cases hq : R.data.toList with
        | nil => exact absurd hq e0
        | cons => rfl
      have hN0 := hdN_pos HNZ.out e0
      have hN1 := hdN_le R.data.toList
      have hR0 := hd_at R hpos
      have hNs : hdN R.data.toList ≤ R.size := by
        rcases Nat.lt_or_ge R.data.toList.length (hdN R.data.toList) with h | h
        · have := HC.out
          rw [rdB_cut (.inr h)] at this
          exact absurd this e0
        · rw [HRL.out] at h; exact h
      obtain ⟨N, hN⟩ : ∃ N, N = hdN R.data.toList := ⟨_, rfl⟩
      rw [← hN] at hN0 hN1 hR0 hNs
      have hR0i : (R[0].toNat : Int) = (N : Int) := by omega
      obtain ⟨b, hb⟩ : ∃ b : Bool, b = decide (N < R.size) := ⟨_, rfl⟩
      have hbi : decide ((N : Int) < (R.size : Int)) = b := by rw [hb, decide_eq_decide]; omega
      have hbi2 : decide (N < R.size) = b := hb.symm
      have s1 := slice_to R N hNs
      obtain ⟨R2, hR2⟩ : ∃ R2 : ByteArray, R2 = R.extract N R.size := ⟨_, rfl⟩
      have s2 := slice_from R N hNs
      rw [← hR2] at s2
      have HR2 := Lib.hid (show R2.data.toList = R.data.toList.drop N by rw [hR2, ext_from])
      have HR2s := Lib.hid (show R2.size = R.size - N by rw [← size_list, HR2.out, List.length_drop, HRL.out])
      have HRD := Lib.hid (show rdB R.data.toList = ((R.data.toList.take N, b) :: (rdB R2.data.toList).1, (rdB R2.data.toList).2) by
        rw [rdB_more (t := R.data.toList) (by omega) (by rw [HRL.out]; omega), ← hN, HR2.out, hb, HRL.out])
      clear hb hN hR0 hR2
      have hsub : 1 ≤ (R.data.toList.take N).length ∧ (R.data.toList.take N).length ≤ 255 := by rw [List.length_take, HRL.out]; omega
      obtain ⟨fn, tmps, assign, body, hy, hR⟩ := hY pre ⟨(R.data.toList.take N, b), hsub⟩ wr HJ.out (by omega)
      simp only [← ext_to] at hy
      have HR := Lib.hid hR
      clear hR
      gi_wp2
      refine HR.out.mono ?_
      rintro e W3 (⟨rfl, hJ3, _⟩ | ⟨rfl, hJx3⟩)
      · gi_wp2
        go_roundw
        case rel =>
          refine ⟨pre ++ [⟨(R.data.toList.take N, b), hsub⟩], R2, rfl, ?_, ?_, ?_, ?_, hJ3⟩
          · rw [List.length_append, HR2s.out]; simp only [List.length_singleton]; omega
          · rw [HR2.out]; exact nzL_drop HNZ.out _
          · rw [List.map_append, List.append_assoc, ← HPC.out, HRD.out]; rfl
          · have := HC.out; rw [HRD.out] at this; exact this
        case measure => simp only []; have := HR2s.out; omega
      · gi_wp2
        refine bodyPost_ret (results_none rfl _ _ _) rfl ?_
        exact ⟨⟨_, rfl⟩, .inr ⟨_, trivial, hJx3⟩⟩
set_option maxRecDepth 100000 in
set_option maxHeartbeats 4000000 in
theorem blocks_falls (n : Nat) (hn : 1 ≤ n) (bx : Nat) (s : ByteArray) (hz : nzL s.data.toList) (hcut : (rdB s.data.toList).2 ≠ []) (w : World) (hbx : w.cell? ⟨bx, 0, none⟩ = some (.string s)) (hbl : bx < w.heap.size) :
    SeqFalls Fence.wide n Try.prog 144 #[.pointer (some ⟨bx, 0, none⟩)] (fun x : Bk => #[.string ⟨x.1.1.toArray⟩, .bool x.1.2]) (fun xs => xs.map (·.1) = (rdB s.data.toList).1) [{ v := .iface 149 (.string ⟨(rdB s.data.toList).2.toArray⟩), recovered := false }] (s.size + 1) w := fun l J W hW hJ hY h0 => by
  have hcW : W.cell? ⟨bx, 0, none⟩ = some (.string s) := (hW.cell (p := ⟨bx, 0, none⟩) hbl).trans hbx
  have HSL := Lib.hid (size_list s)
  have HZ := Lib.hid hz
  have HCut := Lib.hid hcut
  clear hbx hz hcut
  refine callsIn_of_wp Try.func144 rfl trivial ?_ rfl
  simp only [Try.ntmps144, List.size_toArray, List.length_cons, List.length_nil, Nat.reduceAdd, Nat.reduceSub, Array.replicate_succ, Array.replicate_zero, List.push_toArray, List.append_toArray, List.nil_append, List.cons_append]
  gi_wp2
  gi_loopw [3, 4] (fun r _ wr => ∃ (pre : List Bk) (R : ByteArray), r = .string R ∧ R.size + pre.length ≤ s.size ∧ nzL R.data.toList ∧ pre.map (·.1) ++ (rdB R.data.toList).1 = (rdB s.data.toList).1 ∧ (rdB R.data.toList).2 = (rdB s.data.toList).2 ∧ J pre wr) (fun r _ _ => match r with | .string R => R.size | _ => 0)
  case atStart => exact ⟨[], s, rfl, by simp, HZ.out, by simp, rfl, h0⟩
  case round =>
    obtain ⟨pre, R, rfl, hlen, hnz, hpc, hc, hJk⟩ := hrel
    have HRL := Lib.hid (size_list R)
    have HNZ := Lib.hid hnz
    have HPC := Lib.hid hpc
    have HC := Lib.hid hc
    have HJ := Lib.hid hJk
    clear hnz hpc hc hJk
    by_cases he : R.size = 0
    · exfalso
      have e0 : R.data.toList = [] := List.length_eq_zero_iff.1 (by rw [HRL.out]; exact he)
      have h := HC.out
      rw [e0, rdB_nil] at h
      exact HCut.out h.symm
    · have e0 : R.data.toList ≠ [] := fun e => he (by rw [← HRL.out, e]; rfl)
      have hpos : 0 < R.size := by omega
      have hemp : R.toList.isEmpty = false := by rw [ByteArray.toList_eq]; cases hq : R.data.toList with
        | nil => exact absurd hq e0
        | cons => rfl
      have hN0 := hdN_pos HNZ.out e0
      have hN1 := hdN_le R.data.toList
      have hR0 := hd_at R hpos
      rcases Nat.lt_or_ge R.size (hdN R.data.toList) with hgN | hNs
      · have HE := Lib.hid (show rdB R.data.toList = ([], R.data.toList) from rdB_cut (.inr (by rw [HRL.out]; omega)))
        have HS := Lib.hid (show pre.map (·.1) = (rdB s.data.toList).1 by rw [← HPC.out, HE.out]; simp)
        have HF := Lib.hid (show (⟨(rdB s.data.toList).2.toArray⟩ : ByteArray) = R by rw [← HC.out, HE.out, Lib.mk_data])
        have hgt : (R.size : Int) < (R[0].toNat : Int) := by omega
        gi_wp2
        exact ⟨rfl, by rw [HF.out], pre, HS.out, HJ.out⟩
      obtain ⟨N, hN⟩ : ∃ N, N = hdN R.data.toList := ⟨_, rfl⟩
      rw [← hN] at hN0 hN1 hR0 hNs
      have hR0i : (R[0].toNat : Int) = (N : Int) := by omega
      obtain ⟨b, hb⟩ : ∃ b : Bool, b = decide (N < R.size) := ⟨_, rfl⟩
      have hbi : decide ((N : Int) < (R.size : Int)) = b := by rw [hb, decide_eq_decide]; omega
      have hbi2 : decide (N < R.size) = b := hb.symm
      have s1 := slice_to R N hNs
      obtain ⟨R2, hR2⟩ : ∃ R2 : ByteArray, R2 = R.extract N R.size := ⟨_, rfl⟩
      have s2 := slice_from R N hNs
      rw [← hR2] at s2
      have HR2 := Lib.hid (show R2.data.toList = R.data.toList.drop N by rw [hR2, ext_from])
      have HR2s := Lib.hid (show R2.size = R.size - N by rw [← size_list, HR2.out, List.length_drop, HRL.out])
      have HRD := Lib.hid (show rdB R.data.toList = ((R.data.toList.take N, b) :: (rdB R2.data.toList).1, (rdB R2.data.toList).2) by
        rw [rdB_more (t := R.data.toList) (by omega) (by rw [HRL.out]; omega), ← hN, HR2.out, hb, HRL.out])
      clear hb hN hR0 hR2
      have hsub : 1 ≤ (R.data.toList.take N).length ∧ (R.data.toList.take N).length ≤ 255 := by rw [List.length_take, HRL.out]; omega
      obtain ⟨fn, tmps, assign, body, hy, hR⟩ := hY pre ⟨(R.data.toList.take N, b), hsub⟩ wr HJ.out (by omega)
      simp only [← ext_to] at hy
      have HR := Lib.hid hR
      clear hR
      gi_wp2
      refine HR.out.mono ?_
      rintro e W3 ⟨rfl, hJ3⟩
      · gi_wp2
        go_roundw
        case rel =>
          refine ⟨pre ++ [⟨(R.data.toList.take N, b), hsub⟩], R2, rfl, ?_, ?_, ?_, ?_, hJ3⟩
          · rw [List.length_append, HR2s.out]; simp only [List.length_singleton]; omega
          · rw [HR2.out]; exact nzL_drop HNZ.out _
          · rw [List.map_append, List.append_assoc, ← HPC.out, HRD.out]; rfl
          · have := HC.out; rw [HRD.out] at this; exact this
        case measure => simp only []; have := HR2s.out; omega
end Go.Proofs.Ytfojlpnnhghcbaa
