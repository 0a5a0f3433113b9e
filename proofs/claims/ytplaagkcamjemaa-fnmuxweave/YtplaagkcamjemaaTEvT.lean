/- Comparisons in the laws: finders and events as structs, slices of events. -/
import Derived.Test.YtplaagkcamjemaaTEvK
import Derived.RegionTactic
import Derived.Laws.StructEq
namespace Go.Proofs.Ytplaagkcamjemaa
open Go.ChangeShapes Go.WideShapes Go.ChangeAt Go.RowKit
theorem fields_ev : Try.prog.underlying 32 = some (.struct (Try.prog.fieldsOf 32)) := by kernel_rfl
theorem held_ev : Try.prog.stoodInHeld 32 = false := by kernel_rfl
theorem guard_ev : Try.prog.eqGuardType Try.prog.depth 32 = false := by kernel_rfl
theorem ev_eq (d : Nat) (k : Int) (t : ByteArray) (w : World) : (Op.equalIn (d + 2) 32 (.agg #[.int .i64 k, .string t]) (.agg #[.int .i64 k, .string t])).run Try.prog w = .ok true w := by
  rw [run_equalIn_agg w (d + 1) _ _ _ fields_ev held_ev]
  simp [go_sem, Try.underlying32]
theorem ev_neq (k : Int) (t : ByteArray) (w : World) : (binOp .neq 32 (.agg #[.int .i64 k, .string t]) (.agg #[.int .i64 k, .string t])).run Try.prog w = .ok (.bool false) w := by
  rw [run_neq_struct, ev_eq 9998]; rfl
set_option maxHeartbeats 1000000 in
theorem ctEvents_same (v v' : Value) (l : List Ev) (w : World) (lo lo' B B' : Nat) (h : RE w lo B v l) (h' : RE w lo' B' v' l) (hB : B ≤ w.heap.size) (hB' : B' ≤ w.heap.size) (hl : l.length ≤ 1000000000) :
    Calls Try.prog 13 #[v, v'] w fun e w' => e = .returned (.bool true) ∧ Below w.heap.size w w' := by
  obtain ⟨a, cap, rfl⟩ := h.shape
  obtain ⟨a', cap', rfl⟩ := h'.shape
  have H := Lib.hid h
  have H' := Lib.hid h'
  clear h h'
  go_enter Try.func13, Try.ntmps13
  go_wp2
  go_loopw [5] (fun j wr => ∃ k : Nat, k ≤ l.length ∧ j = .int .i64 k ∧ Below w.heap.size w wr) (fun j _ => l.length - (intOf j).toNat)
  case atStart => exact ⟨0, Nat.zero_le _, rfl, Below.refl _ _⟩
  case round =>
    obtain ⟨k, hk, rfl, hb⟩ := hrel
    have HB := Lib.hid hb
    by_cases hlt : k < l.length
    · obtain ⟨x, rfl, _, _, c0, c1⟩ := RE.at_ (H.out.below (hb.mono hB)) hlt
      obtain ⟨x', rfl, _, _, c0', c1'⟩ := RE.at_ (H'.out.below (hb.mono hB')) hlt
      clear hb
      generalize l[k].kind = kk at *
      generalize (⟨l[k].text.toArray⟩ : ByteArray) = tt at *
      have q1 := ev_neq kk tt
      have q2 := guard_ev
      have q3 := ev_eq 9998 kk tt
      go_wp2_with fail
      go_region
      all_goals
        clear q1 q2 q3 c0 c1 c0' c1'
        go_wp2
        go_roundw
        case rel => exact ⟨k + 1, by omega, by go_num, HB.out.drew⟩
        case measure => simp [intOf]; omega
    · go_wp2
      go_ret
      exact ⟨rfl, HB.out⟩
end Go.Proofs.Ytplaagkcamjemaa
