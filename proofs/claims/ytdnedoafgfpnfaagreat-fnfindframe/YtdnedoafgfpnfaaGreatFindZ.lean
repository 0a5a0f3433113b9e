/- What the laws on finders share. -/
import Derived.Test.YtdnedoafgfpnfaaGreatFindW
import Derived.Test.YtdnedoafgfpnfaaGreatKitFindF
import Derived.Test.YtdnedoafgfpnfaaGreatFEvW
import Derived.Test.YtdnedoafgfpnfaaGreatOs
import Derived.Test.YtdnedoafgfpnfaaGreatDrawConf
import Derived.Laws.StructEq
namespace Go.Proofs.YtdnedoafgfpnfaaGreat
open Go.ChangeShapes Go.WideShapes Go.ChangeAt Go.RowKit
theorem wf_small {a : Int} (h : -1 ≤ a ∧ a ≤ 4) : (Lit.int .i64 a).wf = true := by
  have h1 : IntKind.min .i64 = -9223372036854775808 := by decide
  have h2 : IntKind.max .i64 = 9223372036854775807 := by decide
  simp only [Lit.wf, h1, h2, Bool.and_eq_true, decide_eq_true_eq]
  omega
theorem fields_fd : Tryz.prog.underlying 26 = some (.struct (Tryz.prog.fieldsOf 26)) := by kernel_rfl
theorem held_fd : Tryz.prog.stoodInHeld 26 = false := by kernel_rfl
theorem guard_fd : Tryz.prog.eqGuardType Tryz.prog.depth 26 = false := by kernel_rfl
theorem fd_eq (d : Nat) (t : ByteArray) (o : Bool) (w : World) : (Op.equalIn (d + 2) 26 (fdV t o) (fdV t o)).run Tryz.prog w = .ok true w := by
  rw [run_equalIn_agg w (d + 1) _ _ _ fields_fd held_fd]
  simp [go_sem, Tryz.underlying26]
theorem fd_eql (t : ByteArray) (o : Bool) (w : World) : (binOp .eql 26 (fdV t o) (fdV t o)).run Tryz.prog w = .ok (.bool true) w := by
  rw [run_eql_struct, fd_eq 9998]; rfl
theorem fd_neq (t : ByteArray) (o : Bool) (w : World) : (binOp .neq 26 (fdV t o) (fdV t o)).run Tryz.prog w = .ok (.bool false) w := by
  rw [run_neq_struct, fd_eq 9998]; rfl
theorem last_send {c : Cf} {s : List UInt8} (h : sendOk c s = true) {T : ByteArray} (hT : T.data.toList = sendL c s) : ∃ n, T.size = n + 1 ∧ (∃ hn : n < T.size, T[n] = endOf c) ∧ ∀ i (_ : i < n) (hi2 : i < T.size), T[i].toNat ≠ (endOf c).toNat := by
  have hc : confB c = true := by simp only [sendOk, Bool.and_eq_true] at h; exact h.1
  have hl : T.size = (writeL c (putL c.sum s)).length + 1 := by rw [← size_list, hT]; simp [sendL]
  have hat : ∀ i (hi : i < T.size), T[i] = (sendL c s)[i]'(by rw [← hT, size_list]; exact hi) := by
    intro i hi
    have h1 : T.data.toList[i]'(by rw [size_list]; exact hi) = T[i] := rfl
    rw [← h1]
    simp only [hT]
  refine ⟨(writeL c (putL c.sum s)).length, hl, ⟨by omega, ?_⟩, fun i hi hi2 e => ?_⟩
  · rw [hat _ (by omega)]
    simp [sendL]
  · have e2 : T[i] = endOf c := UInt8.toNat_inj.1 e
    rw [hat i hi2] at e2
    have e3 : (sendL c s)[i]'(by rw [← hT, size_list]; exact hi2) = (writeL c (putL c.sum s))[i] := by simp only [sendL]; rw [List.getElem_append_left hi]
    rw [e3] at e2
    exact write_clean hc (putL c.sum s) (by rw [← e2]; exact List.getElem_mem _)
theorem sendA_nil {c : Cf} {s : List UInt8} (h : sendOk c s = false) : sendA c s = [] := by unfold sendA; rw [if_neg (by rw [h]; simp)]
theorem sendA_yes {c : Cf} {s : List UInt8} (h : sendOk c s = true) : sendA c s = sendL c s := by unfold sendA; rw [if_pos h]
/-- what a law holds: a configuration in its box g -/
def LB (w W : World) (g : Nat) (a b d m : Int) : Prop := BK W g #[.int .i64 a, .int .i64 b, .int .i64 d, .int .i64 m] 24 ∧ w.heap.size ≤ g ∧ Below w.heap.size w W
section
variable {w W W' : World} {g : Nat} {a b d m : Int}
theorem LB.new {w1 : World} (hb : Below w.heap.size w w1) : LB w (w1.alloc (.cells #[.int .i64 a, .int .i64 b, .int .i64 d, .int .i64 m] 24)) w1.heap.size a b d m := ⟨BK.new _ _ _, hb.size, hb.alloc hb.size _⟩
theorem LB.from (h : LB w W g a b d m) (hb : Below W.heap.size W W') : LB w W' g a b d m := ⟨h.1.from hb, h.2.1, h.2.2.trans (hb.mono h.2.2.size)⟩
theorem LB.alloc (h : LB w W g a b d m) (o : Obj) : LB w (W.alloc o) g a b d m := h.from ((Below.refl _ _).alloc (Nat.le_refl _) _)
theorem LB.drew (h : LB w W g a b d m) : LB w W.drew g a b d m := ⟨h.1, h.2.1, h.2.2.drew⟩
theorem LB.farSet (h : LB w W g a b d m) {j i : Nat} (hj : g < j) (x : Value) : LB w (W.setCell ⟨j, i, none⟩ x) g a b d m := ⟨h.1.far (by omega) _, h.2.1, h.2.2.setCell (by have := h.2.1; show w.heap.size ≤ j; omega) _⟩
theorem LB.drewN (h : LB w W g a b d m) (n : Nat) : LB w (W.drewN n) g a b d m := ⟨h.1, h.2.1, ⟨h.2.2.os, h.2.2.tape, h.2.2.output, h.2.2.size, h.2.2.block⟩⟩
theorem LB.flat (h : LB w W g a b d m) : W.cell? ⟨g, 0, none⟩ = some (.int .i64 a) ∧ W.cell? ⟨g, 1, none⟩ = some (.int .i64 b) ∧ W.cell? ⟨g, 2, none⟩ = some (.int .i64 d) ∧ W.cell? ⟨g, 3, none⟩ = some (.int .i64 m) := cells4 h.1
end
end Go.Proofs.YtdnedoafgfpnfaaGreat
