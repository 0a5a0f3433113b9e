/- Bits are sent into a channel that is closed behind them. -/
import Derived.Test.YtcljldnaecldnaaScrB
import Derived.Test.YtcljldnaecldnaaCom
import Derived.Deep.Cut
namespace Go.Proofs.Ytcljldnaecldnaa
open Go.ChangeShapes Go.WideShapes Go.ChangeAt Go.RowKit Go.Conc
/-- a bit of a text, as it is sent -/
def sentV (b : UInt8) : Value := .int .u8 (xi (decide (b = 49)))
def sentA (l : List UInt8) : Array Value := (l.map sentV).toArray
theorem sentA_size (l : List UInt8) : (sentA l).size = l.length := by simp [sentA]
theorem sentA_snoc (s : ByteArray) (k : Nat) (h : k < s.size) : sentA (s.data.toList.take (k + 1)) = (sentA (s.data.toList.take k)).push (sentV s[k]) := by
  rw [snoc_take s k h]
  simp [sentA]
theorem heap_lt {w : World} {c : Nat} {o : Obj} (h : w.heap[c]? = some o) : c < w.heap.size := (Array.getElem?_eq_some_iff.1 h).1
theorem sent_any (s : ByteArray) (w : World) (h : okB s.data.toList = true) :
    Calls Try.prog 38 #[.string s] w fun e w' => e = .returned (.chan (some w.heap.size)) ∧ w'.heap[w.heap.size]? = some (.chan s.size (sentA s.data.toList) true s.size 0 false) ∧ Below w.heap.size w w' := by
  have hsz : s.size ≤ 1200 := by have := (okB_iff.1 h).2; simpa using this
  have H := Lib.hid h
  have hmk : ∀ u : World, (Instr.makeChan 76 (.int .i64 (s.size : Int))).run Try.prog u = .ok (.chan (some u.heap.size)) (u.alloc (.chan s.size #[] false 0 0 false)) := fun u => by
    obtain ⟨i0, hi, hz0, hz1, hz2⟩ := info_parts info_u8
    exact run_makeChan (P := Try.prog) (w := u) Try.underlying76 hi .i64 s.size (by omega) (by rw [hz2]; omega)
  clear h
  go_enter Try.func38, Try.ntmps38
  go_wp2
  clear hmk
  go_loopw [10] (fun i wr => ∃ j : Nat, j ≤ s.size ∧ i = .int .i64 j ∧ wr.heap[w.heap.size]? = some (.chan s.size (sentA (s.data.toList.take j)) false j 0 false) ∧ Below w.heap.size w wr) (fun i _ => s.size - (intOf i).toNat)
  case atStart => exact ⟨0, by omega, rfl, by exact heap_alloc_new w _, (Below.refl _ _).alloc (Nat.le_refl _) _⟩
  case round =>
    obtain ⟨j, hj, rfl, hh, hb⟩ := hrel
    have HH := Lib.hid hh
    have HB := Lib.hid hb
    clear hh hb
    by_cases hlt : j < s.size
    · have HBIT := Lib.hid (ok_bit H.out hlt)
      go_upto_region 5 with fail
      refine OpsTo.region ?_
      simp only [List.size_toArray, List.length_cons, List.length_nil, Nat.reduceAdd, Nat.zero_add, List.range, List.range.loop]
      refine OpsTo.plain rfl rfl fun K hK => ?_
      go_simp
      refine hK _ _ ?_
      clear hK K
      walk_nrm
      refine OpsTo.plain rfl rfl fun K hK => ?_
      go_simp
      refine hK _ _ ?_
      clear hK K
      walk_nrm
      refine OpsTo.plain rfl rfl fun K hK => ?_
      go_simp
      refine hK _ _ ?_
      clear hK K
      walk_nrm
      refine OpsTo.plain rfl rfl fun K hK => ?_
      go_simp
      refine hK _ _ ?_
      clear hK K
      walk_nrm
      refine OpsTo.plain rfl rfl fun K hK => ?_
      go_simp
      refine hK _ _ ?_
      clear hK K
      walk_nrm
      rw [show IntKind.u8.wrap ((s[j].toNat : Int) - 48) = xi (decide (s[j] = 49)) from xi_of HBIT.out]
      refine OpsTo.send (c := w.heap.size) (v := sentV s[j]) (z := .tuple #[]) rfl rfl (by simp [execOp, scase, Act.eval, sentV]) HH.out (by rw [sentA_size, List.length_take]; have := size_list s; omega) ?_
      walk_nrm
      refine OpsTo.end ?_
      go_wp2
      go_roundw
      case rel =>
        refine ⟨j + 1, by omega, by go_num, ?_, below_setChan HB.out (Nat.le_refl _) _ _ _ _ _ _⟩
        rw [sentA_snoc s j hlt]
        exact heap_setChan _ _ _ _ _ _ _ _ (heap_lt HH.out)
      case measure => simp [intOf]; omega
    · obtain rfl : j = s.size := by omega
      have hcl := fun ats ty => run_close_open (P := Try.prog) (w := wr) ats ty HH.out
      go_wp2
      go_ret
      refine ⟨rfl, ?_, ?_⟩
      · rw [Array.getElem?_setIfInBounds_self_of_lt (heap_lt HH.out), take_all s _ (Nat.le_refl _)]
      · exact below_setChan HB.out (Nat.le_refl _) _ _ _ _ _ _
end Go.Proofs.Ytcljldnaecldnaa
