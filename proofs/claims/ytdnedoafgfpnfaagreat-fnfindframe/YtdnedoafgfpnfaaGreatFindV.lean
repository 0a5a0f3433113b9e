/- How many events are frames. -/
import Derived.Test.YtdnedoafgfpnfaaGreatFEvK
namespace Go.Proofs.YtdnedoafgfpnfaaGreat
open Go.ChangeShapes Go.WideShapes Go.ChangeAt Go.RowKit
def cntF (l : List Ev) : Nat := (l.filter fun e => decide (e.kind = 1)).length
theorem cntF_le (l : List Ev) : cntF l ≤ l.length := List.length_filter_le _ _
theorem cntF_snoc (l : List Ev) (e : Ev) : cntF (l ++ [e]) = cntF l + if e.kind = 1 then 1 else 0 := by
  unfold cntF
  rw [List.filter_append, List.length_append]
  by_cases h : e.kind = 1 <;> simp [h]
theorem cntF_rev (l : List Ev) : cntF l.reverse = cntF l := by unfold cntF; rw [List.filter_reverse, List.length_reverse]
end Go.Proofs.YtdnedoafgfpnfaaGreat
