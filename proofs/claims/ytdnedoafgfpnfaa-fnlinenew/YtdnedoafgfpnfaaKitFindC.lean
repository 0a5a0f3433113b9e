/- A frame's bytes, in the model. -/
import Derived.Test.YtdnedoafgfpnfaaKitFindB
import Derived.Test.YtdnedoafgfpnfaaMark
import Derived.Test.YtdnedoafgfpnfaaKitFindA
namespace Go.Proofs.Ytdnedoafgfpnfaa
open Go.ChangeShapes Go.WideShapes Go.ChangeAt Go.RowKit
end Go.Proofs.Ytdnedoafgfpnfaa
/- Finders in the laws: their size, copies, whether two are the same. -/
namespace Go.Proofs.Ytdnedoafgfpnfaa
open Go.ChangeShapes Go.WideShapes Go.ChangeAt Go.RowKit
abbrev fdV (s : ByteArray) (o : Bool) : Value := .agg #[.string s, .bool o]
theorem szFind_big (s : ByteArray) (o : Bool) (w : World) (hs : s.size ≤ maxLen) (h : 1048576 < s.size) :
    Calls Try.prog 41 #[fdV s o, .int .i64 1048576] w fun e w' => e = .returned (.int .i64 (-1)) ∧ Below w.heap.size w w' := by
  unfold maxLen at hs
  go_enter Try.func41, Try.ntmps41
  go_wp2
  go_ret
  exact ⟨rfl, (Below.refl _ _).alloc (Nat.le_refl _) _⟩
theorem szFind_small (s : ByteArray) (o : Bool) (w : World) (h : s.size ≤ 1048576) :
    Calls Try.prog 41 #[fdV s o, .int .i64 1048576] w fun e w' => e = .returned (.int .i64 (1048576 - (s.size : Int))) ∧ Below w.heap.size w w' := by
  go_enter Try.func41, Try.ntmps41
  go_wp2
  go_ret
  exact ⟨rfl, (Below.refl _ _).alloc (Nat.le_refl _) _⟩
theorem toFind_any (s : ByteArray) (o : Bool) (w : World) :
    Calls Try.prog 43 #[fdV s o] w fun e w' => e = .returned (fdV s o) ∧ Below w.heap.size w w' := by
  have hz : ∀ w : World, (zeroValue 29).run Try.prog w = .ok (.agg #[.string ⟨#[]⟩, .bool false]) w := fun w => by kernel_rfl
  go_enter Try.func43, Try.ntmps43
  go_wp2
  exact bodyPost_ret (v := fdV s o) (by simp [results, Try.results43, go_sem]) rfl ⟨rfl, by first | exact (below2 _ _ _).alloc (by simp; omega) _ | exact below2 _ _ _⟩
theorem eqFind_same (s : ByteArray) (o : Bool) (w : World) :
    Calls Try.prog 45 #[fdV s o, fdV s o] w fun e w' => e = .returned (.bool true) ∧ Below w.heap.size w w' := by
  go_enter Try.func45, Try.ntmps45
  go_wp2
  go_ret
  exact ⟨rfl, below2 _ _ _⟩
end Go.Proofs.Ytdnedoafgfpnfaa
/- What bytes between two ends come to, in the model: read back, and evaluated. -/
namespace Go.Proofs.Ytdnedoafgfpnfaa
open Go.ChangeShapes Go.WideShapes Go.ChangeAt Go.RowKit
theorem not_last {s : ByteArray} {k : Nat} (hk : k < s.size) (h5 : s.data.toList.getLast? ≠ some 125) (hc : s[k] = 125) : k + 1 < s.size := by
  rcases Nat.lt_or_ge (k + 1) s.size with h | h
  · exact h
  · exfalso
    apply h5
    rw [last_at s (by omega)]
    have e : s.size - 1 = k := by omega
    simp only [e, hc]
theorem no_flag {s : ByteArray} {k : Nat} (hk : k < s.size) (h6 : (126 : UInt8) ∉ s.data.toList) : s[k].toNat ≠ 126 := by
  intro e
  apply h6
  have h1 : s.data.toList[k]'(by rw [size_list]; exact hk) = s[k] := rfl
  have h2 : s[k] = 126 := UInt8.toNat_inj.1 e
  rw [← h2, ← h1]
  exact List.getElem_mem _
end Go.Proofs.Ytdnedoafgfpnfaa
