/- The marks that the exact laws lay: a text for each number. -/
import Derived.Test.YtcegpcggdcgjbaaGreatDoorKitA
import Derived.Lib.Strings
namespace Go.Proofs.YtcegpcggdcgjbaaGreatDoor
open Go.ChangeShapes Go.WideShapes Go.ChangeAt Go.RowKit
/-- the figures of a number, none of nought -/
def figL (n : Nat) : List UInt8 := if _h : n = 0 then [] else figL (n / 10) ++ [UInt8.ofNat (48 + n % 10)]
termination_by n
decreasing_by omega
theorem figL_zero : figL 0 = [] := by rw [figL]; rfl
theorem figL_pos {n : Nat} (h : 0 < n) : figL n = figL (n / 10) ++ [UInt8.ofNat (48 + n % 10)] := by rw [figL, dif_neg (by omega)]
theorem figL_len (n : Nat) : (figL n).length ≤ n := by
  induction n using Nat.strongRecOn with
  | _ n ih =>
    by_cases h : n = 0
    · subst h; simp [figL_zero]
    · rw [figL_pos (by omega), List.length_append]
      have := ih (n / 10) (by omega)
      simp; omega
def markL (n : Nat) : List UInt8 := 109 :: figL n
theorem str_append (a b : ByteArray) : (a ++ b).data.toList = a.data.toList ++ b.data.toList := by simp
theorem OB_one (e : TypeId) (w : World) (base : Nat) (hb : base ≤ w.heap.size) (c : UInt8) (v : Value) (hv : byteV c = v) : OB e (w.alloc (.cells #[v] e)) base (.slice (some ⟨w.heap.size, 0, none⟩) 1 1) [c] :=
  .inr ⟨w.heap.size, 1, _, (0, 0), by simp, hb, heap_alloc_new w _, .inl rfl, by simp, by simp [maxLen], by simp, by simp [hv]⟩
end Go.Proofs.YtcegpcggdcgjbaaGreatDoor
