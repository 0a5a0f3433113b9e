/- A draw that bends a text. -/
import Derived.Test.YtcegpcggdcgjbaaGreatDoorKitDraw
import Derived.Deep.RegionWith
namespace Go.Proofs.YtcegpcggdcgjbaaGreatDoor
open Go.ChangeShapes Go.WideShapes Go.ChangeAt Go.RowKit

theorem grown_drew {a w : World} {row : Option Nat} (h : a.grownBy w row) : a.grownBy w.drew row := ⟨h.os, h.tape, h.output, h.size, h.block⟩
/-- 'string([]byte{b})' -/
theorem run_string_one (u : World) (b : UInt8) : (convert 22 9 (.slice (some ⟨u.heap.size, 0, none⟩) 1 1)).run Tryz.prog (u.alloc (.cells #[.int .u8 (b.toNat : Int)] 5)) = .ok (.string ⟨#[b]⟩) (u.alloc (.cells #[.int .u8 (b.toNat : Int)] 5)) :=
  run_string_of_OB (P := Tryz.prog) _ 22 9 5 u.heap.size _ [b] Tryz.underlying22 Tryz.underlying5 Tryz.underlying9
    (.inr ⟨u.heap.size, 1, #[.int .u8 (b.toNat : Int)], (0, 0), rfl, Nat.le_refl _, heap_alloc_new u _, .inl rfl, Nat.le_refl _, by unfold maxLen; omega, rfl, rfl⟩)
def BentPost (B g N : Nat) (w : World) (most : Nat) (e : Ending) (w' : World) : Prop := ∃ s : ByteArray, e = .returned (.string s) ∧ s.size ≤ most ∧ Rd w' B g (N + 5) ∧ w.grownBy w' (some g)

/-- what SumGet is drawn with -/
def GetDrawn (w : World) (e : Ending) (w' : World) : Prop := ∃ (kd : Int) (s : ByteArray), e = .returned (.tuple #[.int .i64 kd, .string s]) ∧ s.size ≤ 100 ∧ Below w.heap.size w w'
end Go.Proofs.YtcegpcggdcgjbaaGreatDoor
