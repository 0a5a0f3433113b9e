/- What the laws of channels take: two of them compared. -/
import Derived.Test.YtplaagkcamjemaaMxY
import Derived.Test.YtplaagkcamjemaaMxO
import Derived.Test.YtplaagkcamjemaaMbG
namespace Go.Proofs.Ytplaagkcamjemaa
open Go.ChangeShapes Go.WideShapes Go.ChangeAt Go.RowKit
theorem ctMux_same (v v' : Value) (ss : List ByteArray) (w : World) (B B' : Nat) (h : RS w B v ss) (h' : RS w B' v' ss) (hB : B ≤ w.heap.size) (hB' : B' ≤ w.heap.size) (hl : ss.length ≤ 1048576) :
    Calls Try.prog 18 #[.agg #[v], .agg #[v']] w fun e w' => e = .returned (.bool true) ∧ Below w.heap.size w w' := by
  have hb2 : Below w.heap.size w ((w.alloc (.cells #[v] 35)).alloc (.cells #[v'] 35)) := ((Below.refl _ w).alloc (Nat.le_refl _) _).alloc (by simp) _
  have c0 := ((BK.new w #[v] 35).alloc (.cells #[v'] 35)).cell (i := 0) rfl
  have k1 := BK.new (w.alloc (.cells #[v] 35)) #[v'] 35
  rw [World.size_alloc] at k1
  have c1 := k1.cell (i := 0) rfl
  have H := Lib.hid (h.below (hb2.mono hB))
  have H' := Lib.hid (h'.below (hb2.mono hB'))
  have HB2 := Lib.hid hb2
  obtain ⟨a, cap, rfl⟩ := h.shape
  obtain ⟨a', cap', rfl⟩ := h'.shape
  clear h h' hb2 k1
  go_enter Try.func18, Try.ntmps18
  go_wp2_with fail
  refine (ctTexts_same _ _ ss _ B B' H.out H'.out (Nat.le_trans hB HB2.out.size) (Nat.le_trans hB' HB2.out.size) hl).mono ?_
  rintro e w2 ⟨rfl, hb⟩
  have HB3 := Lib.hid (HB2.out.trans (hb.mono HB2.out.size))
  clear hb
  go_wp2
  go_ret
  exact ⟨rfl, HB3.out⟩
end Go.Proofs.Ytplaagkcamjemaa
