/- The draw of one of a list of strings. -/
import Derived.Test.YtcegpcggdcgjbaaGreatDoorKitDraw
namespace Go.Proofs.YtcegpcggdcgjbaaGreatDoor
open Go.ChangeShapes Go.WideShapes Go.ChangeAt Go.RowKit
theorem of_any {w : World} {B g N m : Nat} (xs : List ByteArray) (t : TypeId) (h : Rd w B g N) (hN : N ≤ 1000000000) (hx : 1 ≤ xs.length) (hx2 : xs.length ≤ 1000) (hm : ¬ m = g)
    (hl : w.heap[m]? = some (.cells (xs.map Value.string).toArray t (0, 0))) :
    Calls Tryz.prog 11 #[.pointer (some ⟨g, 0, none⟩), .slice (some ⟨m, 0, none⟩) xs.length xs.length] w fun e w' => ∃ x : ByteArray, x ∈ xs ∧ e = .returned (.string x) ∧ Rd w' B g (N + 1) ∧ w.grownBy w' (some g) := by
  have HL := Lib.hid hl
  have HR := Lib.hid h
  have hml : m < w.heap.size := (Array.getElem?_eq_some_iff.1 hl).1
  clear hl h
  go_enter Tryz.func11, Tryz.ntmps11
  go_wp2_with fail
  refine (pick_any _ HR.out hN).mono ?_
  rintro e w1 ⟨⟨x, rfl, hx1, _⟩, hr1, hg1⟩
  obtain ⟨h0, h1⟩ := hx1 (by omega)
  obtain ⟨k, rfl⟩ := Int.eq_ofNat_of_zero_le h0
  have hk : k < xs.length := by omega
  have hc : w1.cell? ⟨m, k, none⟩ = some (.string xs[k]) := by
    rw [World.cell?_of_block (w := w) (a := ⟨m, k, none⟩) (hg1.block m hml (by intro e; injection e with e; exact hm e)), cell_of_row w m k _ _ _ HL.out]
    simp [hk]
  have HR1 := Lib.hid hr1
  have HG1 := Lib.hid hg1
  clear hr1 hg1 hx1
  go_wp2
  go_ret
  exact ⟨xs[k], List.getElem_mem _, rfl, HR1.out, HG1.out⟩
end Go.Proofs.YtcegpcggdcgjbaaGreatDoor
