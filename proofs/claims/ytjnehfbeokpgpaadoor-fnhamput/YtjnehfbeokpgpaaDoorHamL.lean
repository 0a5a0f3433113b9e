/- What the listed variable holds when the call begins: the places of the data. -/
import Derived.Test.YtjnehfbeokpgpaaDoorHamD
import Derived.ProofKit
import Derived.LaidMore
import Derived.OpenShut
import Derived.OpenVars
import Derived.ChangeVars
import Derived.Stop.Joined
namespace Go.Proofs.YtjnehfbeokpgpaaDoor
open Go.ChangeShapes Go.WideShapes Go.ChangeAt Go.WideMaps Go.WideElems Go.RowKit
def laidHam : List (String × DataW Unit) := [("loop.example/cotterpin/impl.dataPlaces", Rows.laid_loop_example_cotterpin_impl_dataPlaces)]
theorem gPlaces : Tryd.prog.globalNamed "loop.example/cotterpin/impl.dataPlaces" = some 0 := by kernel_rfl
theorem tPlaces : (Tryd.prog.globals[0]?).map (·.type) = some 51 := by kernel_rfl
theorem door_met (os : Os) (args : Array Value) : laidMetH Tryd.prog laidHam ((World.doorLaid Tryd.prog 400 os).forCall (fun _ _ => 0) ⟨#[], args, []⟩).memory :=
  laidMetH_of_parts3 (fuel := 8) (laidMet_of_run' 8 (by kernel_rfl) (by kernel_rfl)) (by kernel_rfl) (by kernel_rfl)
theorem laid_gives {W : World} (h : laidMetH Tryd.prog laidHam W) : DP W := by
  rw [MakeChecks.laidMetH_plain _ _ _ (by kernel_rfl)] at h
  obtain ⟨ps, ⟨g0, t0, cs0, f0, p0, q0, hg0, ht0, hv0, hd0, _, _⟩, _, _⟩ := h
  obtain rfl := Option.some.inj (gPlaces.symm.trans hg0)
  obtain rfl := Option.some.inj (tPlaces.symm.trans ht0)
  obtain ⟨xs, m1, rfl, hx1, hlen, hn4, hel⟩ := DataW.trod_array Tryd.underlying51 hd0
  have c3 : Tryd.prog.cellsOf 3 = 1 := by kernel_rfl
  have c51 : Tryd.prog.cellsOf 51 = 4 := by kernel_rfl
  have h0 := hel 0 (by decide)
  have h1 := hel 1 (by decide)
  have h2 := hel 2 (by decide)
  have h3 := hel 3 (by decide)
  simp only [Prod.mk.injEq, DataW.agg.injEq, Rows.laid_loop_example_cotterpin_impl_dataPlaces] at hx1
  rw [c51] at hlen
  rw [c3] at h0 h1 h2 h3
  have key : ∀ (i : Nat) (x : DataW Unit × List MemPlace) (v : Value) (n : Int), DataW.trod (fun _ => ()) Tryd.prog W 0 (fun _ => true) false m1 3 [v] = some x → x.1 = .lit (.int .i64 n) → v = .int .i64 n := by
    intro i x v n hx he
    obtain ⟨k, e1, e2, _⟩ := DataW.trod_int Tryd.underlying3 hx
    rw [e2] at he
    simp at e1 he
    rw [e1, he]
  match xs, hn4, hx1, h0, h1, h2, h3 with
  | [x0, x1, x2, x3], _, hx1, h0, h1, h2, h3 =>
    simp only [List.map_cons, List.map_nil, List.cons.injEq, and_true] at hx1
    obtain ⟨y0, y1, y2, y3⟩ := hx1.1
    have hc : ∀ i, W.cell? ⟨0, i, none⟩ = cs0[i]? := fun i => by simpa using World.var?_cell gPlaces hv0 i
    obtain ⟨l⟩ := cs0
    simp only at hlen h0 h1 h2 h3
    match l, hlen with
    | [c0, c1, c2, c3], _ =>
      have e0 := key 0 x0 c0 3 h0 y0.symm
      have e1 := key 1 x1 c1 5 h1 y1.symm
      have e2 := key 2 x2 c2 6 h2 y2.symm
      have e3 := key 3 x3 c3 7 h3 y3.symm
      subst e0 e1 e2 e3
      have k0 := hc 0
      have k1 := hc 1
      have k2 := hc 2
      have k3 := hc 3
      simp at k0 k1 k2 k3
      exact ⟨block_lt_of_cell (a := ⟨0, 0, none⟩) k0, k0, k1, k2, k3⟩
end Go.Proofs.YtjnehfbeokpgpaaDoor
