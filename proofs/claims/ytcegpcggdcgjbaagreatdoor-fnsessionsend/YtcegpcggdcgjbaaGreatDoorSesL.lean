/- What the listed variables hold when the call begins: the powers of ten, the two errors, the names of the events. -/
import Derived.Test.YtcegpcggdcgjbaaGreatDoorSesS
import Derived.Test.YtcegpcggdcgjbaaGreatDoorSesP
import Derived.Stop.Joined
import Derived.Lay
import Derived.Test.YtcegpcggdcgjbaaGreatDoorCards
import Derived.ProofKit
import Derived.LaidMore
import Derived.OpenShut
import Derived.OpenVars
import Derived.ChangeVars
import Derived.Stop.LaidErr
import Derived.Lib.LaidTab
import Derived.Test.YtcegpcggdcgjbaaGreatDoorKitA
namespace Go.Proofs.YtcegpcggdcgjbaaGreatDoor
open Go.ChangeShapes Go.WideShapes Go.ChangeAt Go.WideMaps Go.WideElems Go.RowKit
theorem gPow : Tryz.prog.globalNamed "internal/strconv.uint64pow10" = some 2 := by kernel_rfl
theorem gSyn : Tryz.prog.globalNamed "strconv.ErrSyntax" = some 5 := by kernel_rfl
theorem gRan : Tryz.prog.globalNamed "strconv.ErrRange" = some 6 := by kernel_rfl
theorem tPow : (Tryz.prog.globals[2]?).map (·.type) = some 147 := by kernel_rfl
theorem tSyn : (Tryz.prog.globals[5]?).map (·.type) = some 44 := by kernel_rfl
theorem tRan : (Tryz.prog.globals[6]?).map (·.type) = some 44 := by kernel_rfl
theorem starN : "*" ++ "errors.errorString" = "*errors.errorString" := by decide
theorem rowErr (u : TypeId) (h : Tryz.prog.typeName? 3 u = some "*errors.errorString") : u = 181 :=
  typeName_ptr_named (nm := "errors.errorString") (by rw [starN]; kernel_rfl) (by kernel_rfl) (by decide) u (by rw [starN]; exact h)
theorem cErr : Tryz.prog.cellsOf 183 = 1 := by kernel_rfl
theorem cStr : Tryz.prog.cellsOf 9 = 1 := by kernel_rfl
theorem cU64 : Tryz.prog.cellsOf 128 = 1 := by kernel_rfl
theorem cPow : Tryz.prog.cellsOf 147 = 20 := by kernel_rfl
theorem powTab : (Rows.laid_internal_strconv_uint64pow10 : DataW Unit) = Lib.tabData .u64 Lib.pow10Tab := by kernel_rfl
theorem var_keep {n : String} {g : Nat} {w w' : World} (hg : Tryz.prog.globalNamed n = some g) (h : w'.heap[g]? = w.heap[g]?) : w'.var? Tryz.prog n = w.var? Tryz.prog n := by
  unfold World.var?
  rw [hg]
  simp only [Option.bind_some, h]
theorem var_lt {n : String} {g : Nat} {w : World} {cs : Array Value} (hg : Tryz.prog.globalNamed n = some g) (h : w.var? Tryz.prog n = some cs) : g < w.heap.size := by
  unfold World.var? at h
  rw [hg] at h
  simp only [Option.bind_some] at h
  rcases Nat.lt_or_ge g w.heap.size with h' | h'
  · exact h'
  · simp [Array.getElem?_eq_none h'] at h
def PowIs (w : World) : Prop := Lib.TabIs Tryz.prog w "internal/strconv.uint64pow10" .u64 Lib.pow10Tab
theorem PowIs.keep {w w' : World} (h : PowIs w) (hk : ∀ g, g < 7 → w'.heap[g]? = w.heap[g]?) : PowIs w' := (var_keep gPow (hk 2 (by omega))).trans h
theorem PowIs.size {w : World} (h : PowIs w) : 2 < w.heap.size := var_lt gPow h
theorem PowIs.below {w w' : World} (h : PowIs w) (hb : Below w.heap.size w w') : PowIs w' := (var_keep gPow (hb.block 2 h.size)).trans h
def NumIs (w : World) : Prop := PowIs w ∧ (∃ tp p, w.var? Tryz.prog "strconv.ErrRange" = some #[.iface tp p]) ∧ (∃ tp p, w.var? Tryz.prog "strconv.ErrSyntax" = some #[.iface tp p])
theorem NumIs.pow {w : World} (h : NumIs w) : PowIs w := h.1
theorem NumIs.keep {w w' : World} (h : NumIs w) (hk : ∀ g, g < 7 → w'.heap[g]? = w.heap[g]?) : NumIs w' := by
  obtain ⟨h1, ⟨tp, p, h2⟩, tq, q, h3⟩ := h
  exact ⟨h1.keep hk, ⟨tp, p, (var_keep gRan (hk 6 (by omega))).trans h2⟩, tq, q, (var_keep gSyn (hk 5 (by omega))).trans h3⟩
theorem NumIs.size {w : World} (h : NumIs w) : 7 ≤ w.heap.size := by
  obtain ⟨_, ⟨tp, p, h2⟩, _⟩ := h
  exact var_lt gRan h2
theorem NumIs.below {w w' : World} (h : NumIs w) (hb : Below w.heap.size w w') : NumIs w' := h.keep fun g hg => hb.block g (by have := h.size; omega)
theorem NumIs.grown {w w' : World} {g : Nat} (h : NumIs w) (hg : 7 ≤ g) (hb : w.grownBy w' (some g)) : NumIs w' :=
  h.keep fun k hk => hb.block k (by have := h.size; omega) (fun e => by injection e with e; omega)
theorem NumIs.drew {w : World} (h : NumIs w) : NumIs w.drew := h
theorem PowIs.drew {w : World} (h : PowIs w) : PowIs w.drew := h
theorem gEvn : Tryz.prog.globalNamed "loop.example/cotterpin/impl.eventNames" = some 0 := by kernel_rfl
theorem tEvn : (Tryz.prog.globals[0]?).map (·.type) = some 111 := by kernel_rfl
/-- the names of the events lie in the first block -/
def EvIs (w : World) : Prop := 0 < w.heap.size ∧ w.cell? ⟨0, 0, none⟩ = some (.string ⟨#[]⟩) ∧ w.cell? ⟨0, 1, none⟩ = some (.string ⟨#[102, 114, 97, 109, 101]⟩) ∧ w.cell? ⟨0, 2, none⟩ = some (.string ⟨#[115, 117, 109]⟩) ∧ w.cell? ⟨0, 3, none⟩ = some (.string ⟨#[97, 98, 111, 114, 116]⟩) ∧ w.cell? ⟨0, 4, none⟩ = some (.string ⟨#[114, 117, 110, 116]⟩) ∧ w.cell? ⟨0, 5, none⟩ = some (.string ⟨#[108, 111, 110, 103]⟩) ∧ w.cell? ⟨0, 6, none⟩ = some (.string ⟨#[119, 114, 111, 110, 103]⟩)
theorem EvIs.keep {w w' : World} (h : EvIs w) (hs : w.heap.size ≤ w'.heap.size) (hk : w'.heap[0]? = w.heap[0]?) : EvIs w' := by
  have hc : ∀ i, w'.cell? ⟨0, i, none⟩ = w.cell? ⟨0, i, none⟩ := fun i => by unfold World.cell?; rw [hk]
  obtain ⟨h0, h1, h2, h3, h4, h5, h6, h7⟩ := h
  exact ⟨by omega, (hc _).trans h1, (hc _).trans h2, (hc _).trans h3, (hc _).trans h4, (hc _).trans h5, (hc _).trans h6, (hc _).trans h7⟩
theorem EvIs.at_ {w : World} (h : EvIs w) {k : Nat} (hk : 1 ≤ k ∧ k ≤ 6) : w.cell? ⟨0, k, none⟩ = some (.string ⟨(evNm k).toArray⟩) := by
  obtain ⟨h0, h1, h2, h3, h4, h5, h6, h7⟩ := h
  have : k = 1 ∨ k = 2 ∨ k = 3 ∨ k = 4 ∨ k = 5 ∨ k = 6 := by omega
  rcases this with rfl | rfl | rfl | rfl | rfl | rfl
  · exact h2
  · exact h3
  · exact h4
  · exact h5
  · exact h6
  · exact h7
/-- what a session asks of the listed variables -/
def SesIs (w : World) : Prop := NumIs w ∧ EvIs w
theorem SesIs.pow {w : World} (h : SesIs w) : PowIs w := h.1.pow
theorem SesIs.size {w : World} (h : SesIs w) : 7 ≤ w.heap.size := h.1.size
theorem SesIs.keep {w w' : World} (h : SesIs w) (hs : w.heap.size ≤ w'.heap.size) (hk : ∀ g, g < 7 → w'.heap[g]? = w.heap[g]?) : SesIs w' := ⟨h.1.keep hk, h.2.keep hs (hk 0 (by omega))⟩
theorem SesIs.below {w w' : World} (h : SesIs w) {B : Nat} (hB : 7 ≤ B) (hb : Below B w w') : SesIs w' := h.keep hb.size fun g hg => hb.block g (by omega)
theorem SesIs.from {w w' : World} (h : SesIs w) (hb : Below w.heap.size w w') : SesIs w' := h.below h.size hb
theorem SesIs.grown {w w' : World} {g : Nat} (h : SesIs w) (hg : 7 ≤ g) (hb : w.grownBy w' (some g)) : SesIs w' :=
  h.keep hb.size fun k hk => hb.block k (by have := h.size; omega) (fun e => by injection e with e; omega)
theorem SesIs.drew {w : World} (h : SesIs w) : SesIs w.drew := h
theorem SesIs.alloc {w : World} (h : SesIs w) (o : Obj) : SesIs (w.alloc o) := h.from ((Below.refl _ _).alloc (Nat.le_refl _) o)
def laidSes : List (String × DataW Unit) := [("math/bits.deBruijn32tab", Rows.laid_math_bits_deBruijn32tab), ("math/bits.deBruijn64tab", Rows.laid_math_bits_deBruijn64tab), ("internal/strconv.uint64pow10", Rows.laid_internal_strconv_uint64pow10), ("unicode/utf8.acceptRanges", Rows.laid_unicode_utf8_acceptRanges), ("strconv.ErrRange", Rows.laid_strconv_ErrRange), ("strconv.ErrSyntax", Rows.laid_strconv_ErrSyntax), ("loop.example/cotterpin/impl.eventNames", Rows.laid_loop_example_cotterpin_impl_eventNames), ("unicode/utf8.first", Rows.laid_unicode_utf8_first)]
theorem door_met (os : Os) (args : Array Value) : laidMetH Tryz.prog laidSes ((World.laidAll Tryz.prog os laidSes).forCall (fun _ _ => 0) ⟨#[], args, []⟩).memory := by
  rw [MakeChecks.laidMetH_plain _ _ _ (by kernel_rfl)]
  exact laidMet_laidAll _ (by kernel_rfl) (by kernel_rfl)
set_option maxRecDepth 100000 in
theorem ses_gives {W : World} (h : laidMetH Tryz.prog laidSes W) : SesIs W := by
  rw [MakeChecks.laidMetH_plain _ _ _ (by kernel_rfl)] at h
  have h3 := h.tail.tail
  have h5 := h3.tail.tail
  have h6 := h5.tail
  have h7 := h6.tail
  rw [powTab] at h3
  obtain ⟨a, _, ha, _⟩ := laid_sentinel h5 gRan tRan Tryz.underlying44 rowErr Tryz.underlying181 Tryz.underlying183 rfl rfl Tryz.underlying9 cErr cStr
  obtain ⟨b, _, hb, _⟩ := laid_sentinel h6 gSyn tSyn Tryz.underlying44 rowErr Tryz.underlying181 Tryz.underlying183 rfl rfl Tryz.underlying9 cErr cStr
  refine ⟨⟨Lib.tabIs_of_head gPow tPow Tryz.underlying147 Tryz.underlying128 cU64 cPow h3, ⟨_, _, ha⟩, _, _, hb⟩, ?_⟩
  obtain ⟨ps, ⟨g0, t0, cs0, f0, p0, q0, hg0, ht0, hv0, hd0, _, _⟩, _, _⟩ := h7
  obtain rfl := Option.some.inj (gEvn.symm.trans hg0)
  obtain rfl := Option.some.inj (tEvn.symm.trans ht0)
  obtain ⟨xs, m1, rfl, hx1, hlen, hn7, hel⟩ := DataW.trod_array Tryz.underlying111 hd0
  have c1 : Tryz.prog.cellsOf 9 = 1 := by kernel_rfl
  have c7 : Tryz.prog.cellsOf 111 = 7 := by kernel_rfl
  have q0 := hel 0 (by decide)
  have q1 := hel 1 (by decide)
  have q2 := hel 2 (by decide)
  have q3 := hel 3 (by decide)
  have q4 := hel 4 (by decide)
  have q5 := hel 5 (by decide)
  have q6 := hel 6 (by decide)
  simp only [Prod.mk.injEq, DataW.agg.injEq, Rows.laid_loop_example_cotterpin_impl_eventNames] at hx1
  rw [c7] at hlen
  rw [c1] at q0 q1 q2 q3 q4 q5 q6
  have key : ∀ (x : DataW Unit × List MemPlace) (v : Value) (l : List UInt8), DataW.trod (fun _ => ()) Tryz.prog W 0 (fun _ => true) false m1 9 [v] = some x → x.1 = .lit (.string l) → v = .string ⟨l.toArray⟩ := by
    intro x v l hx he
    obtain ⟨k, e1, e2, _⟩ := DataW.trod_string Tryz.underlying9 hx
    rw [e2] at he
    simp at e1 he
    rw [e1, ← he]
  match xs, hn7, hx1, q0, q1, q2, q3, q4, q5, q6 with
  | [x0, x1, x2, x3, x4, x5, x6], _, hx1, q0, q1, q2, q3, q4, q5, q6 =>
    simp only [List.map_cons, List.map_nil, List.cons.injEq, and_true] at hx1
    obtain ⟨y0, y1, y2, y3, y4, y5, y6⟩ := hx1.1
    have hc : ∀ i, W.cell? ⟨0, i, none⟩ = cs0[i]? := fun i => by simpa using World.var?_cell gEvn hv0 i
    obtain ⟨l⟩ := cs0
    simp only at hlen q0 q1 q2 q3 q4 q5 q6
    match l, hlen with
    | [c0, c1, c2, c3, c4, c5, c6], _ =>
      have e0 := key x0 c0 [] q0 y0.symm
      have e1 := key x1 c1 [102, 114, 97, 109, 101] q1 y1.symm
      have e2 := key x2 c2 [115, 117, 109] q2 y2.symm
      have e3 := key x3 c3 [97, 98, 111, 114, 116] q3 y3.symm
      have e4 := key x4 c4 [114, 117, 110, 116] q4 y4.symm
      have e5 := key x5 c5 [108, 111, 110, 103] q5 y5.symm
      have e6 := key x6 c6 [119, 114, 111, 110, 103] q6 y6.symm
      subst e0 e1 e2 e3 e4 e5 e6
      have k0 := hc 0
      have k1 := hc 1
      have k2 := hc 2
      have k3 := hc 3
      have k4 := hc 4
      have k5 := hc 5
      have k6 := hc 6
      simp at k0 k1 k2 k3 k4 k5 k6
      exact ⟨block_lt_of_cell (a := ⟨0, 0, none⟩) k0, k0, k1, k2, k3, k4, k5, k6⟩
end Go.Proofs.YtcegpcggdcgjbaaGreatDoor
