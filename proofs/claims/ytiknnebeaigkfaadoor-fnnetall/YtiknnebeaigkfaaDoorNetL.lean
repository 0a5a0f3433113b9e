/- What the listed variables hold when the call begins: the powers of ten, the two errors. -/
import Derived.Test.YtiknnebeaigkfaaDoorNetS
import Derived.Test.YtiknnebeaigkfaaDoorCards
import Derived.ProofKit
import Derived.LaidMore
import Derived.OpenShut
import Derived.OpenVars
import Derived.ChangeVars
import Derived.Stop.Joined
import Derived.Stop.LaidErr
import Derived.Lib.LaidTab
import Derived.Test.YtiknnebeaigkfaaDoorKitA
namespace Go.Proofs.YtiknnebeaigkfaaDoor
open Go.ChangeShapes Go.WideShapes Go.ChangeAt Go.WideMaps Go.WideElems Go.RowKit
theorem gPow : Tryd.prog.globalNamed "internal/strconv.uint64pow10" = some 1 := by kernel_rfl
theorem gSyn : Tryd.prog.globalNamed "strconv.ErrSyntax" = some 2 := by kernel_rfl
theorem gRan : Tryd.prog.globalNamed "strconv.ErrRange" = some 3 := by kernel_rfl
theorem tPow : (Tryd.prog.globals[1]?).map (·.type) = some 81 := by kernel_rfl
theorem tSyn : (Tryd.prog.globals[2]?).map (·.type) = some 55 := by kernel_rfl
theorem tRan : (Tryd.prog.globals[3]?).map (·.type) = some 55 := by kernel_rfl
theorem starN : "*" ++ "errors.errorString" = "*errors.errorString" := by decide
theorem rowErr (u : TypeId) (h : Tryd.prog.typeName? 3 u = some "*errors.errorString") : u = 95 :=
  typeName_ptr_named (nm := "errors.errorString") (by rw [starN]; kernel_rfl) (by kernel_rfl) (by decide) u (by rw [starN]; exact h)
theorem cErr : Tryd.prog.cellsOf 97 = 1 := by kernel_rfl
theorem cStr : Tryd.prog.cellsOf 9 = 1 := by kernel_rfl
theorem cU64 : Tryd.prog.cellsOf 67 = 1 := by kernel_rfl
theorem cPow : Tryd.prog.cellsOf 81 = 20 := by kernel_rfl
theorem powTab : (Rows.laid_internal_strconv_uint64pow10 : DataW Unit) = Lib.tabData .u64 Lib.pow10Tab := by kernel_rfl
theorem var_keep {n : String} {g : Nat} {w w' : World} (hg : Tryd.prog.globalNamed n = some g) (h : w'.heap[g]? = w.heap[g]?) : w'.var? Tryd.prog n = w.var? Tryd.prog n := by
  unfold World.var?
  rw [hg]
  simp only [Option.bind_some, h]
theorem var_lt {n : String} {g : Nat} {w : World} {cs : Array Value} (hg : Tryd.prog.globalNamed n = some g) (h : w.var? Tryd.prog n = some cs) : g < w.heap.size := by
  unfold World.var? at h
  rw [hg] at h
  simp only [Option.bind_some] at h
  rcases Nat.lt_or_ge g w.heap.size with h' | h'
  · exact h'
  · simp [Array.getElem?_eq_none h'] at h
def PowIs (w : World) : Prop := Lib.TabIs Tryd.prog w "internal/strconv.uint64pow10" .u64 Lib.pow10Tab
theorem PowIs.keep {w w' : World} (h : PowIs w) (hk : ∀ g, g < 4 → w'.heap[g]? = w.heap[g]?) : PowIs w' := (var_keep gPow (hk 1 (by omega))).trans h
theorem PowIs.size {w : World} (h : PowIs w) : 1 < w.heap.size := var_lt gPow h
theorem PowIs.below {w w' : World} (h : PowIs w) (hb : Below w.heap.size w w') : PowIs w' := (var_keep gPow (hb.block 1 h.size)).trans h
def NumIs (w : World) : Prop := PowIs w ∧ (∃ tp p, w.var? Tryd.prog "strconv.ErrRange" = some #[.iface tp p]) ∧ (∃ tp p, w.var? Tryd.prog "strconv.ErrSyntax" = some #[.iface tp p])
theorem NumIs.pow {w : World} (h : NumIs w) : PowIs w := h.1
theorem NumIs.keep {w w' : World} (h : NumIs w) (hk : ∀ g, g < 4 → w'.heap[g]? = w.heap[g]?) : NumIs w' := by
  obtain ⟨h1, ⟨tp, p, h2⟩, tq, q, h3⟩ := h
  exact ⟨h1.keep hk, ⟨tp, p, (var_keep gRan (hk 3 (by omega))).trans h2⟩, tq, q, (var_keep gSyn (hk 2 (by omega))).trans h3⟩
theorem NumIs.size {w : World} (h : NumIs w) : 4 ≤ w.heap.size := by
  obtain ⟨_, ⟨tp, p, h2⟩, _⟩ := h
  exact var_lt gRan h2
theorem NumIs.below {w w' : World} (h : NumIs w) (hb : Below w.heap.size w w') : NumIs w' := h.keep fun g hg => hb.block g (by have := h.size; omega)
theorem NumIs.grown {w w' : World} {g : Nat} (h : NumIs w) (hg : 4 ≤ g) (hb : w.grownBy w' (some g)) : NumIs w' :=
  h.keep fun k hk => hb.block k (by have := h.size; omega) (fun e => by injection e with e; omega)
theorem NumIs.drew {w : World} (h : NumIs w) : NumIs w.drew := h
theorem PowIs.drew {w : World} (h : PowIs w) : PowIs w.drew := h
def laidPow : List (String × DataW Unit) := [("math/bits.deBruijn32tab", Rows.laid_math_bits_deBruijn32tab), ("math/bits.deBruijn64tab", Rows.laid_math_bits_deBruijn64tab), ("internal/strconv.uint64pow10", Rows.laid_internal_strconv_uint64pow10)]
def laidNum : List (String × DataW Unit) := [("math/bits.deBruijn32tab", Rows.laid_math_bits_deBruijn32tab), ("math/bits.deBruijn64tab", Rows.laid_math_bits_deBruijn64tab), ("internal/strconv.uint64pow10", Rows.laid_internal_strconv_uint64pow10), ("strconv.ErrRange", Rows.laid_strconv_ErrRange), ("strconv.ErrSyntax", Rows.laid_strconv_ErrSyntax)]
theorem pow_met (os : Os) (args : Array Value) : laidMetH Tryd.prog laidPow ((World.doorLaid Tryd.prog 400 os).forCall (fun _ _ => 0) ⟨#[], args, []⟩).memory :=
  laidMetH_of_parts3 (fuel := 8) (laidMet_of_run' 8 (by kernel_rfl) (by kernel_rfl)) (by kernel_rfl) (by kernel_rfl)
theorem num_met (os : Os) (args : Array Value) : laidMetH Tryd.prog laidNum ((World.doorLaid Tryd.prog 400 os).forCall (fun _ _ => 0) ⟨#[], args, []⟩).memory :=
  laidMetH_of_parts3 (fuel := 8) (laidMet_of_run' 8 (by kernel_rfl) (by kernel_rfl)) (by kernel_rfl) (by kernel_rfl)
theorem pow_gives {W : World} (h : laidMetH Tryd.prog laidPow W) : PowIs W := by
  rw [MakeChecks.laidMetH_plain _ _ _ (by kernel_rfl)] at h
  have h3 := h.tail.tail
  rw [powTab] at h3
  exact Lib.tabIs_of_head gPow tPow Tryd.underlying81 Tryd.underlying67 cU64 cPow h3
theorem num_gives {W : World} (h : laidMetH Tryd.prog laidNum W) : NumIs W := by
  rw [MakeChecks.laidMetH_plain _ _ _ (by kernel_rfl)] at h
  have h3 := h.tail.tail
  have h4 := h3.tail
  have h5 := h4.tail
  rw [powTab] at h3
  obtain ⟨a, _, ha, _⟩ := laid_sentinel h4 gRan tRan Tryd.underlying55 rowErr Tryd.underlying95 Tryd.underlying97 rfl rfl Tryd.underlying9 cErr cStr
  obtain ⟨b, _, hb, _⟩ := laid_sentinel h5 gSyn tSyn Tryd.underlying55 rowErr Tryd.underlying95 Tryd.underlying97 rfl rfl Tryd.underlying9 cErr cStr
  exact ⟨Lib.tabIs_of_head gPow tPow Tryd.underlying81 Tryd.underlying67 cU64 cPow h3, ⟨_, _, ha⟩, _, _, hb⟩
end Go.Proofs.YtiknnebeaigkfaaDoor
