/-
  NARROWER THAN 'FOR EVERY INPUT', by the rows' own cells (each row's printed sentence says how): FnHamPut: laid · FnHamGet: laid · FnHamBlocks: laid · FnExactHamPut: laid · FnExactHamGet: laid.
  DERIVED. THE GIVEN ROWS OF THIS SEAT. 5 by the template 'for every input the law returns true; each argument reads behind the call as it read before'; 0 by the template 'total and deterministic' (their statements: YtjnehfbeokpgpaaDoorTotals.lean).
  GIVEN WITH THE SEED: the statements are not yours to turn. If you find one false, say at which input.
  Laid BY PROGRAM, IN A SANDBOX (cutbox-rows.mjs): the forced cells as the released guide's own fill.sh prints them over the translation 472e3305e5fda6d3… (all of the seat's roots in one cut). By AI agents, Wed Nov 11 2026. No macro, syntax, notation, axiom, sorry.
-/
import Derived.Test.YtjnehfbeokpgpaaDoorChecked
import GoSem.Claim
import GoSem.ClaimJoined
import GoSem.ClaimMapViews
import Derived.JoinedTies
import Derived.KernelRfl
namespace Go.Proofs.YtjnehfbeokpgpaaDoor
/- THE CELL 'sum', in the pinned program and in every row, IS THE sha256 OF THE DUMP (.gsa) THAT YtjnehfbeokpgpaaDoorProg.lean LOADS. Nothing in Lean hashes anything: it is a label: what it is worth is what the hold of that sum in a sandbox is worth. -/
noncomputable def Tryd.pinned : Pinned := { name := "ytjnehfbeokpgpaadoor", sum := "472e3305e5fda6d32d76964b67dca854881276ad3e43aae2668696f88d042ec7", checked := Tryd.checked }
namespace Rows
def none {H : Type} : Left H := { results := [], args := [] }

/- WHAT THE LISTED PACKAGE-LEVEL VARIABLES READ AS WHEN THE CALL BEGINS. Each datum BY PROGRAM (the guide's laid-datum.mjs) off the statement by which the dump's own 'gosem.cut.vars' lays the variable. In a bare row this is a premise. The card (YtjnehfbeokpgpaaDoorCards.lean) ties it to the program's text. -/
def laid_loop_example_cotterpin_impl_dataPlaces {H : Type} : DataW H := .agg [.lit (.int .i64 3), .lit (.int .i64 5), .lit (.int .i64 6), .lit (.int .i64 7)]

/-- 'laws.FnHamPut': WHATEVER THE INPUT: true; the input reads as it did. -/
def fnHamPutSpec : ChangeSpec := { name := "fnHamPut", vars := ["loop.example/cotterpin/impl.dataPlaces"], fn := fun _ => fun
  | [d1, d2, g1] => { results := [.lit (.bool true)], args := [d1, d2], vars := [g1] }
  | _ => none }
def fnHamPutRow : OpenClaim := { program := "ytjnehfbeokpgpaadoor", sum := "472e3305e5fda6d32d76964b67dca854881276ad3e43aae2668696f88d042ec7", func := "loop.example/cotterpin/laws.FnHamPut", spec := "fnHamPut", named := ["loop.example/cotterpin/impl.dataPlaces"], apart := false, laid := [("loop.example/cotterpin/impl.dataPlaces", laid_loop_example_cotterpin_impl_dataPlaces)] }
def FnHamPutSaid : Prop := fnHamPutRow.holds Tryd.pinned (OpenSpec.ofChange fnHamPutSpec)

/-- ITS FALSE NEIGHBOUR: 'it returns false'. Refute it at one input. -/
def fnHamPutWrong : ChangeSpec := { name := "fnHamPut", vars := ["loop.example/cotterpin/impl.dataPlaces"], fn := fun _ => fun
  | [d1, d2, g1] => { results := [.lit (.bool false)], args := [d1, d2], vars := [g1] }
  | _ => none }
def FnHamPutWrongFalsely : Prop := fnHamPutRow.holds Tryd.pinned (OpenSpec.ofChange fnHamPutWrong)

/-- 'laws.FnHamGet': WHATEVER THE INPUT: true; the input reads as it did. -/
def fnHamGetSpec : ChangeSpec := { name := "fnHamGet", vars := ["loop.example/cotterpin/impl.dataPlaces"], fn := fun _ => fun
  | [d, g1] => { results := [.lit (.bool true)], args := [d], vars := [g1] }
  | _ => none }
def fnHamGetRow : OpenClaim := { program := "ytjnehfbeokpgpaadoor", sum := "472e3305e5fda6d32d76964b67dca854881276ad3e43aae2668696f88d042ec7", func := "loop.example/cotterpin/laws.FnHamGet", spec := "fnHamGet", named := ["loop.example/cotterpin/impl.dataPlaces"], apart := false, laid := [("loop.example/cotterpin/impl.dataPlaces", laid_loop_example_cotterpin_impl_dataPlaces)] }
def FnHamGetSaid : Prop := fnHamGetRow.holds Tryd.pinned (OpenSpec.ofChange fnHamGetSpec)

/-- ITS FALSE NEIGHBOUR: 'it returns false'. Refute it at one input. -/
def fnHamGetWrong : ChangeSpec := { name := "fnHamGet", vars := ["loop.example/cotterpin/impl.dataPlaces"], fn := fun _ => fun
  | [d, g1] => { results := [.lit (.bool false)], args := [d], vars := [g1] }
  | _ => none }
def FnHamGetWrongFalsely : Prop := fnHamGetRow.holds Tryd.pinned (OpenSpec.ofChange fnHamGetWrong)

/-- 'laws.FnHamBlocks': WHATEVER THE INPUT: true; the input reads as it did. -/
def fnHamBlocksSpec : ChangeSpec := { name := "fnHamBlocks", vars := ["loop.example/cotterpin/impl.dataPlaces"], fn := fun _ => fun
  | [d1, d2, g1] => { results := [.lit (.bool true)], args := [d1, d2], vars := [g1] }
  | _ => none }
def fnHamBlocksRow : OpenClaim := { program := "ytjnehfbeokpgpaadoor", sum := "472e3305e5fda6d32d76964b67dca854881276ad3e43aae2668696f88d042ec7", func := "loop.example/cotterpin/laws.FnHamBlocks", spec := "fnHamBlocks", named := ["loop.example/cotterpin/impl.dataPlaces"], apart := false, laid := [("loop.example/cotterpin/impl.dataPlaces", laid_loop_example_cotterpin_impl_dataPlaces)] }
def FnHamBlocksSaid : Prop := fnHamBlocksRow.holds Tryd.pinned (OpenSpec.ofChange fnHamBlocksSpec)

/-- ITS FALSE NEIGHBOUR: 'it returns false'. Refute it at one input. -/
def fnHamBlocksWrong : ChangeSpec := { name := "fnHamBlocks", vars := ["loop.example/cotterpin/impl.dataPlaces"], fn := fun _ => fun
  | [d1, d2, g1] => { results := [.lit (.bool false)], args := [d1, d2], vars := [g1] }
  | _ => none }
def FnHamBlocksWrongFalsely : Prop := fnHamBlocksRow.holds Tryd.pinned (OpenSpec.ofChange fnHamBlocksWrong)

/-- 'laws.FnExactHamPut': WHATEVER THE INPUT: true; the input reads as it did. -/
def fnExactHamPutSpec : ChangeSpec := { name := "fnExactHamPut", vars := ["loop.example/cotterpin/impl.dataPlaces"], fn := fun _ => fun
  | [d, g1] => { results := [.lit (.bool true)], args := [d], vars := [g1] }
  | _ => none }
def fnExactHamPutRow : OpenClaim := { program := "ytjnehfbeokpgpaadoor", sum := "472e3305e5fda6d32d76964b67dca854881276ad3e43aae2668696f88d042ec7", func := "loop.example/cotterpin/laws.FnExactHamPut", spec := "fnExactHamPut", named := ["loop.example/cotterpin/impl.dataPlaces"], apart := false, laid := [("loop.example/cotterpin/impl.dataPlaces", laid_loop_example_cotterpin_impl_dataPlaces)] }
def FnExactHamPutSaid : Prop := fnExactHamPutRow.holds Tryd.pinned (OpenSpec.ofChange fnExactHamPutSpec)

/-- ITS FALSE NEIGHBOUR: 'it returns false'. Refute it at one input. -/
def fnExactHamPutWrong : ChangeSpec := { name := "fnExactHamPut", vars := ["loop.example/cotterpin/impl.dataPlaces"], fn := fun _ => fun
  | [d, g1] => { results := [.lit (.bool false)], args := [d], vars := [g1] }
  | _ => none }
def FnExactHamPutWrongFalsely : Prop := fnExactHamPutRow.holds Tryd.pinned (OpenSpec.ofChange fnExactHamPutWrong)

/-- 'laws.FnExactHamGet': WHATEVER THE INPUT: true; the input reads as it did. -/
def fnExactHamGetSpec : ChangeSpec := { name := "fnExactHamGet", vars := ["loop.example/cotterpin/impl.dataPlaces"], fn := fun _ => fun
  | [d, g1] => { results := [.lit (.bool true)], args := [d], vars := [g1] }
  | _ => none }
def fnExactHamGetRow : OpenClaim := { program := "ytjnehfbeokpgpaadoor", sum := "472e3305e5fda6d32d76964b67dca854881276ad3e43aae2668696f88d042ec7", func := "loop.example/cotterpin/laws.FnExactHamGet", spec := "fnExactHamGet", named := ["loop.example/cotterpin/impl.dataPlaces"], apart := false, laid := [("loop.example/cotterpin/impl.dataPlaces", laid_loop_example_cotterpin_impl_dataPlaces)] }
def FnExactHamGetSaid : Prop := fnExactHamGetRow.holds Tryd.pinned (OpenSpec.ofChange fnExactHamGetSpec)

/-- ITS FALSE NEIGHBOUR: 'it returns false'. Refute it at one input. -/
def fnExactHamGetWrong : ChangeSpec := { name := "fnExactHamGet", vars := ["loop.example/cotterpin/impl.dataPlaces"], fn := fun _ => fun
  | [d, g1] => { results := [.lit (.bool false)], args := [d], vars := [g1] }
  | _ => none }
def FnExactHamGetWrongFalsely : Prop := fnExactHamGetRow.holds Tryd.pinned (OpenSpec.ofChange fnExactHamGetWrong)

/- THE SECOND FORM. 'bulk': how many values and letters a reading holds, each counted each time it is reached (what is shared counts as often as it is met; a slice's spare places count too). A statement '..UptoSaid' is the law's where the arguments, and the package variables that the reading takes, are together of bulk at most 1048576: NARROWER than '..Said'. Prove '..Said' where nothing that the law and all that it calls make is longer than what came in: it says more and counts as full. Else prove '..UptoSaid'. A law counts once. -/
mutual
def uptoBulk {H : Type} : DataW H → Nat
  | .lit (.string bytes) => bytes.length + 1
  | .lit _ => 1
  | .nil => 1
  | .ptr d => uptoBulk d + 1
  | .slice elems spare => uptoBulkAll elems + uptoBulkAll spare + 1
  | .agg parts => uptoBulkAll parts + 1
  | .iface _ d => uptoBulk d + 1
  | .map entries => uptoBulkEntries entries + 1
  | .held _ => 1
def uptoBulkAll {H : Type} : List (DataW H) → Nat
  | [] => 0
  | d :: r => uptoBulk d + uptoBulkAll r
def uptoBulkEntries {H : Type} : List (Lit × DataW H) → Nat
  | [] => 0
  | x :: r => uptoBulkEntry x + uptoBulkEntries r
def uptoBulkEntry {H : Type} : Lit × DataW H → Nat
  | (.string bytes, d) => bytes.length + uptoBulk d + 1
  | (_, d) => uptoBulk d + 1
 end
def uptoSmall : (H : Type) → List (DataW H) → Bool := fun _ ds => decide (uptoBulkAll ds ≤ 1048576)
def OpenSpec.upto (s : _root_.Go.ChangeSpec) : _root_.Go.OpenSpec := { _root_.Go.OpenSpec.ofChange s with cond := some uptoSmall }

/-- 'laws.FnHamPut', WHERE WHAT IT READS IS OF BULK AT MOST 1048576: true; the input reads as it did. -/
def fnHamPutUptoRow : OpenClaim := { program := "ytjnehfbeokpgpaadoor", sum := "472e3305e5fda6d32d76964b67dca854881276ad3e43aae2668696f88d042ec7", func := "loop.example/cotterpin/laws.FnHamPut", spec := "fnHamPut", named := ["loop.example/cotterpin/impl.dataPlaces"], apart := false, laid := [("loop.example/cotterpin/impl.dataPlaces", laid_loop_example_cotterpin_impl_dataPlaces)], narrowed := true }
def FnHamPutUptoSaid : Prop := fnHamPutUptoRow.holds Tryd.pinned (OpenSpec.upto fnHamPutSpec)

/-- 'laws.FnHamGet', WHERE WHAT IT READS IS OF BULK AT MOST 1048576: true; the input reads as it did. -/
def fnHamGetUptoRow : OpenClaim := { program := "ytjnehfbeokpgpaadoor", sum := "472e3305e5fda6d32d76964b67dca854881276ad3e43aae2668696f88d042ec7", func := "loop.example/cotterpin/laws.FnHamGet", spec := "fnHamGet", named := ["loop.example/cotterpin/impl.dataPlaces"], apart := false, laid := [("loop.example/cotterpin/impl.dataPlaces", laid_loop_example_cotterpin_impl_dataPlaces)], narrowed := true }
def FnHamGetUptoSaid : Prop := fnHamGetUptoRow.holds Tryd.pinned (OpenSpec.upto fnHamGetSpec)

/-- 'laws.FnHamBlocks', WHERE WHAT IT READS IS OF BULK AT MOST 1048576: true; the input reads as it did. -/
def fnHamBlocksUptoRow : OpenClaim := { program := "ytjnehfbeokpgpaadoor", sum := "472e3305e5fda6d32d76964b67dca854881276ad3e43aae2668696f88d042ec7", func := "loop.example/cotterpin/laws.FnHamBlocks", spec := "fnHamBlocks", named := ["loop.example/cotterpin/impl.dataPlaces"], apart := false, laid := [("loop.example/cotterpin/impl.dataPlaces", laid_loop_example_cotterpin_impl_dataPlaces)], narrowed := true }
def FnHamBlocksUptoSaid : Prop := fnHamBlocksUptoRow.holds Tryd.pinned (OpenSpec.upto fnHamBlocksSpec)

/-- 'laws.FnExactHamPut', WHERE WHAT IT READS IS OF BULK AT MOST 1048576: true; the input reads as it did. -/
def fnExactHamPutUptoRow : OpenClaim := { program := "ytjnehfbeokpgpaadoor", sum := "472e3305e5fda6d32d76964b67dca854881276ad3e43aae2668696f88d042ec7", func := "loop.example/cotterpin/laws.FnExactHamPut", spec := "fnExactHamPut", named := ["loop.example/cotterpin/impl.dataPlaces"], apart := false, laid := [("loop.example/cotterpin/impl.dataPlaces", laid_loop_example_cotterpin_impl_dataPlaces)], narrowed := true }
def FnExactHamPutUptoSaid : Prop := fnExactHamPutUptoRow.holds Tryd.pinned (OpenSpec.upto fnExactHamPutSpec)

/-- 'laws.FnExactHamGet', WHERE WHAT IT READS IS OF BULK AT MOST 1048576: true; the input reads as it did. -/
def fnExactHamGetUptoRow : OpenClaim := { program := "ytjnehfbeokpgpaadoor", sum := "472e3305e5fda6d32d76964b67dca854881276ad3e43aae2668696f88d042ec7", func := "loop.example/cotterpin/laws.FnExactHamGet", spec := "fnExactHamGet", named := ["loop.example/cotterpin/impl.dataPlaces"], apart := false, laid := [("loop.example/cotterpin/impl.dataPlaces", laid_loop_example_cotterpin_impl_dataPlaces)], narrowed := true }
def FnExactHamGetUptoSaid : Prop := fnExactHamGetUptoRow.holds Tryd.pinned (OpenSpec.upto fnExactHamGetSpec)

end Rows
end Go.Proofs.YtjnehfbeokpgpaaDoor
