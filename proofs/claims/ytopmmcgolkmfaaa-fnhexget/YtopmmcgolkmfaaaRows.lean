/-
  No cell of these rows narrows 'for every input' (looked for: loops, veiled, ifaces, maps, wideKeys, modest, calm, conditions, laid).
  DERIVED. THE GIVEN ROWS OF THIS SEAT. 4 by the template 'for every input the law returns true; each argument reads behind the call as it read before'; 0 by the template 'total and deterministic' (their statements: YtopmmcgolkmfaaaTotals.lean).
  GIVEN WITH THE SEED: the statements are not yours to turn. If you find one false, say at which input.
  Laid BY PROGRAM, IN A SANDBOX (cutbox-rows.mjs): the forced cells as the released guide's own fill.sh prints them over the translation 84baa57b42eb1c49… (all of the seat's roots in one cut). By AI agents, Wed Nov 11 2026. No macro, syntax, notation, axiom, sorry.
-/
import Derived.Test.YtopmmcgolkmfaaaChecked
import GoSem.Claim
import GoSem.ClaimJoined
import GoSem.ClaimMapViews
import Derived.JoinedTies
import Derived.KernelRfl
namespace Go.Proofs.Ytopmmcgolkmfaaa
/- THE CELL 'sum', in the pinned program and in every row, IS THE sha256 OF THE DUMP (.gsa) THAT YtopmmcgolkmfaaaProg.lean LOADS. Nothing in Lean hashes anything: it is a label: what it is worth is what the hold of that sum in a sandbox is worth. -/
noncomputable def Try.pinned : Pinned := { name := "ytopmmcgolkmfaaa", sum := "84baa57b42eb1c49fb249d2c68549543135d91c09a61db1ec8fc98ea93f78d1c", checked := Try.checked }
namespace Rows
def none {H : Type} : Left H := { results := [], args := [] }

/-- 'laws.FnHexPut': WHATEVER THE INPUT: true; the input reads as it did. -/
def fnHexPutSpec : ChangeSpec := { name := "fnHexPut", fn := fun _ => fun
  | [d] => { results := [.lit (.bool true)], args := [d] }
  | _ => none }
def fnHexPutRow : OpenClaim := { program := "ytopmmcgolkmfaaa", sum := "84baa57b42eb1c49fb249d2c68549543135d91c09a61db1ec8fc98ea93f78d1c", func := "loop.example/cotterpin/laws.FnHexPut", spec := "fnHexPut", inPlace := ["internal/abi.NoEscape", "internal/bytealg.IndexByteString"], apart := false }
def FnHexPutSaid : Prop := fnHexPutRow.holds Try.pinned (OpenSpec.ofChange fnHexPutSpec)

/-- ITS FALSE NEIGHBOUR: 'it returns false'. Refute it at one input. -/
def fnHexPutWrong : ChangeSpec := { name := "fnHexPut", fn := fun _ => fun
  | [d] => { results := [.lit (.bool false)], args := [d] }
  | _ => none }
def FnHexPutWrongFalsely : Prop := fnHexPutRow.holds Try.pinned (OpenSpec.ofChange fnHexPutWrong)

/-- 'laws.FnHexGet': WHATEVER THE INPUT: true; the input reads as it did. -/
def fnHexGetSpec : ChangeSpec := { name := "fnHexGet", fn := fun _ => fun
  | [d] => { results := [.lit (.bool true)], args := [d] }
  | _ => none }
def fnHexGetRow : OpenClaim := { program := "ytopmmcgolkmfaaa", sum := "84baa57b42eb1c49fb249d2c68549543135d91c09a61db1ec8fc98ea93f78d1c", func := "loop.example/cotterpin/laws.FnHexGet", spec := "fnHexGet", inPlace := ["internal/bytealg.IndexByteString", "internal/abi.NoEscape"], apart := false }
def FnHexGetSaid : Prop := fnHexGetRow.holds Try.pinned (OpenSpec.ofChange fnHexGetSpec)

/-- ITS FALSE NEIGHBOUR: 'it returns false'. Refute it at one input. -/
def fnHexGetWrong : ChangeSpec := { name := "fnHexGet", fn := fun _ => fun
  | [d] => { results := [.lit (.bool false)], args := [d] }
  | _ => none }
def FnHexGetWrongFalsely : Prop := fnHexGetRow.holds Try.pinned (OpenSpec.ofChange fnHexGetWrong)

/-- 'laws.FnExactHexPut': WHATEVER THE INPUT: true; the input reads as it did. -/
def fnExactHexPutSpec : ChangeSpec := { name := "fnExactHexPut", fn := fun _ => fun
  | [d] => { results := [.lit (.bool true)], args := [d] }
  | _ => none }
def fnExactHexPutRow : OpenClaim := { program := "ytopmmcgolkmfaaa", sum := "84baa57b42eb1c49fb249d2c68549543135d91c09a61db1ec8fc98ea93f78d1c", func := "loop.example/cotterpin/laws.FnExactHexPut", spec := "fnExactHexPut", inPlace := ["internal/abi.NoEscape"], apart := false }
def FnExactHexPutSaid : Prop := fnExactHexPutRow.holds Try.pinned (OpenSpec.ofChange fnExactHexPutSpec)

/-- ITS FALSE NEIGHBOUR: 'it returns false'. Refute it at one input. -/
def fnExactHexPutWrong : ChangeSpec := { name := "fnExactHexPut", fn := fun _ => fun
  | [d] => { results := [.lit (.bool false)], args := [d] }
  | _ => none }
def FnExactHexPutWrongFalsely : Prop := fnExactHexPutRow.holds Try.pinned (OpenSpec.ofChange fnExactHexPutWrong)

/-- 'laws.FnExactHexGet': WHATEVER THE INPUT: true; the input reads as it did. -/
def fnExactHexGetSpec : ChangeSpec := { name := "fnExactHexGet", fn := fun _ => fun
  | [d] => { results := [.lit (.bool true)], args := [d] }
  | _ => none }
def fnExactHexGetRow : OpenClaim := { program := "ytopmmcgolkmfaaa", sum := "84baa57b42eb1c49fb249d2c68549543135d91c09a61db1ec8fc98ea93f78d1c", func := "loop.example/cotterpin/laws.FnExactHexGet", spec := "fnExactHexGet", inPlace := ["internal/bytealg.IndexByteString"], apart := false }
def FnExactHexGetSaid : Prop := fnExactHexGetRow.holds Try.pinned (OpenSpec.ofChange fnExactHexGetSpec)

/-- ITS FALSE NEIGHBOUR: 'it returns false'. Refute it at one input. -/
def fnExactHexGetWrong : ChangeSpec := { name := "fnExactHexGet", fn := fun _ => fun
  | [d] => { results := [.lit (.bool false)], args := [d] }
  | _ => none }
def FnExactHexGetWrongFalsely : Prop := fnExactHexGetRow.holds Try.pinned (OpenSpec.ofChange fnExactHexGetWrong)

/- THE SECOND FORM. 'bulk': how many values and letters a reading holds, each counted each time it is reached (what is shared counts as often as it is met; a slice's spare places count too). A statement '..UptoSaid' is the law's where the arguments, and the package variables that the reading takes, are together of bulk at most 1048576: NARROWER than '..Said'. Prove '..Said' where nothing that the law and all that it calls make is longer than what came in: it says more and counts as full. Else prove '..UptoSaid'. A law counts once. -/
mutual
def uptoBulk {H : Type} : DataW H → Nat
  | .lit (.string bytes) => bytes.length + 1
  | .lit _ => 1
  | .nil => 1
  | .ptr d => uptoBulk d + 1
  | .slice elems spare => uptoBulkAll elems + uptoBulkAll spare + 1
  | .agg parts => uptoBulkAll parts + 1
  | .iface _ d => uptoBulk d + 1
  | .map entries => uptoBulkEntries entries + 1
  | .held _ => 1
def uptoBulkAll {H : Type} : List (DataW H) → Nat
  | [] => 0
  | d :: r => uptoBulk d + uptoBulkAll r
def uptoBulkEntries {H : Type} : List (Lit × DataW H) → Nat
  | [] => 0
  | x :: r => uptoBulkEntry x + uptoBulkEntries r
def uptoBulkEntry {H : Type} : Lit × DataW H → Nat
  | (.string bytes, d) => bytes.length + uptoBulk d + 1
  | (_, d) => uptoBulk d + 1
 end
def uptoSmall : (H : Type) → List (DataW H) → Bool := fun _ ds => decide (uptoBulkAll ds ≤ 1048576)
def OpenSpec.upto (s : _root_.Go.ChangeSpec) : _root_.Go.OpenSpec := { _root_.Go.OpenSpec.ofChange s with cond := some uptoSmall }

/-- 'laws.FnHexPut', WHERE WHAT IT READS IS OF BULK AT MOST 1048576: true; the input reads as it did. -/
def fnHexPutUptoRow : OpenClaim := { program := "ytopmmcgolkmfaaa", sum := "84baa57b42eb1c49fb249d2c68549543135d91c09a61db1ec8fc98ea93f78d1c", func := "loop.example/cotterpin/laws.FnHexPut", spec := "fnHexPut", inPlace := ["internal/abi.NoEscape", "internal/bytealg.IndexByteString"], apart := false, narrowed := true }
def FnHexPutUptoSaid : Prop := fnHexPutUptoRow.holds Try.pinned (OpenSpec.upto fnHexPutSpec)

/-- 'laws.FnHexGet', WHERE WHAT IT READS IS OF BULK AT MOST 1048576: true; the input reads as it did. -/
def fnHexGetUptoRow : OpenClaim := { program := "ytopmmcgolkmfaaa", sum := "84baa57b42eb1c49fb249d2c68549543135d91c09a61db1ec8fc98ea93f78d1c", func := "loop.example/cotterpin/laws.FnHexGet", spec := "fnHexGet", inPlace := ["internal/bytealg.IndexByteString", "internal/abi.NoEscape"], apart := false, narrowed := true }
def FnHexGetUptoSaid : Prop := fnHexGetUptoRow.holds Try.pinned (OpenSpec.upto fnHexGetSpec)

/-- 'laws.FnExactHexPut', WHERE WHAT IT READS IS OF BULK AT MOST 1048576: true; the input reads as it did. -/
def fnExactHexPutUptoRow : OpenClaim := { program := "ytopmmcgolkmfaaa", sum := "84baa57b42eb1c49fb249d2c68549543135d91c09a61db1ec8fc98ea93f78d1c", func := "loop.example/cotterpin/laws.FnExactHexPut", spec := "fnExactHexPut", inPlace := ["internal/abi.NoEscape"], apart := false, narrowed := true }
def FnExactHexPutUptoSaid : Prop := fnExactHexPutUptoRow.holds Try.pinned (OpenSpec.upto fnExactHexPutSpec)

/-- 'laws.FnExactHexGet', WHERE WHAT IT READS IS OF BULK AT MOST 1048576: true; the input reads as it did. -/
def fnExactHexGetUptoRow : OpenClaim := { program := "ytopmmcgolkmfaaa", sum := "84baa57b42eb1c49fb249d2c68549543135d91c09a61db1ec8fc98ea93f78d1c", func := "loop.example/cotterpin/laws.FnExactHexGet", spec := "fnExactHexGet", inPlace := ["internal/bytealg.IndexByteString"], apart := false, narrowed := true }
def FnExactHexGetUptoSaid : Prop := fnExactHexGetUptoRow.holds Try.pinned (OpenSpec.upto fnExactHexGetSpec)

end Rows
end Go.Proofs.Ytopmmcgolkmfaaa
