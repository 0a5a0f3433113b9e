/-
  No cell of these rows narrows 'for every input' (looked for: loops, veiled, ifaces, maps, wideKeys, modest, calm, conditions, laid).
  DERIVED. THE GIVEN ROWS OF THIS SEAT. 6 by the template 'for every input the law returns true; each argument reads behind the call as it read before'; 0 by the template 'total and deterministic' (their statements: YtplaagkcamjemaaTotals.lean).
  GIVEN WITH THE SEED: the statements are not yours to turn. If you find one false, say at which input.
  Laid BY PROGRAM, IN A SANDBOX (cutbox-rows.mjs): the forced cells as the released guide's own fill.sh prints them over the translation f6b748d9e9fe40f7… (all of the seat's roots in one cut). By AI agents, Wed Nov 11 2026. No macro, syntax, notation, axiom, sorry.
-/
import Derived.Test.YtplaagkcamjemaaChecked
import GoSem.Claim
import GoSem.ClaimJoined
import GoSem.ClaimMapViews
import Derived.JoinedTies
import Derived.KernelRfl
namespace Go.Proofs.Ytplaagkcamjemaa
/- THE CELL 'sum', in the pinned program and in every row, IS THE sha256 OF THE DUMP (.gsa) THAT YtplaagkcamjemaaProg.lean LOADS. Nothing in Lean hashes anything: it is a label: what it is worth is what the hold of that sum in a sandbox is worth. -/
noncomputable def Try.pinned : Pinned := { name := "ytplaagkcamjemaa", sum := "f6b748d9e9fe40f76ccb5140649815123ae4277c1a05978e6965a4c7b8ecc75b", checked := Try.checked }
namespace Rows
def none {H : Type} : Left H := { results := [], args := [] }

/-- 'laws.FnMuxCut': WHATEVER THE INPUT: true; the input reads as it did. -/
def fnMuxCutSpec : ChangeSpec := { name := "fnMuxCut", fn := fun _ => fun
  | [d] => { results := [.lit (.bool true)], args := [d] }
  | _ => none }
def fnMuxCutRow : OpenClaim := { program := "ytplaagkcamjemaa", sum := "f6b748d9e9fe40f76ccb5140649815123ae4277c1a05978e6965a4c7b8ecc75b", func := "loop.example/cotterpin/laws.FnMuxCut", spec := "fnMuxCut", inPlace := ["internal/abi.NoEscape"], apart := false }
def FnMuxCutSaid : Prop := fnMuxCutRow.holds Try.pinned (OpenSpec.ofChange fnMuxCutSpec)

/-- ITS FALSE NEIGHBOUR: 'it returns false'. Refute it at one input. -/
def fnMuxCutWrong : ChangeSpec := { name := "fnMuxCut", fn := fun _ => fun
  | [d] => { results := [.lit (.bool false)], args := [d] }
  | _ => none }
def FnMuxCutWrongFalsely : Prop := fnMuxCutRow.holds Try.pinned (OpenSpec.ofChange fnMuxCutWrong)

/-- 'laws.FnMuxTake': WHATEVER THE INPUT: true; the input reads as it did. -/
def fnMuxTakeSpec : ChangeSpec := { name := "fnMuxTake", fn := fun _ => fun
  | [d] => { results := [.lit (.bool true)], args := [d] }
  | _ => none }
def fnMuxTakeRow : OpenClaim := { program := "ytplaagkcamjemaa", sum := "f6b748d9e9fe40f76ccb5140649815123ae4277c1a05978e6965a4c7b8ecc75b", func := "loop.example/cotterpin/laws.FnMuxTake", spec := "fnMuxTake", inPlace := ["internal/abi.NoEscape"], unfollowed := true, recurses := true, apart := false }
def FnMuxTakeSaid : Prop := fnMuxTakeRow.holds Try.pinned (OpenSpec.ofChange fnMuxTakeSpec)

/-- ITS FALSE NEIGHBOUR: 'it returns false'. Refute it at one input. -/
def fnMuxTakeWrong : ChangeSpec := { name := "fnMuxTake", fn := fun _ => fun
  | [d] => { results := [.lit (.bool false)], args := [d] }
  | _ => none }
def FnMuxTakeWrongFalsely : Prop := fnMuxTakeRow.holds Try.pinned (OpenSpec.ofChange fnMuxTakeWrong)

/-- 'laws.FnMuxAll': WHATEVER THE INPUT: true; the input reads as it did. -/
def fnMuxAllSpec : ChangeSpec := { name := "fnMuxAll", fn := fun _ => fun
  | [d1, d2] => { results := [.lit (.bool true)], args := [d1, d2] }
  | _ => none }
def fnMuxAllRow : OpenClaim := { program := "ytplaagkcamjemaa", sum := "f6b748d9e9fe40f76ccb5140649815123ae4277c1a05978e6965a4c7b8ecc75b", func := "loop.example/cotterpin/laws.FnMuxAll", spec := "fnMuxAll", inPlace := ["internal/abi.NoEscape"], apart := false }
def FnMuxAllSaid : Prop := fnMuxAllRow.holds Try.pinned (OpenSpec.ofChange fnMuxAllSpec)

/-- ITS FALSE NEIGHBOUR: 'it returns false'. Refute it at one input. -/
def fnMuxAllWrong : ChangeSpec := { name := "fnMuxAll", fn := fun _ => fun
  | [d1, d2] => { results := [.lit (.bool false)], args := [d1, d2] }
  | _ => none }
def FnMuxAllWrongFalsely : Prop := fnMuxAllRow.holds Try.pinned (OpenSpec.ofChange fnMuxAllWrong)

/-- 'laws.FnMuxWeave': WHATEVER THE INPUT: true; the input reads as it did. -/
def fnMuxWeaveSpec : ChangeSpec := { name := "fnMuxWeave", fn := fun _ => fun
  | [d] => { results := [.lit (.bool true)], args := [d] }
  | _ => none }
def fnMuxWeaveRow : OpenClaim := { program := "ytplaagkcamjemaa", sum := "f6b748d9e9fe40f76ccb5140649815123ae4277c1a05978e6965a4c7b8ecc75b", func := "loop.example/cotterpin/laws.FnMuxWeave", spec := "fnMuxWeave", inPlace := ["internal/abi.NoEscape"], apart := false }
def FnMuxWeaveSaid : Prop := fnMuxWeaveRow.holds Try.pinned (OpenSpec.ofChange fnMuxWeaveSpec)

/-- ITS FALSE NEIGHBOUR: 'it returns false'. Refute it at one input. -/
def fnMuxWeaveWrong : ChangeSpec := { name := "fnMuxWeave", fn := fun _ => fun
  | [d] => { results := [.lit (.bool false)], args := [d] }
  | _ => none }
def FnMuxWeaveWrongFalsely : Prop := fnMuxWeaveRow.holds Try.pinned (OpenSpec.ofChange fnMuxWeaveWrong)

/-- 'laws.FnExactMuxTake': WHATEVER THE INPUT: true; the input reads as it did. -/
def fnExactMuxTakeSpec : ChangeSpec := { name := "fnExactMuxTake", fn := fun _ => fun
  | [d1, d2] => { results := [.lit (.bool true)], args := [d1, d2] }
  | _ => none }
def fnExactMuxTakeRow : OpenClaim := { program := "ytplaagkcamjemaa", sum := "f6b748d9e9fe40f76ccb5140649815123ae4277c1a05978e6965a4c7b8ecc75b", func := "loop.example/cotterpin/laws.FnExactMuxTake", spec := "fnExactMuxTake", inPlace := ["internal/abi.NoEscape"], unfollowed := true, recurses := true, apart := false }
def FnExactMuxTakeSaid : Prop := fnExactMuxTakeRow.holds Try.pinned (OpenSpec.ofChange fnExactMuxTakeSpec)

/-- ITS FALSE NEIGHBOUR: 'it returns false'. Refute it at one input. -/
def fnExactMuxTakeWrong : ChangeSpec := { name := "fnExactMuxTake", fn := fun _ => fun
  | [d1, d2] => { results := [.lit (.bool false)], args := [d1, d2] }
  | _ => none }
def FnExactMuxTakeWrongFalsely : Prop := fnExactMuxTakeRow.holds Try.pinned (OpenSpec.ofChange fnExactMuxTakeWrong)

/-- 'laws.FnExactMuxAll': WHATEVER THE INPUT: true; the input reads as it did. -/
def fnExactMuxAllSpec : ChangeSpec := { name := "fnExactMuxAll", fn := fun _ => fun
  | [d] => { results := [.lit (.bool true)], args := [d] }
  | _ => none }
def fnExactMuxAllRow : OpenClaim := { program := "ytplaagkcamjemaa", sum := "f6b748d9e9fe40f76ccb5140649815123ae4277c1a05978e6965a4c7b8ecc75b", func := "loop.example/cotterpin/laws.FnExactMuxAll", spec := "fnExactMuxAll", inPlace := ["internal/abi.NoEscape"], apart := false }
def FnExactMuxAllSaid : Prop := fnExactMuxAllRow.holds Try.pinned (OpenSpec.ofChange fnExactMuxAllSpec)

/-- ITS FALSE NEIGHBOUR: 'it returns false'. Refute it at one input. -/
def fnExactMuxAllWrong : ChangeSpec := { name := "fnExactMuxAll", fn := fun _ => fun
  | [d] => { results := [.lit (.bool false)], args := [d] }
  | _ => none }
def FnExactMuxAllWrongFalsely : Prop := fnExactMuxAllRow.holds Try.pinned (OpenSpec.ofChange fnExactMuxAllWrong)

/- THE SECOND FORM. 'bulk': how many values and letters a reading holds, each counted each time it is reached (what is shared counts as often as it is met; a slice's spare places count too). A statement '..UptoSaid' is the law's where the arguments, and the package variables that the reading takes, are together of bulk at most 1048576: NARROWER than '..Said'. Prove '..Said' where nothing that the law and all that it calls make is longer than what came in: it says more and counts as full. Else prove '..UptoSaid'. A law counts once. -/
mutual
def uptoBulk {H : Type} : DataW H → Nat
  | .lit (.string bytes) => bytes.length + 1
  | .lit _ => 1
  | .nil => 1
  | .ptr d => uptoBulk d + 1
  | .slice elems spare => uptoBulkAll elems + uptoBulkAll spare + 1
  | .agg parts => uptoBulkAll parts + 1
  | .iface _ d => uptoBulk d + 1
  | .map entries => uptoBulkEntries entries + 1
  | .held _ => 1
def uptoBulkAll {H : Type} : List (DataW H) → Nat
  | [] => 0
  | d :: r => uptoBulk d + uptoBulkAll r
def uptoBulkEntries {H : Type} : List (Lit × DataW H) → Nat
  | [] => 0
  | x :: r => uptoBulkEntry x + uptoBulkEntries r
def uptoBulkEntry {H : Type} : Lit × DataW H → Nat
  | (.string bytes, d) => bytes.length + uptoBulk d + 1
  | (_, d) => uptoBulk d + 1
 end
def uptoSmall : (H : Type) → List (DataW H) → Bool := fun _ ds => decide (uptoBulkAll ds ≤ 1048576)
def OpenSpec.upto (s : _root_.Go.ChangeSpec) : _root_.Go.OpenSpec := { _root_.Go.OpenSpec.ofChange s with cond := some uptoSmall }

/-- 'laws.FnMuxCut', WHERE WHAT IT READS IS OF BULK AT MOST 1048576: true; the input reads as it did. -/
def fnMuxCutUptoRow : OpenClaim := { program := "ytplaagkcamjemaa", sum := "f6b748d9e9fe40f76ccb5140649815123ae4277c1a05978e6965a4c7b8ecc75b", func := "loop.example/cotterpin/laws.FnMuxCut", spec := "fnMuxCut", inPlace := ["internal/abi.NoEscape"], apart := false, narrowed := true }
def FnMuxCutUptoSaid : Prop := fnMuxCutUptoRow.holds Try.pinned (OpenSpec.upto fnMuxCutSpec)

/-- 'laws.FnMuxTake', WHERE WHAT IT READS IS OF BULK AT MOST 1048576: true; the input reads as it did. -/
def fnMuxTakeUptoRow : OpenClaim := { program := "ytplaagkcamjemaa", sum := "f6b748d9e9fe40f76ccb5140649815123ae4277c1a05978e6965a4c7b8ecc75b", func := "loop.example/cotterpin/laws.FnMuxTake", spec := "fnMuxTake", inPlace := ["internal/abi.NoEscape"], unfollowed := true, recurses := true, apart := false, narrowed := true }
def FnMuxTakeUptoSaid : Prop := fnMuxTakeUptoRow.holds Try.pinned (OpenSpec.upto fnMuxTakeSpec)

/-- 'laws.FnMuxAll', WHERE WHAT IT READS IS OF BULK AT MOST 1048576: true; the input reads as it did. -/
def fnMuxAllUptoRow : OpenClaim := { program := "ytplaagkcamjemaa", sum := "f6b748d9e9fe40f76ccb5140649815123ae4277c1a05978e6965a4c7b8ecc75b", func := "loop.example/cotterpin/laws.FnMuxAll", spec := "fnMuxAll", inPlace := ["internal/abi.NoEscape"], apart := false, narrowed := true }
def FnMuxAllUptoSaid : Prop := fnMuxAllUptoRow.holds Try.pinned (OpenSpec.upto fnMuxAllSpec)

/-- 'laws.FnMuxWeave', WHERE WHAT IT READS IS OF BULK AT MOST 1048576: true; the input reads as it did. -/
def fnMuxWeaveUptoRow : OpenClaim := { program := "ytplaagkcamjemaa", sum := "f6b748d9e9fe40f76ccb5140649815123ae4277c1a05978e6965a4c7b8ecc75b", func := "loop.example/cotterpin/laws.FnMuxWeave", spec := "fnMuxWeave", inPlace := ["internal/abi.NoEscape"], apart := false, narrowed := true }
def FnMuxWeaveUptoSaid : Prop := fnMuxWeaveUptoRow.holds Try.pinned (OpenSpec.upto fnMuxWeaveSpec)

/-- 'laws.FnExactMuxTake', WHERE WHAT IT READS IS OF BULK AT MOST 1048576: true; the input reads as it did. -/
def fnExactMuxTakeUptoRow : OpenClaim := { program := "ytplaagkcamjemaa", sum := "f6b748d9e9fe40f76ccb5140649815123ae4277c1a05978e6965a4c7b8ecc75b", func := "loop.example/cotterpin/laws.FnExactMuxTake", spec := "fnExactMuxTake", inPlace := ["internal/abi.NoEscape"], unfollowed := true, recurses := true, apart := false, narrowed := true }
def FnExactMuxTakeUptoSaid : Prop := fnExactMuxTakeUptoRow.holds Try.pinned (OpenSpec.upto fnExactMuxTakeSpec)

/-- 'laws.FnExactMuxAll', WHERE WHAT IT READS IS OF BULK AT MOST 1048576: true; the input reads as it did. -/
def fnExactMuxAllUptoRow : OpenClaim := { program := "ytplaagkcamjemaa", sum := "f6b748d9e9fe40f76ccb5140649815123ae4277c1a05978e6965a4c7b8ecc75b", func := "loop.example/cotterpin/laws.FnExactMuxAll", spec := "fnExactMuxAll", inPlace := ["internal/abi.NoEscape"], apart := false, narrowed := true }
def FnExactMuxAllUptoSaid : Prop := fnExactMuxAllUptoRow.holds Try.pinned (OpenSpec.upto fnExactMuxAllSpec)

end Rows
end Go.Proofs.Ytplaagkcamjemaa
