/-
  No cell of these rows narrows 'for every input' (looked for: loops, veiled, ifaces, maps, wideKeys, modest, calm, conditions, laid).
  DERIVED. THE GIVEN ROWS OF THIS SEAT. 7 by the template 'for every input the law returns true; each argument reads behind the call as it read before'; 0 by the template 'total and deterministic' (their statements: YtcljldnaecldnaaTotals.lean).
  GIVEN WITH THE SEED: the statements are not yours to turn. If you find one false, say at which input.
  Laid BY PROGRAM, IN A SANDBOX (cutbox-rows.mjs): the forced cells as the released guide's own fill.sh prints them over the translation 09065c9d2bf7dd38… (all of the seat's roots in one cut). By AI agents, Wed Nov 11 2026. No macro, syntax, notation, axiom, sorry.
-/
import Derived.Test.YtcljldnaecldnaaChecked
import GoSem.Claim
import GoSem.ClaimJoined
import GoSem.ClaimMapViews
import Derived.JoinedTies
import Derived.KernelRfl
namespace Go.Proofs.Ytcljldnaecldnaa
/- THE CELL 'sum', in the pinned program and in every row, IS THE sha256 OF THE DUMP (.gsa) THAT YtcljldnaecldnaaProg.lean LOADS. Nothing in Lean hashes anything: it is a label: what it is worth is what the hold of that sum in a sandbox is worth. -/
noncomputable def Try.pinned : Pinned := { name := "ytcljldnaecldnaa", sum := "09065c9d2bf7dd38a8f1f524cae9584aed85c2bb5c4c5b7cfd1372ed1c538e6c", checked := Try.checked }
namespace Rows
def none {H : Type} : Left H := { results := [], args := [] }

/-- 'laws.FnScramPut': WHATEVER THE INPUT: true; the input reads as it did. -/
def fnScramPutSpec : ChangeSpec := { name := "fnScramPut", fn := fun _ => fun
  | [d1, d2] => { results := [.lit (.bool true)], args := [d1, d2] }
  | _ => none }
def fnScramPutRow : OpenClaim := { program := "ytcljldnaecldnaa", sum := "09065c9d2bf7dd38a8f1f524cae9584aed85c2bb5c4c5b7cfd1372ed1c538e6c", func := "loop.example/cotterpin/laws.FnScramPut", spec := "fnScramPut", unfollowed := true, recurses := true, apart := false }
def FnScramPutSaid : Prop := fnScramPutRow.holds Try.pinned (OpenSpec.ofChange fnScramPutSpec)

/-- ITS FALSE NEIGHBOUR: 'it returns false'. Refute it at one input. -/
def fnScramPutWrong : ChangeSpec := { name := "fnScramPut", fn := fun _ => fun
  | [d1, d2] => { results := [.lit (.bool false)], args := [d1, d2] }
  | _ => none }
def FnScramPutWrongFalsely : Prop := fnScramPutRow.holds Try.pinned (OpenSpec.ofChange fnScramPutWrong)

/-- 'laws.FnScramGet': WHATEVER THE INPUT: true; the input reads as it did. -/
def fnScramGetSpec : ChangeSpec := { name := "fnScramGet", fn := fun _ => fun
  | [d1, d2] => { results := [.lit (.bool true)], args := [d1, d2] }
  | _ => none }
def fnScramGetRow : OpenClaim := { program := "ytcljldnaecldnaa", sum := "09065c9d2bf7dd38a8f1f524cae9584aed85c2bb5c4c5b7cfd1372ed1c538e6c", func := "loop.example/cotterpin/laws.FnScramGet", spec := "fnScramGet", unfollowed := true, recurses := true, apart := false }
def FnScramGetSaid : Prop := fnScramGetRow.holds Try.pinned (OpenSpec.ofChange fnScramGetSpec)

/-- ITS FALSE NEIGHBOUR: 'it returns false'. Refute it at one input. -/
def fnScramGetWrong : ChangeSpec := { name := "fnScramGet", fn := fun _ => fun
  | [d1, d2] => { results := [.lit (.bool false)], args := [d1, d2] }
  | _ => none }
def FnScramGetWrongFalsely : Prop := fnScramGetRow.holds Try.pinned (OpenSpec.ofChange fnScramGetWrong)

/-- 'laws.FnScramTurn': WHATEVER THE INPUT: true; the input reads as it did. -/
def fnScramTurnSpec : ChangeSpec := { name := "fnScramTurn", fn := fun _ => fun
  | [d1, d2] => { results := [.lit (.bool true)], args := [d1, d2] }
  | _ => none }
def fnScramTurnRow : OpenClaim := { program := "ytcljldnaecldnaa", sum := "09065c9d2bf7dd38a8f1f524cae9584aed85c2bb5c4c5b7cfd1372ed1c538e6c", func := "loop.example/cotterpin/laws.FnScramTurn", spec := "fnScramTurn", unfollowed := true, recurses := true, apart := false }
def FnScramTurnSaid : Prop := fnScramTurnRow.holds Try.pinned (OpenSpec.ofChange fnScramTurnSpec)

/-- ITS FALSE NEIGHBOUR: 'it returns false'. Refute it at one input. -/
def fnScramTurnWrong : ChangeSpec := { name := "fnScramTurn", fn := fun _ => fun
  | [d1, d2] => { results := [.lit (.bool false)], args := [d1, d2] }
  | _ => none }
def FnScramTurnWrongFalsely : Prop := fnScramTurnRow.holds Try.pinned (OpenSpec.ofChange fnScramTurnWrong)

/-- 'laws.FnScramOnes': WHATEVER THE INPUT: true; the input reads as it did. -/
def fnScramOnesSpec : ChangeSpec := { name := "fnScramOnes", fn := fun _ => fun
  | [d] => { results := [.lit (.bool true)], args := [d] }
  | _ => none }
def fnScramOnesRow : OpenClaim := { program := "ytcljldnaecldnaa", sum := "09065c9d2bf7dd38a8f1f524cae9584aed85c2bb5c4c5b7cfd1372ed1c538e6c", func := "loop.example/cotterpin/laws.FnScramOnes", spec := "fnScramOnes", inPlace := ["internal/abi.NoEscape", "internal/bytealg.MakeNoZero"], unfollowed := true, recurses := true, apart := false }
def FnScramOnesSaid : Prop := fnScramOnesRow.holds Try.pinned (OpenSpec.ofChange fnScramOnesSpec)

/-- ITS FALSE NEIGHBOUR: 'it returns false'. Refute it at one input. -/
def fnScramOnesWrong : ChangeSpec := { name := "fnScramOnes", fn := fun _ => fun
  | [d] => { results := [.lit (.bool false)], args := [d] }
  | _ => none }
def FnScramOnesWrongFalsely : Prop := fnScramOnesRow.holds Try.pinned (OpenSpec.ofChange fnScramOnesWrong)

/-- 'laws.FnExactScramPut': WHATEVER THE INPUT: true; the input reads as it did. -/
def fnExactScramPutSpec : ChangeSpec := { name := "fnExactScramPut", fn := fun _ => fun
  | [d1, d2] => { results := [.lit (.bool true)], args := [d1, d2] }
  | _ => none }
def fnExactScramPutRow : OpenClaim := { program := "ytcljldnaecldnaa", sum := "09065c9d2bf7dd38a8f1f524cae9584aed85c2bb5c4c5b7cfd1372ed1c538e6c", func := "loop.example/cotterpin/laws.FnExactScramPut", spec := "fnExactScramPut", unfollowed := true, recurses := true, apart := false }
def FnExactScramPutSaid : Prop := fnExactScramPutRow.holds Try.pinned (OpenSpec.ofChange fnExactScramPutSpec)

/-- ITS FALSE NEIGHBOUR: 'it returns false'. Refute it at one input. -/
def fnExactScramPutWrong : ChangeSpec := { name := "fnExactScramPut", fn := fun _ => fun
  | [d1, d2] => { results := [.lit (.bool false)], args := [d1, d2] }
  | _ => none }
def FnExactScramPutWrongFalsely : Prop := fnExactScramPutRow.holds Try.pinned (OpenSpec.ofChange fnExactScramPutWrong)

/-- 'laws.FnExactScramGet': WHATEVER THE INPUT: true; the input reads as it did. -/
def fnExactScramGetSpec : ChangeSpec := { name := "fnExactScramGet", fn := fun _ => fun
  | [d1, d2] => { results := [.lit (.bool true)], args := [d1, d2] }
  | _ => none }
def fnExactScramGetRow : OpenClaim := { program := "ytcljldnaecldnaa", sum := "09065c9d2bf7dd38a8f1f524cae9584aed85c2bb5c4c5b7cfd1372ed1c538e6c", func := "loop.example/cotterpin/laws.FnExactScramGet", spec := "fnExactScramGet", unfollowed := true, recurses := true, apart := false }
def FnExactScramGetSaid : Prop := fnExactScramGetRow.holds Try.pinned (OpenSpec.ofChange fnExactScramGetSpec)

/-- ITS FALSE NEIGHBOUR: 'it returns false'. Refute it at one input. -/
def fnExactScramGetWrong : ChangeSpec := { name := "fnExactScramGet", fn := fun _ => fun
  | [d1, d2] => { results := [.lit (.bool false)], args := [d1, d2] }
  | _ => none }
def FnExactScramGetWrongFalsely : Prop := fnExactScramGetRow.holds Try.pinned (OpenSpec.ofChange fnExactScramGetWrong)

/-- 'laws.FnExactScramOnes': WHATEVER THE INPUT: true; the input reads as it did. -/
def fnExactScramOnesSpec : ChangeSpec := { name := "fnExactScramOnes", fn := fun _ => fun
  | [d1, d2] => { results := [.lit (.bool true)], args := [d1, d2] }
  | _ => none }
def fnExactScramOnesRow : OpenClaim := { program := "ytcljldnaecldnaa", sum := "09065c9d2bf7dd38a8f1f524cae9584aed85c2bb5c4c5b7cfd1372ed1c538e6c", func := "loop.example/cotterpin/laws.FnExactScramOnes", spec := "fnExactScramOnes", inPlace := ["internal/abi.NoEscape", "internal/bytealg.MakeNoZero"], unfollowed := true, recurses := true, apart := false }
def FnExactScramOnesSaid : Prop := fnExactScramOnesRow.holds Try.pinned (OpenSpec.ofChange fnExactScramOnesSpec)

/-- ITS FALSE NEIGHBOUR: 'it returns false'. Refute it at one input. -/
def fnExactScramOnesWrong : ChangeSpec := { name := "fnExactScramOnes", fn := fun _ => fun
  | [d1, d2] => { results := [.lit (.bool false)], args := [d1, d2] }
  | _ => none }
def FnExactScramOnesWrongFalsely : Prop := fnExactScramOnesRow.holds Try.pinned (OpenSpec.ofChange fnExactScramOnesWrong)

/- THE SECOND FORM. 'bulk': how many values and letters a reading holds, each counted each time it is reached (what is shared counts as often as it is met; a slice's spare places count too). A statement '..UptoSaid' is the law's where the arguments, and the package variables that the reading takes, are together of bulk at most 1048576: NARROWER than '..Said'. Prove '..Said' where nothing that the law and all that it calls make is longer than what came in: it says more and counts as full. Else prove '..UptoSaid'. A law counts once. -/
mutual
def uptoBulk {H : Type} : DataW H → Nat
  | .lit (.string bytes) => bytes.length + 1
  | .lit _ => 1
  | .nil => 1
  | .ptr d => uptoBulk d + 1
  | .slice elems spare => uptoBulkAll elems + uptoBulkAll spare + 1
  | .agg parts => uptoBulkAll parts + 1
  | .iface _ d => uptoBulk d + 1
  | .map entries => uptoBulkEntries entries + 1
  | .held _ => 1
def uptoBulkAll {H : Type} : List (DataW H) → Nat
  | [] => 0
  | d :: r => uptoBulk d + uptoBulkAll r
def uptoBulkEntries {H : Type} : List (Lit × DataW H) → Nat
  | [] => 0
  | x :: r => uptoBulkEntry x + uptoBulkEntries r
def uptoBulkEntry {H : Type} : Lit × DataW H → Nat
  | (.string bytes, d) => bytes.length + uptoBulk d + 1
  | (_, d) => uptoBulk d + 1
 end
def uptoSmall : (H : Type) → List (DataW H) → Bool := fun _ ds => decide (uptoBulkAll ds ≤ 1048576)
def OpenSpec.upto (s : _root_.Go.ChangeSpec) : _root_.Go.OpenSpec := { _root_.Go.OpenSpec.ofChange s with cond := some uptoSmall }

/-- 'laws.FnScramPut', WHERE WHAT IT READS IS OF BULK AT MOST 1048576: true; the input reads as it did. -/
def fnScramPutUptoRow : OpenClaim := { program := "ytcljldnaecldnaa", sum := "09065c9d2bf7dd38a8f1f524cae9584aed85c2bb5c4c5b7cfd1372ed1c538e6c", func := "loop.example/cotterpin/laws.FnScramPut", spec := "fnScramPut", unfollowed := true, recurses := true, apart := false, narrowed := true }
def FnScramPutUptoSaid : Prop := fnScramPutUptoRow.holds Try.pinned (OpenSpec.upto fnScramPutSpec)

/-- 'laws.FnScramGet', WHERE WHAT IT READS IS OF BULK AT MOST 1048576: true; the input reads as it did. -/
def fnScramGetUptoRow : OpenClaim := { program := "ytcljldnaecldnaa", sum := "09065c9d2bf7dd38a8f1f524cae9584aed85c2bb5c4c5b7cfd1372ed1c538e6c", func := "loop.example/cotterpin/laws.FnScramGet", spec := "fnScramGet", unfollowed := true, recurses := true, apart := false, narrowed := true }
def FnScramGetUptoSaid : Prop := fnScramGetUptoRow.holds Try.pinned (OpenSpec.upto fnScramGetSpec)

/-- 'laws.FnScramTurn', WHERE WHAT IT READS IS OF BULK AT MOST 1048576: true; the input reads as it did. -/
def fnScramTurnUptoRow : OpenClaim := { program := "ytcljldnaecldnaa", sum := "09065c9d2bf7dd38a8f1f524cae9584aed85c2bb5c4c5b7cfd1372ed1c538e6c", func := "loop.example/cotterpin/laws.FnScramTurn", spec := "fnScramTurn", unfollowed := true, recurses := true, apart := false, narrowed := true }
def FnScramTurnUptoSaid : Prop := fnScramTurnUptoRow.holds Try.pinned (OpenSpec.upto fnScramTurnSpec)

/-- 'laws.FnScramOnes', WHERE WHAT IT READS IS OF BULK AT MOST 1048576: true; the input reads as it did. -/
def fnScramOnesUptoRow : OpenClaim := { program := "ytcljldnaecldnaa", sum := "09065c9d2bf7dd38a8f1f524cae9584aed85c2bb5c4c5b7cfd1372ed1c538e6c", func := "loop.example/cotterpin/laws.FnScramOnes", spec := "fnScramOnes", inPlace := ["internal/abi.NoEscape", "internal/bytealg.MakeNoZero"], unfollowed := true, recurses := true, apart := false, narrowed := true }
def FnScramOnesUptoSaid : Prop := fnScramOnesUptoRow.holds Try.pinned (OpenSpec.upto fnScramOnesSpec)

/-- 'laws.FnExactScramPut', WHERE WHAT IT READS IS OF BULK AT MOST 1048576: true; the input reads as it did. -/
def fnExactScramPutUptoRow : OpenClaim := { program := "ytcljldnaecldnaa", sum := "09065c9d2bf7dd38a8f1f524cae9584aed85c2bb5c4c5b7cfd1372ed1c538e6c", func := "loop.example/cotterpin/laws.FnExactScramPut", spec := "fnExactScramPut", unfollowed := true, recurses := true, apart := false, narrowed := true }
def FnExactScramPutUptoSaid : Prop := fnExactScramPutUptoRow.holds Try.pinned (OpenSpec.upto fnExactScramPutSpec)

/-- 'laws.FnExactScramGet', WHERE WHAT IT READS IS OF BULK AT MOST 1048576: true; the input reads as it did. -/
def fnExactScramGetUptoRow : OpenClaim := { program := "ytcljldnaecldnaa", sum := "09065c9d2bf7dd38a8f1f524cae9584aed85c2bb5c4c5b7cfd1372ed1c538e6c", func := "loop.example/cotterpin/laws.FnExactScramGet", spec := "fnExactScramGet", unfollowed := true, recurses := true, apart := false, narrowed := true }
def FnExactScramGetUptoSaid : Prop := fnExactScramGetUptoRow.holds Try.pinned (OpenSpec.upto fnExactScramGetSpec)

/-- 'laws.FnExactScramOnes', WHERE WHAT IT READS IS OF BULK AT MOST 1048576: true; the input reads as it did. -/
def fnExactScramOnesUptoRow : OpenClaim := { program := "ytcljldnaecldnaa", sum := "09065c9d2bf7dd38a8f1f524cae9584aed85c2bb5c4c5b7cfd1372ed1c538e6c", func := "loop.example/cotterpin/laws.FnExactScramOnes", spec := "fnExactScramOnes", inPlace := ["internal/abi.NoEscape", "internal/bytealg.MakeNoZero"], unfollowed := true, recurses := true, apart := false, narrowed := true }
def FnExactScramOnesUptoSaid : Prop := fnExactScramOnesUptoRow.holds Try.pinned (OpenSpec.upto fnExactScramOnesSpec)

end Rows
end Go.Proofs.Ytcljldnaecldnaa
