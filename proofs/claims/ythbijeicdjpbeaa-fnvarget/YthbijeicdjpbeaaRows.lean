/-
  No cell of these rows narrows 'for every input' (looked for: loops, veiled, ifaces, maps, wideKeys, modest, calm, conditions, laid).
  DERIVED. THE GIVEN ROWS OF THIS SEAT. 8 by the template 'for every input the law returns true; each argument reads behind the call as it read before'; 0 by the template 'total and deterministic' (their statements: YthbijeicdjpbeaaTotals.lean).
  GIVEN WITH THE SEED: the statements are not yours to turn. If you find one false, say at which input.
  Laid BY PROGRAM, IN A SANDBOX (cutbox-rows.mjs): the forced cells as the released guide's own fill.sh prints them over the translation fbe138ed9480721c… (all of the seat's roots in one cut). By AI agents, Wed Nov 11 2026. No macro, syntax, notation, axiom, sorry.
-/
import Derived.Test.YthbijeicdjpbeaaChecked
import GoSem.Claim
import GoSem.ClaimJoined
import GoSem.ClaimMapViews
import Derived.JoinedTies
import Derived.KernelRfl
namespace Go.Proofs.Ythbijeicdjpbeaa
/- THE CELL 'sum', in the pinned program and in every row, IS THE sha256 OF THE DUMP (.gsa) THAT YthbijeicdjpbeaaProg.lean LOADS. Nothing in Lean hashes anything: it is a label: what it is worth is what the hold of that sum in a sandbox is worth. -/
noncomputable def Try.pinned : Pinned := { name := "ythbijeicdjpbeaa", sum := "fbe138ed9480721c2f04f5b73458cbf3c981c4d8ed90e5e1365e35b26ce27873", checked := Try.checked }
namespace Rows
def none {H : Type} : Left H := { results := [], args := [] }

/-- 'laws.FnSlipPut': WHATEVER THE INPUT: true; the input reads as it did. -/
def fnSlipPutSpec : ChangeSpec := { name := "fnSlipPut", fn := fun _ => fun
  | [d] => { results := [.lit (.bool true)], args := [d] }
  | _ => none }
def fnSlipPutRow : OpenClaim := { program := "ythbijeicdjpbeaa", sum := "fbe138ed9480721c2f04f5b73458cbf3c981c4d8ed90e5e1365e35b26ce27873", func := "loop.example/cotterpin/laws.FnSlipPut", spec := "fnSlipPut", unfollowed := true, recurses := true, apart := false }
def FnSlipPutSaid : Prop := fnSlipPutRow.holds Try.pinned (OpenSpec.ofChange fnSlipPutSpec)

/-- ITS FALSE NEIGHBOUR: 'it returns false'. Refute it at one input. -/
def fnSlipPutWrong : ChangeSpec := { name := "fnSlipPut", fn := fun _ => fun
  | [d] => { results := [.lit (.bool false)], args := [d] }
  | _ => none }
def FnSlipPutWrongFalsely : Prop := fnSlipPutRow.holds Try.pinned (OpenSpec.ofChange fnSlipPutWrong)

/-- 'laws.FnSlipGet': WHATEVER THE INPUT: true; the input reads as it did. -/
def fnSlipGetSpec : ChangeSpec := { name := "fnSlipGet", fn := fun _ => fun
  | [d] => { results := [.lit (.bool true)], args := [d] }
  | _ => none }
def fnSlipGetRow : OpenClaim := { program := "ythbijeicdjpbeaa", sum := "fbe138ed9480721c2f04f5b73458cbf3c981c4d8ed90e5e1365e35b26ce27873", func := "loop.example/cotterpin/laws.FnSlipGet", spec := "fnSlipGet", unfollowed := true, recurses := true, apart := false }
def FnSlipGetSaid : Prop := fnSlipGetRow.holds Try.pinned (OpenSpec.ofChange fnSlipGetSpec)

/-- ITS FALSE NEIGHBOUR: 'it returns false'. Refute it at one input. -/
def fnSlipGetWrong : ChangeSpec := { name := "fnSlipGet", fn := fun _ => fun
  | [d] => { results := [.lit (.bool false)], args := [d] }
  | _ => none }
def FnSlipGetWrongFalsely : Prop := fnSlipGetRow.holds Try.pinned (OpenSpec.ofChange fnSlipGetWrong)

/-- 'laws.FnVarPut': WHATEVER THE INPUT: true; the input reads as it did. -/
def fnVarPutSpec : ChangeSpec := { name := "fnVarPut", fn := fun _ => fun
  | [d1, d2] => { results := [.lit (.bool true)], args := [d1, d2] }
  | _ => none }
def fnVarPutRow : OpenClaim := { program := "ythbijeicdjpbeaa", sum := "fbe138ed9480721c2f04f5b73458cbf3c981c4d8ed90e5e1365e35b26ce27873", func := "loop.example/cotterpin/laws.FnVarPut", spec := "fnVarPut", unfollowed := true, recurses := true, apart := false }
def FnVarPutSaid : Prop := fnVarPutRow.holds Try.pinned (OpenSpec.ofChange fnVarPutSpec)

/-- ITS FALSE NEIGHBOUR: 'it returns false'. Refute it at one input. -/
def fnVarPutWrong : ChangeSpec := { name := "fnVarPut", fn := fun _ => fun
  | [d1, d2] => { results := [.lit (.bool false)], args := [d1, d2] }
  | _ => none }
def FnVarPutWrongFalsely : Prop := fnVarPutRow.holds Try.pinned (OpenSpec.ofChange fnVarPutWrong)

/-- 'laws.FnVarGet': WHATEVER THE INPUT: true; the input reads as it did. -/
def fnVarGetSpec : ChangeSpec := { name := "fnVarGet", fn := fun _ => fun
  | [d] => { results := [.lit (.bool true)], args := [d] }
  | _ => none }
def fnVarGetRow : OpenClaim := { program := "ythbijeicdjpbeaa", sum := "fbe138ed9480721c2f04f5b73458cbf3c981c4d8ed90e5e1365e35b26ce27873", func := "loop.example/cotterpin/laws.FnVarGet", spec := "fnVarGet", unfollowed := true, recurses := true, apart := false }
def FnVarGetSaid : Prop := fnVarGetRow.holds Try.pinned (OpenSpec.ofChange fnVarGetSpec)

/-- ITS FALSE NEIGHBOUR: 'it returns false'. Refute it at one input. -/
def fnVarGetWrong : ChangeSpec := { name := "fnVarGet", fn := fun _ => fun
  | [d] => { results := [.lit (.bool false)], args := [d] }
  | _ => none }
def FnVarGetWrongFalsely : Prop := fnVarGetRow.holds Try.pinned (OpenSpec.ofChange fnVarGetWrong)

/-- 'laws.FnExactSlipPut': WHATEVER THE INPUT: true; the input reads as it did. -/
def fnExactSlipPutSpec : ChangeSpec := { name := "fnExactSlipPut", fn := fun _ => fun
  | [d] => { results := [.lit (.bool true)], args := [d] }
  | _ => none }
def fnExactSlipPutRow : OpenClaim := { program := "ythbijeicdjpbeaa", sum := "fbe138ed9480721c2f04f5b73458cbf3c981c4d8ed90e5e1365e35b26ce27873", func := "loop.example/cotterpin/laws.FnExactSlipPut", spec := "fnExactSlipPut", apart := false }
def FnExactSlipPutSaid : Prop := fnExactSlipPutRow.holds Try.pinned (OpenSpec.ofChange fnExactSlipPutSpec)

/-- ITS FALSE NEIGHBOUR: 'it returns false'. Refute it at one input. -/
def fnExactSlipPutWrong : ChangeSpec := { name := "fnExactSlipPut", fn := fun _ => fun
  | [d] => { results := [.lit (.bool false)], args := [d] }
  | _ => none }
def FnExactSlipPutWrongFalsely : Prop := fnExactSlipPutRow.holds Try.pinned (OpenSpec.ofChange fnExactSlipPutWrong)

/-- 'laws.FnExactSlipGet': WHATEVER THE INPUT: true; the input reads as it did. -/
def fnExactSlipGetSpec : ChangeSpec := { name := "fnExactSlipGet", fn := fun _ => fun
  | [d] => { results := [.lit (.bool true)], args := [d] }
  | _ => none }
def fnExactSlipGetRow : OpenClaim := { program := "ythbijeicdjpbeaa", sum := "fbe138ed9480721c2f04f5b73458cbf3c981c4d8ed90e5e1365e35b26ce27873", func := "loop.example/cotterpin/laws.FnExactSlipGet", spec := "fnExactSlipGet", unfollowed := true, recurses := true, apart := false }
def FnExactSlipGetSaid : Prop := fnExactSlipGetRow.holds Try.pinned (OpenSpec.ofChange fnExactSlipGetSpec)

/-- ITS FALSE NEIGHBOUR: 'it returns false'. Refute it at one input. -/
def fnExactSlipGetWrong : ChangeSpec := { name := "fnExactSlipGet", fn := fun _ => fun
  | [d] => { results := [.lit (.bool false)], args := [d] }
  | _ => none }
def FnExactSlipGetWrongFalsely : Prop := fnExactSlipGetRow.holds Try.pinned (OpenSpec.ofChange fnExactSlipGetWrong)

/-- 'laws.FnExactVarPut': WHATEVER THE INPUT: true; the input reads as it did. -/
def fnExactVarPutSpec : ChangeSpec := { name := "fnExactVarPut", fn := fun _ => fun
  | [d] => { results := [.lit (.bool true)], args := [d] }
  | _ => none }
def fnExactVarPutRow : OpenClaim := { program := "ythbijeicdjpbeaa", sum := "fbe138ed9480721c2f04f5b73458cbf3c981c4d8ed90e5e1365e35b26ce27873", func := "loop.example/cotterpin/laws.FnExactVarPut", spec := "fnExactVarPut", apart := false }
def FnExactVarPutSaid : Prop := fnExactVarPutRow.holds Try.pinned (OpenSpec.ofChange fnExactVarPutSpec)

/-- ITS FALSE NEIGHBOUR: 'it returns false'. Refute it at one input. -/
def fnExactVarPutWrong : ChangeSpec := { name := "fnExactVarPut", fn := fun _ => fun
  | [d] => { results := [.lit (.bool false)], args := [d] }
  | _ => none }
def FnExactVarPutWrongFalsely : Prop := fnExactVarPutRow.holds Try.pinned (OpenSpec.ofChange fnExactVarPutWrong)

/-- 'laws.FnExactVarGet': WHATEVER THE INPUT: true; the input reads as it did. -/
def fnExactVarGetSpec : ChangeSpec := { name := "fnExactVarGet", fn := fun _ => fun
  | [d] => { results := [.lit (.bool true)], args := [d] }
  | _ => none }
def fnExactVarGetRow : OpenClaim := { program := "ythbijeicdjpbeaa", sum := "fbe138ed9480721c2f04f5b73458cbf3c981c4d8ed90e5e1365e35b26ce27873", func := "loop.example/cotterpin/laws.FnExactVarGet", spec := "fnExactVarGet", unfollowed := true, recurses := true, apart := false }
def FnExactVarGetSaid : Prop := fnExactVarGetRow.holds Try.pinned (OpenSpec.ofChange fnExactVarGetSpec)

/-- ITS FALSE NEIGHBOUR: 'it returns false'. Refute it at one input. -/
def fnExactVarGetWrong : ChangeSpec := { name := "fnExactVarGet", fn := fun _ => fun
  | [d] => { results := [.lit (.bool false)], args := [d] }
  | _ => none }
def FnExactVarGetWrongFalsely : Prop := fnExactVarGetRow.holds Try.pinned (OpenSpec.ofChange fnExactVarGetWrong)

/- THE SECOND FORM. 'bulk': how many values and letters a reading holds, each counted each time it is reached (what is shared counts as often as it is met; a slice's spare places count too). A statement '..UptoSaid' is the law's where the arguments, and the package variables that the reading takes, are together of bulk at most 1048576: NARROWER than '..Said'. Prove '..Said' where nothing that the law and all that it calls make is longer than what came in: it says more and counts as full. Else prove '..UptoSaid'. A law counts once. -/
mutual
def uptoBulk {H : Type} : DataW H → Nat
  | .lit (.string bytes) => bytes.length + 1
  | .lit _ => 1
  | .nil => 1
  | .ptr d => uptoBulk d + 1
  | .slice elems spare => uptoBulkAll elems + uptoBulkAll spare + 1
  | .agg parts => uptoBulkAll parts + 1
  | .iface _ d => uptoBulk d + 1
  | .map entries => uptoBulkEntries entries + 1
  | .held _ => 1
def uptoBulkAll {H : Type} : List (DataW H) → Nat
  | [] => 0
  | d :: r => uptoBulk d + uptoBulkAll r
def uptoBulkEntries {H : Type} : List (Lit × DataW H) → Nat
  | [] => 0
  | x :: r => uptoBulkEntry x + uptoBulkEntries r
def uptoBulkEntry {H : Type} : Lit × DataW H → Nat
  | (.string bytes, d) => bytes.length + uptoBulk d + 1
  | (_, d) => uptoBulk d + 1
 end
def uptoSmall : (H : Type) → List (DataW H) → Bool := fun _ ds => decide (uptoBulkAll ds ≤ 1048576)
def OpenSpec.upto (s : _root_.Go.ChangeSpec) : _root_.Go.OpenSpec := { _root_.Go.OpenSpec.ofChange s with cond := some uptoSmall }

/-- 'laws.FnSlipPut', WHERE WHAT IT READS IS OF BULK AT MOST 1048576: true; the input reads as it did. -/
def fnSlipPutUptoRow : OpenClaim := { program := "ythbijeicdjpbeaa", sum := "fbe138ed9480721c2f04f5b73458cbf3c981c4d8ed90e5e1365e35b26ce27873", func := "loop.example/cotterpin/laws.FnSlipPut", spec := "fnSlipPut", unfollowed := true, recurses := true, apart := false, narrowed := true }
def FnSlipPutUptoSaid : Prop := fnSlipPutUptoRow.holds Try.pinned (OpenSpec.upto fnSlipPutSpec)

/-- 'laws.FnSlipGet', WHERE WHAT IT READS IS OF BULK AT MOST 1048576: true; the input reads as it did. -/
def fnSlipGetUptoRow : OpenClaim := { program := "ythbijeicdjpbeaa", sum := "fbe138ed9480721c2f04f5b73458cbf3c981c4d8ed90e5e1365e35b26ce27873", func := "loop.example/cotterpin/laws.FnSlipGet", spec := "fnSlipGet", unfollowed := true, recurses := true, apart := false, narrowed := true }
def FnSlipGetUptoSaid : Prop := fnSlipGetUptoRow.holds Try.pinned (OpenSpec.upto fnSlipGetSpec)

/-- 'laws.FnVarPut', WHERE WHAT IT READS IS OF BULK AT MOST 1048576: true; the input reads as it did. -/
def fnVarPutUptoRow : OpenClaim := { program := "ythbijeicdjpbeaa", sum := "fbe138ed9480721c2f04f5b73458cbf3c981c4d8ed90e5e1365e35b26ce27873", func := "loop.example/cotterpin/laws.FnVarPut", spec := "fnVarPut", unfollowed := true, recurses := true, apart := false, narrowed := true }
def FnVarPutUptoSaid : Prop := fnVarPutUptoRow.holds Try.pinned (OpenSpec.upto fnVarPutSpec)

/-- 'laws.FnVarGet', WHERE WHAT IT READS IS OF BULK AT MOST 1048576: true; the input reads as it did. -/
def fnVarGetUptoRow : OpenClaim := { program := "ythbijeicdjpbeaa", sum := "fbe138ed9480721c2f04f5b73458cbf3c981c4d8ed90e5e1365e35b26ce27873", func := "loop.example/cotterpin/laws.FnVarGet", spec := "fnVarGet", unfollowed := true, recurses := true, apart := false, narrowed := true }
def FnVarGetUptoSaid : Prop := fnVarGetUptoRow.holds Try.pinned (OpenSpec.upto fnVarGetSpec)

/-- 'laws.FnExactSlipPut', WHERE WHAT IT READS IS OF BULK AT MOST 1048576: true; the input reads as it did. -/
def fnExactSlipPutUptoRow : OpenClaim := { program := "ythbijeicdjpbeaa", sum := "fbe138ed9480721c2f04f5b73458cbf3c981c4d8ed90e5e1365e35b26ce27873", func := "loop.example/cotterpin/laws.FnExactSlipPut", spec := "fnExactSlipPut", apart := false, narrowed := true }
def FnExactSlipPutUptoSaid : Prop := fnExactSlipPutUptoRow.holds Try.pinned (OpenSpec.upto fnExactSlipPutSpec)

/-- 'laws.FnExactSlipGet', WHERE WHAT IT READS IS OF BULK AT MOST 1048576: true; the input reads as it did. -/
def fnExactSlipGetUptoRow : OpenClaim := { program := "ythbijeicdjpbeaa", sum := "fbe138ed9480721c2f04f5b73458cbf3c981c4d8ed90e5e1365e35b26ce27873", func := "loop.example/cotterpin/laws.FnExactSlipGet", spec := "fnExactSlipGet", unfollowed := true, recurses := true, apart := false, narrowed := true }
def FnExactSlipGetUptoSaid : Prop := fnExactSlipGetUptoRow.holds Try.pinned (OpenSpec.upto fnExactSlipGetSpec)

/-- 'laws.FnExactVarPut', WHERE WHAT IT READS IS OF BULK AT MOST 1048576: true; the input reads as it did. -/
def fnExactVarPutUptoRow : OpenClaim := { program := "ythbijeicdjpbeaa", sum := "fbe138ed9480721c2f04f5b73458cbf3c981c4d8ed90e5e1365e35b26ce27873", func := "loop.example/cotterpin/laws.FnExactVarPut", spec := "fnExactVarPut", apart := false, narrowed := true }
def FnExactVarPutUptoSaid : Prop := fnExactVarPutUptoRow.holds Try.pinned (OpenSpec.upto fnExactVarPutSpec)

/-- 'laws.FnExactVarGet', WHERE WHAT IT READS IS OF BULK AT MOST 1048576: true; the input reads as it did. -/
def fnExactVarGetUptoRow : OpenClaim := { program := "ythbijeicdjpbeaa", sum := "fbe138ed9480721c2f04f5b73458cbf3c981c4d8ed90e5e1365e35b26ce27873", func := "loop.example/cotterpin/laws.FnExactVarGet", spec := "fnExactVarGet", unfollowed := true, recurses := true, apart := false, narrowed := true }
def FnExactVarGetUptoSaid : Prop := fnExactVarGetUptoRow.holds Try.pinned (OpenSpec.upto fnExactVarGetSpec)

end Rows
end Go.Proofs.Ythbijeicdjpbeaa
