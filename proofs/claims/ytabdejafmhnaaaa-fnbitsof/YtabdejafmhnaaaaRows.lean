/-
  No cell of these rows narrows 'for every input' (looked for: loops, veiled, ifaces, maps, wideKeys, modest, calm, conditions, laid).
  DERIVED. THE GIVEN ROWS OF THIS SEAT. 15 by the template 'for every input the law returns true; each argument reads behind the call as it read before'; 0 by the template 'total and deterministic' (their statements: YtabdejafmhnaaaaTotals.lean).
  GIVEN WITH THE SEED: the statements are not yours to turn. If you find one false, say at which input.
  Laid BY PROGRAM, IN A SANDBOX (cutbox-rows.mjs): the forced cells as the released guide's own fill.sh prints them over the translation c62cca3cb52f99e8… (all of the seat's roots in one cut). By AI agents, Wed Nov 11 2026. No macro, syntax, notation, axiom, sorry.
-/
import Derived.Test.YtabdejafmhnaaaaChecked
import GoSem.Claim
import GoSem.ClaimJoined
import GoSem.ClaimMapViews
import Derived.JoinedTies
import Derived.KernelRfl
namespace Go.Proofs.Ytabdejafmhnaaaa
/- THE CELL 'sum', in the pinned program and in every row, IS THE sha256 OF THE DUMP (.gsa) THAT YtabdejafmhnaaaaProg.lean LOADS. Nothing in Lean hashes anything: it is a label: what it is worth is what the hold of that sum in a sandbox is worth. -/
noncomputable def Try.pinned : Pinned := { name := "ytabdejafmhnaaaa", sum := "c62cca3cb52f99e81a72e83b9be962288b79b389d97275b7cdaffd167374e07a", checked := Try.checked }
namespace Rows
def none {H : Type} : Left H := { results := [], args := [] }

/-- 'laws.FnBitsOf': WHATEVER THE INPUT: true; the input reads as it did. -/
def fnBitsOfSpec : ChangeSpec := { name := "fnBitsOf", fn := fun _ => fun
  | [d1, d2] => { results := [.lit (.bool true)], args := [d1, d2] }
  | _ => none }
def fnBitsOfRow : OpenClaim := { program := "ytabdejafmhnaaaa", sum := "c62cca3cb52f99e81a72e83b9be962288b79b389d97275b7cdaffd167374e07a", func := "loop.example/cotterpin/laws.FnBitsOf", spec := "fnBitsOf", inPlace := ["internal/abi.NoEscape"], unfollowed := true, recurses := true, apart := false }
def FnBitsOfSaid : Prop := fnBitsOfRow.holds Try.pinned (OpenSpec.ofChange fnBitsOfSpec)

/-- ITS FALSE NEIGHBOUR: 'it returns false'. Refute it at one input. -/
def fnBitsOfWrong : ChangeSpec := { name := "fnBitsOf", fn := fun _ => fun
  | [d1, d2] => { results := [.lit (.bool false)], args := [d1, d2] }
  | _ => none }
def FnBitsOfWrongFalsely : Prop := fnBitsOfRow.holds Try.pinned (OpenSpec.ofChange fnBitsOfWrong)

/-- 'laws.FnBitsTo': WHATEVER THE INPUT: true; the input reads as it did. -/
def fnBitsToSpec : ChangeSpec := { name := "fnBitsTo", fn := fun _ => fun
  | [d] => { results := [.lit (.bool true)], args := [d] }
  | _ => none }
def fnBitsToRow : OpenClaim := { program := "ytabdejafmhnaaaa", sum := "c62cca3cb52f99e81a72e83b9be962288b79b389d97275b7cdaffd167374e07a", func := "loop.example/cotterpin/laws.FnBitsTo", spec := "fnBitsTo", inPlace := ["internal/abi.NoEscape"], unfollowed := true, recurses := true, apart := false }
def FnBitsToSaid : Prop := fnBitsToRow.holds Try.pinned (OpenSpec.ofChange fnBitsToSpec)

/-- ITS FALSE NEIGHBOUR: 'it returns false'. Refute it at one input. -/
def fnBitsToWrong : ChangeSpec := { name := "fnBitsTo", fn := fun _ => fun
  | [d] => { results := [.lit (.bool false)], args := [d] }
  | _ => none }
def FnBitsToWrongFalsely : Prop := fnBitsToRow.holds Try.pinned (OpenSpec.ofChange fnBitsToWrong)

/-- 'laws.FnBitsRun': WHATEVER THE INPUT: true; the input reads as it did. -/
def fnBitsRunSpec : ChangeSpec := { name := "fnBitsRun", fn := fun _ => fun
  | [d1, d2] => { results := [.lit (.bool true)], args := [d1, d2] }
  | _ => none }
def fnBitsRunRow : OpenClaim := { program := "ytabdejafmhnaaaa", sum := "c62cca3cb52f99e81a72e83b9be962288b79b389d97275b7cdaffd167374e07a", func := "loop.example/cotterpin/laws.FnBitsRun", spec := "fnBitsRun", apart := false }
def FnBitsRunSaid : Prop := fnBitsRunRow.holds Try.pinned (OpenSpec.ofChange fnBitsRunSpec)

/-- ITS FALSE NEIGHBOUR: 'it returns false'. Refute it at one input. -/
def fnBitsRunWrong : ChangeSpec := { name := "fnBitsRun", fn := fun _ => fun
  | [d1, d2] => { results := [.lit (.bool false)], args := [d1, d2] }
  | _ => none }
def FnBitsRunWrongFalsely : Prop := fnBitsRunRow.holds Try.pinned (OpenSpec.ofChange fnBitsRunWrong)

/-- 'laws.FnBitsFill': WHATEVER THE INPUT: true; the input reads as it did. -/
def fnBitsFillSpec : ChangeSpec := { name := "fnBitsFill", fn := fun _ => fun
  | [d] => { results := [.lit (.bool true)], args := [d] }
  | _ => none }
def fnBitsFillRow : OpenClaim := { program := "ytabdejafmhnaaaa", sum := "c62cca3cb52f99e81a72e83b9be962288b79b389d97275b7cdaffd167374e07a", func := "loop.example/cotterpin/laws.FnBitsFill", spec := "fnBitsFill", apart := false }
def FnBitsFillSaid : Prop := fnBitsFillRow.holds Try.pinned (OpenSpec.ofChange fnBitsFillSpec)

/-- ITS FALSE NEIGHBOUR: 'it returns false'. Refute it at one input. -/
def fnBitsFillWrong : ChangeSpec := { name := "fnBitsFill", fn := fun _ => fun
  | [d] => { results := [.lit (.bool false)], args := [d] }
  | _ => none }
def FnBitsFillWrongFalsely : Prop := fnBitsFillRow.holds Try.pinned (OpenSpec.ofChange fnBitsFillWrong)

/-- 'laws.FnStuffPut': WHATEVER THE INPUT: true; the input reads as it did. -/
def fnStuffPutSpec : ChangeSpec := { name := "fnStuffPut", fn := fun _ => fun
  | [d] => { results := [.lit (.bool true)], args := [d] }
  | _ => none }
def fnStuffPutRow : OpenClaim := { program := "ytabdejafmhnaaaa", sum := "c62cca3cb52f99e81a72e83b9be962288b79b389d97275b7cdaffd167374e07a", func := "loop.example/cotterpin/laws.FnStuffPut", spec := "fnStuffPut", inPlace := ["internal/abi.NoEscape"], unfollowed := true, recurses := true, apart := false }
def FnStuffPutSaid : Prop := fnStuffPutRow.holds Try.pinned (OpenSpec.ofChange fnStuffPutSpec)

/-- ITS FALSE NEIGHBOUR: 'it returns false'. Refute it at one input. -/
def fnStuffPutWrong : ChangeSpec := { name := "fnStuffPut", fn := fun _ => fun
  | [d] => { results := [.lit (.bool false)], args := [d] }
  | _ => none }
def FnStuffPutWrongFalsely : Prop := fnStuffPutRow.holds Try.pinned (OpenSpec.ofChange fnStuffPutWrong)

/-- 'laws.FnStuffGet': WHATEVER THE INPUT: true; the input reads as it did. -/
def fnStuffGetSpec : ChangeSpec := { name := "fnStuffGet", fn := fun _ => fun
  | [d] => { results := [.lit (.bool true)], args := [d] }
  | _ => none }
def fnStuffGetRow : OpenClaim := { program := "ytabdejafmhnaaaa", sum := "c62cca3cb52f99e81a72e83b9be962288b79b389d97275b7cdaffd167374e07a", func := "loop.example/cotterpin/laws.FnStuffGet", spec := "fnStuffGet", inPlace := ["internal/abi.NoEscape"], unfollowed := true, recurses := true, apart := false }
def FnStuffGetSaid : Prop := fnStuffGetRow.holds Try.pinned (OpenSpec.ofChange fnStuffGetSpec)

/-- ITS FALSE NEIGHBOUR: 'it returns false'. Refute it at one input. -/
def fnStuffGetWrong : ChangeSpec := { name := "fnStuffGet", fn := fun _ => fun
  | [d] => { results := [.lit (.bool false)], args := [d] }
  | _ => none }
def FnStuffGetWrongFalsely : Prop := fnStuffGetRow.holds Try.pinned (OpenSpec.ofChange fnStuffGetWrong)

/-- 'laws.FnStuffMany': WHATEVER THE INPUT: true; the input reads as it did. -/
def fnStuffManySpec : ChangeSpec := { name := "fnStuffMany", fn := fun _ => fun
  | [d] => { results := [.lit (.bool true)], args := [d] }
  | _ => none }
def fnStuffManyRow : OpenClaim := { program := "ytabdejafmhnaaaa", sum := "c62cca3cb52f99e81a72e83b9be962288b79b389d97275b7cdaffd167374e07a", func := "loop.example/cotterpin/laws.FnStuffMany", spec := "fnStuffMany", inPlace := ["internal/abi.NoEscape"], unfollowed := true, recurses := true, apart := false }
def FnStuffManySaid : Prop := fnStuffManyRow.holds Try.pinned (OpenSpec.ofChange fnStuffManySpec)

/-- ITS FALSE NEIGHBOUR: 'it returns false'. Refute it at one input. -/
def fnStuffManyWrong : ChangeSpec := { name := "fnStuffMany", fn := fun _ => fun
  | [d] => { results := [.lit (.bool false)], args := [d] }
  | _ => none }
def FnStuffManyWrongFalsely : Prop := fnStuffManyRow.holds Try.pinned (OpenSpec.ofChange fnStuffManyWrong)

/-- 'laws.FnExactBitsOk': WHATEVER THE INPUT: true; the input reads as it did. -/
def fnExactBitsOkSpec : ChangeSpec := { name := "fnExactBitsOk", fn := fun _ => fun
  | [d] => { results := [.lit (.bool true)], args := [d] }
  | _ => none }
def fnExactBitsOkRow : OpenClaim := { program := "ytabdejafmhnaaaa", sum := "c62cca3cb52f99e81a72e83b9be962288b79b389d97275b7cdaffd167374e07a", func := "loop.example/cotterpin/laws.FnExactBitsOk", spec := "fnExactBitsOk", apart := false }
def FnExactBitsOkSaid : Prop := fnExactBitsOkRow.holds Try.pinned (OpenSpec.ofChange fnExactBitsOkSpec)

/-- ITS FALSE NEIGHBOUR: 'it returns false'. Refute it at one input. -/
def fnExactBitsOkWrong : ChangeSpec := { name := "fnExactBitsOk", fn := fun _ => fun
  | [d] => { results := [.lit (.bool false)], args := [d] }
  | _ => none }
def FnExactBitsOkWrongFalsely : Prop := fnExactBitsOkRow.holds Try.pinned (OpenSpec.ofChange fnExactBitsOkWrong)

/-- 'laws.FnExactBitsOf': WHATEVER THE INPUT: true; the input reads as it did. -/
def fnExactBitsOfSpec : ChangeSpec := { name := "fnExactBitsOf", fn := fun _ => fun
  | [d] => { results := [.lit (.bool true)], args := [d] }
  | _ => none }
def fnExactBitsOfRow : OpenClaim := { program := "ytabdejafmhnaaaa", sum := "c62cca3cb52f99e81a72e83b9be962288b79b389d97275b7cdaffd167374e07a", func := "loop.example/cotterpin/laws.FnExactBitsOf", spec := "fnExactBitsOf", inPlace := ["internal/abi.NoEscape"], unfollowed := true, recurses := true, apart := false }
def FnExactBitsOfSaid : Prop := fnExactBitsOfRow.holds Try.pinned (OpenSpec.ofChange fnExactBitsOfSpec)

/-- ITS FALSE NEIGHBOUR: 'it returns false'. Refute it at one input. -/
def fnExactBitsOfWrong : ChangeSpec := { name := "fnExactBitsOf", fn := fun _ => fun
  | [d] => { results := [.lit (.bool false)], args := [d] }
  | _ => none }
def FnExactBitsOfWrongFalsely : Prop := fnExactBitsOfRow.holds Try.pinned (OpenSpec.ofChange fnExactBitsOfWrong)

/-- 'laws.FnExactBitsTo': WHATEVER THE INPUT: true; the input reads as it did. -/
def fnExactBitsToSpec : ChangeSpec := { name := "fnExactBitsTo", fn := fun _ => fun
  | [d] => { results := [.lit (.bool true)], args := [d] }
  | _ => none }
def fnExactBitsToRow : OpenClaim := { program := "ytabdejafmhnaaaa", sum := "c62cca3cb52f99e81a72e83b9be962288b79b389d97275b7cdaffd167374e07a", func := "loop.example/cotterpin/laws.FnExactBitsTo", spec := "fnExactBitsTo", apart := false }
def FnExactBitsToSaid : Prop := fnExactBitsToRow.holds Try.pinned (OpenSpec.ofChange fnExactBitsToSpec)

/-- ITS FALSE NEIGHBOUR: 'it returns false'. Refute it at one input. -/
def fnExactBitsToWrong : ChangeSpec := { name := "fnExactBitsTo", fn := fun _ => fun
  | [d] => { results := [.lit (.bool false)], args := [d] }
  | _ => none }
def FnExactBitsToWrongFalsely : Prop := fnExactBitsToRow.holds Try.pinned (OpenSpec.ofChange fnExactBitsToWrong)

/-- 'laws.FnExactBitsRun': WHATEVER THE INPUT: true; the input reads as it did. -/
def fnExactBitsRunSpec : ChangeSpec := { name := "fnExactBitsRun", fn := fun _ => fun
  | [d] => { results := [.lit (.bool true)], args := [d] }
  | _ => none }
def fnExactBitsRunRow : OpenClaim := { program := "ytabdejafmhnaaaa", sum := "c62cca3cb52f99e81a72e83b9be962288b79b389d97275b7cdaffd167374e07a", func := "loop.example/cotterpin/laws.FnExactBitsRun", spec := "fnExactBitsRun", apart := false }
def FnExactBitsRunSaid : Prop := fnExactBitsRunRow.holds Try.pinned (OpenSpec.ofChange fnExactBitsRunSpec)

/-- ITS FALSE NEIGHBOUR: 'it returns false'. Refute it at one input. -/
def fnExactBitsRunWrong : ChangeSpec := { name := "fnExactBitsRun", fn := fun _ => fun
  | [d] => { results := [.lit (.bool false)], args := [d] }
  | _ => none }
def FnExactBitsRunWrongFalsely : Prop := fnExactBitsRunRow.holds Try.pinned (OpenSpec.ofChange fnExactBitsRunWrong)

/-- 'laws.FnExactBitsFill': WHATEVER THE INPUT: true; the input reads as it did. -/
def fnExactBitsFillSpec : ChangeSpec := { name := "fnExactBitsFill", fn := fun _ => fun
  | [d] => { results := [.lit (.bool true)], args := [d] }
  | _ => none }
def fnExactBitsFillRow : OpenClaim := { program := "ytabdejafmhnaaaa", sum := "c62cca3cb52f99e81a72e83b9be962288b79b389d97275b7cdaffd167374e07a", func := "loop.example/cotterpin/laws.FnExactBitsFill", spec := "fnExactBitsFill", apart := false }
def FnExactBitsFillSaid : Prop := fnExactBitsFillRow.holds Try.pinned (OpenSpec.ofChange fnExactBitsFillSpec)

/-- ITS FALSE NEIGHBOUR: 'it returns false'. Refute it at one input. -/
def fnExactBitsFillWrong : ChangeSpec := { name := "fnExactBitsFill", fn := fun _ => fun
  | [d] => { results := [.lit (.bool false)], args := [d] }
  | _ => none }
def FnExactBitsFillWrongFalsely : Prop := fnExactBitsFillRow.holds Try.pinned (OpenSpec.ofChange fnExactBitsFillWrong)

/-- 'laws.FnExactStuffPut': WHATEVER THE INPUT: true; the input reads as it did. -/
def fnExactStuffPutSpec : ChangeSpec := { name := "fnExactStuffPut", fn := fun _ => fun
  | [d] => { results := [.lit (.bool true)], args := [d] }
  | _ => none }
def fnExactStuffPutRow : OpenClaim := { program := "ytabdejafmhnaaaa", sum := "c62cca3cb52f99e81a72e83b9be962288b79b389d97275b7cdaffd167374e07a", func := "loop.example/cotterpin/laws.FnExactStuffPut", spec := "fnExactStuffPut", inPlace := ["internal/abi.NoEscape"], unfollowed := true, recurses := true, apart := false }
def FnExactStuffPutSaid : Prop := fnExactStuffPutRow.holds Try.pinned (OpenSpec.ofChange fnExactStuffPutSpec)

/-- ITS FALSE NEIGHBOUR: 'it returns false'. Refute it at one input. -/
def fnExactStuffPutWrong : ChangeSpec := { name := "fnExactStuffPut", fn := fun _ => fun
  | [d] => { results := [.lit (.bool false)], args := [d] }
  | _ => none }
def FnExactStuffPutWrongFalsely : Prop := fnExactStuffPutRow.holds Try.pinned (OpenSpec.ofChange fnExactStuffPutWrong)

/-- 'laws.FnExactStuffGet': WHATEVER THE INPUT: true; the input reads as it did. -/
def fnExactStuffGetSpec : ChangeSpec := { name := "fnExactStuffGet", fn := fun _ => fun
  | [d] => { results := [.lit (.bool true)], args := [d] }
  | _ => none }
def fnExactStuffGetRow : OpenClaim := { program := "ytabdejafmhnaaaa", sum := "c62cca3cb52f99e81a72e83b9be962288b79b389d97275b7cdaffd167374e07a", func := "loop.example/cotterpin/laws.FnExactStuffGet", spec := "fnExactStuffGet", inPlace := ["internal/abi.NoEscape"], unfollowed := true, recurses := true, apart := false }
def FnExactStuffGetSaid : Prop := fnExactStuffGetRow.holds Try.pinned (OpenSpec.ofChange fnExactStuffGetSpec)

/-- ITS FALSE NEIGHBOUR: 'it returns false'. Refute it at one input. -/
def fnExactStuffGetWrong : ChangeSpec := { name := "fnExactStuffGet", fn := fun _ => fun
  | [d] => { results := [.lit (.bool false)], args := [d] }
  | _ => none }
def FnExactStuffGetWrongFalsely : Prop := fnExactStuffGetRow.holds Try.pinned (OpenSpec.ofChange fnExactStuffGetWrong)

/-- 'laws.FnExactStuffMany': WHATEVER THE INPUT: true; the input reads as it did. -/
def fnExactStuffManySpec : ChangeSpec := { name := "fnExactStuffMany", fn := fun _ => fun
  | [d] => { results := [.lit (.bool true)], args := [d] }
  | _ => none }
def fnExactStuffManyRow : OpenClaim := { program := "ytabdejafmhnaaaa", sum := "c62cca3cb52f99e81a72e83b9be962288b79b389d97275b7cdaffd167374e07a", func := "loop.example/cotterpin/laws.FnExactStuffMany", spec := "fnExactStuffMany", inPlace := ["internal/abi.NoEscape"], unfollowed := true, recurses := true, apart := false }
def FnExactStuffManySaid : Prop := fnExactStuffManyRow.holds Try.pinned (OpenSpec.ofChange fnExactStuffManySpec)

/-- ITS FALSE NEIGHBOUR: 'it returns false'. Refute it at one input. -/
def fnExactStuffManyWrong : ChangeSpec := { name := "fnExactStuffMany", fn := fun _ => fun
  | [d] => { results := [.lit (.bool false)], args := [d] }
  | _ => none }
def FnExactStuffManyWrongFalsely : Prop := fnExactStuffManyRow.holds Try.pinned (OpenSpec.ofChange fnExactStuffManyWrong)

/- THE SECOND FORM. 'bulk': how many values and letters a reading holds, each counted each time it is reached (what is shared counts as often as it is met; a slice's spare places count too). A statement '..UptoSaid' is the law's where the arguments, and the package variables that the reading takes, are together of bulk at most 1048576: NARROWER than '..Said'. Prove '..Said' where nothing that the law and all that it calls make is longer than what came in: it says more and counts as full. Else prove '..UptoSaid'. A law counts once. -/
mutual
def uptoBulk {H : Type} : DataW H → Nat
  | .lit (.string bytes) => bytes.length + 1
  | .lit _ => 1
  | .nil => 1
  | .ptr d => uptoBulk d + 1
  | .slice elems spare => uptoBulkAll elems + uptoBulkAll spare + 1
  | .agg parts => uptoBulkAll parts + 1
  | .iface _ d => uptoBulk d + 1
  | .map entries => uptoBulkEntries entries + 1
  | .held _ => 1
def uptoBulkAll {H : Type} : List (DataW H) → Nat
  | [] => 0
  | d :: r => uptoBulk d + uptoBulkAll r
def uptoBulkEntries {H : Type} : List (Lit × DataW H) → Nat
  | [] => 0
  | x :: r => uptoBulkEntry x + uptoBulkEntries r
def uptoBulkEntry {H : Type} : Lit × DataW H → Nat
  | (.string bytes, d) => bytes.length + uptoBulk d + 1
  | (_, d) => uptoBulk d + 1
 end
def uptoSmall : (H : Type) → List (DataW H) → Bool := fun _ ds => decide (uptoBulkAll ds ≤ 1048576)
def OpenSpec.upto (s : _root_.Go.ChangeSpec) : _root_.Go.OpenSpec := { _root_.Go.OpenSpec.ofChange s with cond := some uptoSmall }

/-- 'laws.FnBitsOf', WHERE WHAT IT READS IS OF BULK AT MOST 1048576: true; the input reads as it did. -/
def fnBitsOfUptoRow : OpenClaim := { program := "ytabdejafmhnaaaa", sum := "c62cca3cb52f99e81a72e83b9be962288b79b389d97275b7cdaffd167374e07a", func := "loop.example/cotterpin/laws.FnBitsOf", spec := "fnBitsOf", inPlace := ["internal/abi.NoEscape"], unfollowed := true, recurses := true, apart := false, narrowed := true }
def FnBitsOfUptoSaid : Prop := fnBitsOfUptoRow.holds Try.pinned (OpenSpec.upto fnBitsOfSpec)

/-- 'laws.FnBitsTo', WHERE WHAT IT READS IS OF BULK AT MOST 1048576: true; the input reads as it did. -/
def fnBitsToUptoRow : OpenClaim := { program := "ytabdejafmhnaaaa", sum := "c62cca3cb52f99e81a72e83b9be962288b79b389d97275b7cdaffd167374e07a", func := "loop.example/cotterpin/laws.FnBitsTo", spec := "fnBitsTo", inPlace := ["internal/abi.NoEscape"], unfollowed := true, recurses := true, apart := false, narrowed := true }
def FnBitsToUptoSaid : Prop := fnBitsToUptoRow.holds Try.pinned (OpenSpec.upto fnBitsToSpec)

/-- 'laws.FnBitsRun', WHERE WHAT IT READS IS OF BULK AT MOST 1048576: true; the input reads as it did. -/
def fnBitsRunUptoRow : OpenClaim := { program := "ytabdejafmhnaaaa", sum := "c62cca3cb52f99e81a72e83b9be962288b79b389d97275b7cdaffd167374e07a", func := "loop.example/cotterpin/laws.FnBitsRun", spec := "fnBitsRun", apart := false, narrowed := true }
def FnBitsRunUptoSaid : Prop := fnBitsRunUptoRow.holds Try.pinned (OpenSpec.upto fnBitsRunSpec)

/-- 'laws.FnBitsFill', WHERE WHAT IT READS IS OF BULK AT MOST 1048576: true; the input reads as it did. -/
def fnBitsFillUptoRow : OpenClaim := { program := "ytabdejafmhnaaaa", sum := "c62cca3cb52f99e81a72e83b9be962288b79b389d97275b7cdaffd167374e07a", func := "loop.example/cotterpin/laws.FnBitsFill", spec := "fnBitsFill", apart := false, narrowed := true }
def FnBitsFillUptoSaid : Prop := fnBitsFillUptoRow.holds Try.pinned (OpenSpec.upto fnBitsFillSpec)

/-- 'laws.FnStuffPut', WHERE WHAT IT READS IS OF BULK AT MOST 1048576: true; the input reads as it did. -/
def fnStuffPutUptoRow : OpenClaim := { program := "ytabdejafmhnaaaa", sum := "c62cca3cb52f99e81a72e83b9be962288b79b389d97275b7cdaffd167374e07a", func := "loop.example/cotterpin/laws.FnStuffPut", spec := "fnStuffPut", inPlace := ["internal/abi.NoEscape"], unfollowed := true, recurses := true, apart := false, narrowed := true }
def FnStuffPutUptoSaid : Prop := fnStuffPutUptoRow.holds Try.pinned (OpenSpec.upto fnStuffPutSpec)

/-- 'laws.FnStuffGet', WHERE WHAT IT READS IS OF BULK AT MOST 1048576: true; the input reads as it did. -/
def fnStuffGetUptoRow : OpenClaim := { program := "ytabdejafmhnaaaa", sum := "c62cca3cb52f99e81a72e83b9be962288b79b389d97275b7cdaffd167374e07a", func := "loop.example/cotterpin/laws.FnStuffGet", spec := "fnStuffGet", inPlace := ["internal/abi.NoEscape"], unfollowed := true, recurses := true, apart := false, narrowed := true }
def FnStuffGetUptoSaid : Prop := fnStuffGetUptoRow.holds Try.pinned (OpenSpec.upto fnStuffGetSpec)

/-- 'laws.FnStuffMany', WHERE WHAT IT READS IS OF BULK AT MOST 1048576: true; the input reads as it did. -/
def fnStuffManyUptoRow : OpenClaim := { program := "ytabdejafmhnaaaa", sum := "c62cca3cb52f99e81a72e83b9be962288b79b389d97275b7cdaffd167374e07a", func := "loop.example/cotterpin/laws.FnStuffMany", spec := "fnStuffMany", inPlace := ["internal/abi.NoEscape"], unfollowed := true, recurses := true, apart := false, narrowed := true }
def FnStuffManyUptoSaid : Prop := fnStuffManyUptoRow.holds Try.pinned (OpenSpec.upto fnStuffManySpec)

/-- 'laws.FnExactBitsOk', WHERE WHAT IT READS IS OF BULK AT MOST 1048576: true; the input reads as it did. -/
def fnExactBitsOkUptoRow : OpenClaim := { program := "ytabdejafmhnaaaa", sum := "c62cca3cb52f99e81a72e83b9be962288b79b389d97275b7cdaffd167374e07a", func := "loop.example/cotterpin/laws.FnExactBitsOk", spec := "fnExactBitsOk", apart := false, narrowed := true }
def FnExactBitsOkUptoSaid : Prop := fnExactBitsOkUptoRow.holds Try.pinned (OpenSpec.upto fnExactBitsOkSpec)

/-- 'laws.FnExactBitsOf', WHERE WHAT IT READS IS OF BULK AT MOST 1048576: true; the input reads as it did. -/
def fnExactBitsOfUptoRow : OpenClaim := { program := "ytabdejafmhnaaaa", sum := "c62cca3cb52f99e81a72e83b9be962288b79b389d97275b7cdaffd167374e07a", func := "loop.example/cotterpin/laws.FnExactBitsOf", spec := "fnExactBitsOf", inPlace := ["internal/abi.NoEscape"], unfollowed := true, recurses := true, apart := false, narrowed := true }
def FnExactBitsOfUptoSaid : Prop := fnExactBitsOfUptoRow.holds Try.pinned (OpenSpec.upto fnExactBitsOfSpec)

/-- 'laws.FnExactBitsTo', WHERE WHAT IT READS IS OF BULK AT MOST 1048576: true; the input reads as it did. -/
def fnExactBitsToUptoRow : OpenClaim := { program := "ytabdejafmhnaaaa", sum := "c62cca3cb52f99e81a72e83b9be962288b79b389d97275b7cdaffd167374e07a", func := "loop.example/cotterpin/laws.FnExactBitsTo", spec := "fnExactBitsTo", apart := false, narrowed := true }
def FnExactBitsToUptoSaid : Prop := fnExactBitsToUptoRow.holds Try.pinned (OpenSpec.upto fnExactBitsToSpec)

/-- 'laws.FnExactBitsRun', WHERE WHAT IT READS IS OF BULK AT MOST 1048576: true; the input reads as it did. -/
def fnExactBitsRunUptoRow : OpenClaim := { program := "ytabdejafmhnaaaa", sum := "c62cca3cb52f99e81a72e83b9be962288b79b389d97275b7cdaffd167374e07a", func := "loop.example/cotterpin/laws.FnExactBitsRun", spec := "fnExactBitsRun", apart := false, narrowed := true }
def FnExactBitsRunUptoSaid : Prop := fnExactBitsRunUptoRow.holds Try.pinned (OpenSpec.upto fnExactBitsRunSpec)

/-- 'laws.FnExactBitsFill', WHERE WHAT IT READS IS OF BULK AT MOST 1048576: true; the input reads as it did. -/
def fnExactBitsFillUptoRow : OpenClaim := { program := "ytabdejafmhnaaaa", sum := "c62cca3cb52f99e81a72e83b9be962288b79b389d97275b7cdaffd167374e07a", func := "loop.example/cotterpin/laws.FnExactBitsFill", spec := "fnExactBitsFill", apart := false, narrowed := true }
def FnExactBitsFillUptoSaid : Prop := fnExactBitsFillUptoRow.holds Try.pinned (OpenSpec.upto fnExactBitsFillSpec)

/-- 'laws.FnExactStuffPut', WHERE WHAT IT READS IS OF BULK AT MOST 1048576: true; the input reads as it did. -/
def fnExactStuffPutUptoRow : OpenClaim := { program := "ytabdejafmhnaaaa", sum := "c62cca3cb52f99e81a72e83b9be962288b79b389d97275b7cdaffd167374e07a", func := "loop.example/cotterpin/laws.FnExactStuffPut", spec := "fnExactStuffPut", inPlace := ["internal/abi.NoEscape"], unfollowed := true, recurses := true, apart := false, narrowed := true }
def FnExactStuffPutUptoSaid : Prop := fnExactStuffPutUptoRow.holds Try.pinned (OpenSpec.upto fnExactStuffPutSpec)

/-- 'laws.FnExactStuffGet', WHERE WHAT IT READS IS OF BULK AT MOST 1048576: true; the input reads as it did. -/
def fnExactStuffGetUptoRow : OpenClaim := { program := "ytabdejafmhnaaaa", sum := "c62cca3cb52f99e81a72e83b9be962288b79b389d97275b7cdaffd167374e07a", func := "loop.example/cotterpin/laws.FnExactStuffGet", spec := "fnExactStuffGet", inPlace := ["internal/abi.NoEscape"], unfollowed := true, recurses := true, apart := false, narrowed := true }
def FnExactStuffGetUptoSaid : Prop := fnExactStuffGetUptoRow.holds Try.pinned (OpenSpec.upto fnExactStuffGetSpec)

/-- 'laws.FnExactStuffMany', WHERE WHAT IT READS IS OF BULK AT MOST 1048576: true; the input reads as it did. -/
def fnExactStuffManyUptoRow : OpenClaim := { program := "ytabdejafmhnaaaa", sum := "c62cca3cb52f99e81a72e83b9be962288b79b389d97275b7cdaffd167374e07a", func := "loop.example/cotterpin/laws.FnExactStuffMany", spec := "fnExactStuffMany", inPlace := ["internal/abi.NoEscape"], unfollowed := true, recurses := true, apart := false, narrowed := true }
def FnExactStuffManyUptoSaid : Prop := fnExactStuffManyUptoRow.holds Try.pinned (OpenSpec.upto fnExactStuffManySpec)

end Rows
end Go.Proofs.Ytabdejafmhnaaaa
