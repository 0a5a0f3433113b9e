/-
  No cell of these rows narrows 'for every input' (looked for: loops, veiled, ifaces, maps, wideKeys, modest, calm, conditions, laid).
  DERIVED. THE GIVEN ROWS OF THIS SEAT. 12 by the template 'for every input the law returns true; each argument reads behind the call as it read before'; 0 by the template 'total and deterministic' (their statements: YthggbcpphoknfaaTotals.lean).
  GIVEN WITH THE SEED: the statements are not yours to turn. If you find one false, say at which input.
  Laid BY PROGRAM, IN A SANDBOX (cutbox-rows.mjs): the forced cells as the released guide's own fill.sh prints them over the translation 79edbc9ce71f0607… (all of the seat's roots in one cut). By AI agents, Wed Nov 11 2026. No macro, syntax, notation, axiom, sorry.
-/
import Derived.Test.YthggbcpphoknfaaChecked
import GoSem.Claim
import GoSem.ClaimJoined
import GoSem.ClaimMapViews
import Derived.JoinedTies
import Derived.KernelRfl
namespace Go.Proofs.Ythggbcpphoknfaa
/- THE CELL 'sum', in the pinned program and in every row, IS THE sha256 OF THE DUMP (.gsa) THAT YthggbcpphoknfaaProg.lean LOADS. Nothing in Lean hashes anything: it is a label: what it is worth is what the hold of that sum in a sandbox is worth. -/
noncomputable def Try.pinned : Pinned := { name := "ythggbcpphoknfaa", sum := "79edbc9ce71f06074e3395ac06cf4c2a715b6f143f312fcae8785ab7563fd486", checked := Try.checked }
namespace Rows
def none {H : Type} : Left H := { results := [], args := [] }

/-- 'laws.FnSumOf': WHATEVER THE INPUT: true; the input reads as it did. -/
def fnSumOfSpec : ChangeSpec := { name := "fnSumOf", fn := fun _ => fun
  | [d] => { results := [.lit (.bool true)], args := [d] }
  | _ => none }
def fnSumOfRow : OpenClaim := { program := "ythggbcpphoknfaa", sum := "79edbc9ce71f06074e3395ac06cf4c2a715b6f143f312fcae8785ab7563fd486", func := "loop.example/cotterpin/laws.FnSumOf", spec := "fnSumOf", unfollowed := true, recurses := true, apart := false }
def FnSumOfSaid : Prop := fnSumOfRow.holds Try.pinned (OpenSpec.ofChange fnSumOfSpec)

/-- ITS FALSE NEIGHBOUR: 'it returns false'. Refute it at one input. -/
def fnSumOfWrong : ChangeSpec := { name := "fnSumOf", fn := fun _ => fun
  | [d] => { results := [.lit (.bool false)], args := [d] }
  | _ => none }
def FnSumOfWrongFalsely : Prop := fnSumOfRow.holds Try.pinned (OpenSpec.ofChange fnSumOfWrong)

/-- 'laws.FnSumRun': WHATEVER THE INPUT: true; the input reads as it did. -/
def fnSumRunSpec : ChangeSpec := { name := "fnSumRun", fn := fun _ => fun
  | [d1, d2] => { results := [.lit (.bool true)], args := [d1, d2] }
  | _ => none }
def fnSumRunRow : OpenClaim := { program := "ythggbcpphoknfaa", sum := "79edbc9ce71f06074e3395ac06cf4c2a715b6f143f312fcae8785ab7563fd486", func := "loop.example/cotterpin/laws.FnSumRun", spec := "fnSumRun", unfollowed := true, recurses := true, apart := false }
def FnSumRunSaid : Prop := fnSumRunRow.holds Try.pinned (OpenSpec.ofChange fnSumRunSpec)

/-- ITS FALSE NEIGHBOUR: 'it returns false'. Refute it at one input. -/
def fnSumRunWrong : ChangeSpec := { name := "fnSumRun", fn := fun _ => fun
  | [d1, d2] => { results := [.lit (.bool false)], args := [d1, d2] }
  | _ => none }
def FnSumRunWrongFalsely : Prop := fnSumRunRow.holds Try.pinned (OpenSpec.ofChange fnSumRunWrong)

/-- 'laws.FnSumLine': WHATEVER THE INPUT: true; the input reads as it did. -/
def fnSumLineSpec : ChangeSpec := { name := "fnSumLine", fn := fun _ => fun
  | [d1, d2] => { results := [.lit (.bool true)], args := [d1, d2] }
  | _ => none }
def fnSumLineRow : OpenClaim := { program := "ythggbcpphoknfaa", sum := "79edbc9ce71f06074e3395ac06cf4c2a715b6f143f312fcae8785ab7563fd486", func := "loop.example/cotterpin/laws.FnSumLine", spec := "fnSumLine", unfollowed := true, recurses := true, apart := false }
def FnSumLineSaid : Prop := fnSumLineRow.holds Try.pinned (OpenSpec.ofChange fnSumLineSpec)

/-- ITS FALSE NEIGHBOUR: 'it returns false'. Refute it at one input. -/
def fnSumLineWrong : ChangeSpec := { name := "fnSumLine", fn := fun _ => fun
  | [d1, d2] => { results := [.lit (.bool false)], args := [d1, d2] }
  | _ => none }
def FnSumLineWrongFalsely : Prop := fnSumLineRow.holds Try.pinned (OpenSpec.ofChange fnSumLineWrong)

/-- 'laws.FnSumPut': WHATEVER THE INPUT: true; the input reads as it did. -/
def fnSumPutSpec : ChangeSpec := { name := "fnSumPut", fn := fun _ => fun
  | [d1, d2] => { results := [.lit (.bool true)], args := [d1, d2] }
  | _ => none }
def fnSumPutRow : OpenClaim := { program := "ythggbcpphoknfaa", sum := "79edbc9ce71f06074e3395ac06cf4c2a715b6f143f312fcae8785ab7563fd486", func := "loop.example/cotterpin/laws.FnSumPut", spec := "fnSumPut", unfollowed := true, recurses := true, apart := false }
def FnSumPutSaid : Prop := fnSumPutRow.holds Try.pinned (OpenSpec.ofChange fnSumPutSpec)

/-- ITS FALSE NEIGHBOUR: 'it returns false'. Refute it at one input. -/
def fnSumPutWrong : ChangeSpec := { name := "fnSumPut", fn := fun _ => fun
  | [d1, d2] => { results := [.lit (.bool false)], args := [d1, d2] }
  | _ => none }
def FnSumPutWrongFalsely : Prop := fnSumPutRow.holds Try.pinned (OpenSpec.ofChange fnSumPutWrong)

/-- 'laws.FnSumGet': WHATEVER THE INPUT: true; the input reads as it did. -/
def fnSumGetSpec : ChangeSpec := { name := "fnSumGet", fn := fun _ => fun
  | [d] => { results := [.lit (.bool true)], args := [d] }
  | _ => none }
def fnSumGetRow : OpenClaim := { program := "ythggbcpphoknfaa", sum := "79edbc9ce71f06074e3395ac06cf4c2a715b6f143f312fcae8785ab7563fd486", func := "loop.example/cotterpin/laws.FnSumGet", spec := "fnSumGet", unfollowed := true, recurses := true, apart := false }
def FnSumGetSaid : Prop := fnSumGetRow.holds Try.pinned (OpenSpec.ofChange fnSumGetSpec)

/-- ITS FALSE NEIGHBOUR: 'it returns false'. Refute it at one input. -/
def fnSumGetWrong : ChangeSpec := { name := "fnSumGet", fn := fun _ => fun
  | [d] => { results := [.lit (.bool false)], args := [d] }
  | _ => none }
def FnSumGetWrongFalsely : Prop := fnSumGetRow.holds Try.pinned (OpenSpec.ofChange fnSumGetWrong)

/-- 'laws.FnSumGood': WHATEVER THE INPUT: true; the input reads as it did. -/
def fnSumGoodSpec : ChangeSpec := { name := "fnSumGood", fn := fun _ => fun
  | [d] => { results := [.lit (.bool true)], args := [d] }
  | _ => none }
def fnSumGoodRow : OpenClaim := { program := "ythggbcpphoknfaa", sum := "79edbc9ce71f06074e3395ac06cf4c2a715b6f143f312fcae8785ab7563fd486", func := "loop.example/cotterpin/laws.FnSumGood", spec := "fnSumGood", unfollowed := true, recurses := true, apart := false }
def FnSumGoodSaid : Prop := fnSumGoodRow.holds Try.pinned (OpenSpec.ofChange fnSumGoodSpec)

/-- ITS FALSE NEIGHBOUR: 'it returns false'. Refute it at one input. -/
def fnSumGoodWrong : ChangeSpec := { name := "fnSumGood", fn := fun _ => fun
  | [d] => { results := [.lit (.bool false)], args := [d] }
  | _ => none }
def FnSumGoodWrongFalsely : Prop := fnSumGoodRow.holds Try.pinned (OpenSpec.ofChange fnSumGoodWrong)

/-- 'laws.FnExactSumStart': WHATEVER THE INPUT: true; the input reads as it did. -/
def fnExactSumStartSpec : ChangeSpec := { name := "fnExactSumStart", fn := fun _ => fun
  | [d] => { results := [.lit (.bool true)], args := [d] }
  | _ => none }
def fnExactSumStartRow : OpenClaim := { program := "ythggbcpphoknfaa", sum := "79edbc9ce71f06074e3395ac06cf4c2a715b6f143f312fcae8785ab7563fd486", func := "loop.example/cotterpin/laws.FnExactSumStart", spec := "fnExactSumStart", apart := false }
def FnExactSumStartSaid : Prop := fnExactSumStartRow.holds Try.pinned (OpenSpec.ofChange fnExactSumStartSpec)

/-- ITS FALSE NEIGHBOUR: 'it returns false'. Refute it at one input. -/
def fnExactSumStartWrong : ChangeSpec := { name := "fnExactSumStart", fn := fun _ => fun
  | [d] => { results := [.lit (.bool false)], args := [d] }
  | _ => none }
def FnExactSumStartWrongFalsely : Prop := fnExactSumStartRow.holds Try.pinned (OpenSpec.ofChange fnExactSumStartWrong)

/-- 'laws.FnExactSumRun': WHATEVER THE INPUT: true; the input reads as it did. -/
def fnExactSumRunSpec : ChangeSpec := { name := "fnExactSumRun", fn := fun _ => fun
  | [d1, d2, d3] => { results := [.lit (.bool true)], args := [d1, d2, d3] }
  | _ => none }
def fnExactSumRunRow : OpenClaim := { program := "ythggbcpphoknfaa", sum := "79edbc9ce71f06074e3395ac06cf4c2a715b6f143f312fcae8785ab7563fd486", func := "loop.example/cotterpin/laws.FnExactSumRun", spec := "fnExactSumRun", unfollowed := true, recurses := true, apart := false }
def FnExactSumRunSaid : Prop := fnExactSumRunRow.holds Try.pinned (OpenSpec.ofChange fnExactSumRunSpec)

/-- ITS FALSE NEIGHBOUR: 'it returns false'. Refute it at one input. -/
def fnExactSumRunWrong : ChangeSpec := { name := "fnExactSumRun", fn := fun _ => fun
  | [d1, d2, d3] => { results := [.lit (.bool false)], args := [d1, d2, d3] }
  | _ => none }
def FnExactSumRunWrongFalsely : Prop := fnExactSumRunRow.holds Try.pinned (OpenSpec.ofChange fnExactSumRunWrong)

/-- 'laws.FnExactSumOf': WHATEVER THE INPUT: true; the input reads as it did. -/
def fnExactSumOfSpec : ChangeSpec := { name := "fnExactSumOf", fn := fun _ => fun
  | [d1, d2] => { results := [.lit (.bool true)], args := [d1, d2] }
  | _ => none }
def fnExactSumOfRow : OpenClaim := { program := "ythggbcpphoknfaa", sum := "79edbc9ce71f06074e3395ac06cf4c2a715b6f143f312fcae8785ab7563fd486", func := "loop.example/cotterpin/laws.FnExactSumOf", spec := "fnExactSumOf", unfollowed := true, recurses := true, apart := false }
def FnExactSumOfSaid : Prop := fnExactSumOfRow.holds Try.pinned (OpenSpec.ofChange fnExactSumOfSpec)

/-- ITS FALSE NEIGHBOUR: 'it returns false'. Refute it at one input. -/
def fnExactSumOfWrong : ChangeSpec := { name := "fnExactSumOf", fn := fun _ => fun
  | [d1, d2] => { results := [.lit (.bool false)], args := [d1, d2] }
  | _ => none }
def FnExactSumOfWrongFalsely : Prop := fnExactSumOfRow.holds Try.pinned (OpenSpec.ofChange fnExactSumOfWrong)

/-- 'laws.FnExactSumPut': WHATEVER THE INPUT: true; the input reads as it did. -/
def fnExactSumPutSpec : ChangeSpec := { name := "fnExactSumPut", fn := fun _ => fun
  | [d1, d2] => { results := [.lit (.bool true)], args := [d1, d2] }
  | _ => none }
def fnExactSumPutRow : OpenClaim := { program := "ythggbcpphoknfaa", sum := "79edbc9ce71f06074e3395ac06cf4c2a715b6f143f312fcae8785ab7563fd486", func := "loop.example/cotterpin/laws.FnExactSumPut", spec := "fnExactSumPut", unfollowed := true, recurses := true, apart := false }
def FnExactSumPutSaid : Prop := fnExactSumPutRow.holds Try.pinned (OpenSpec.ofChange fnExactSumPutSpec)

/-- ITS FALSE NEIGHBOUR: 'it returns false'. Refute it at one input. -/
def fnExactSumPutWrong : ChangeSpec := { name := "fnExactSumPut", fn := fun _ => fun
  | [d1, d2] => { results := [.lit (.bool false)], args := [d1, d2] }
  | _ => none }
def FnExactSumPutWrongFalsely : Prop := fnExactSumPutRow.holds Try.pinned (OpenSpec.ofChange fnExactSumPutWrong)

/-- 'laws.FnExactSumGet': WHATEVER THE INPUT: true; the input reads as it did. -/
def fnExactSumGetSpec : ChangeSpec := { name := "fnExactSumGet", fn := fun _ => fun
  | [d1, d2] => { results := [.lit (.bool true)], args := [d1, d2] }
  | _ => none }
def fnExactSumGetRow : OpenClaim := { program := "ythggbcpphoknfaa", sum := "79edbc9ce71f06074e3395ac06cf4c2a715b6f143f312fcae8785ab7563fd486", func := "loop.example/cotterpin/laws.FnExactSumGet", spec := "fnExactSumGet", unfollowed := true, recurses := true, apart := false }
def FnExactSumGetSaid : Prop := fnExactSumGetRow.holds Try.pinned (OpenSpec.ofChange fnExactSumGetSpec)

/-- ITS FALSE NEIGHBOUR: 'it returns false'. Refute it at one input. -/
def fnExactSumGetWrong : ChangeSpec := { name := "fnExactSumGet", fn := fun _ => fun
  | [d1, d2] => { results := [.lit (.bool false)], args := [d1, d2] }
  | _ => none }
def FnExactSumGetWrongFalsely : Prop := fnExactSumGetRow.holds Try.pinned (OpenSpec.ofChange fnExactSumGetWrong)

/-- 'laws.FnExactSumGood': WHATEVER THE INPUT: true; the input reads as it did. -/
def fnExactSumGoodSpec : ChangeSpec := { name := "fnExactSumGood", fn := fun _ => fun
  | [d] => { results := [.lit (.bool true)], args := [d] }
  | _ => none }
def fnExactSumGoodRow : OpenClaim := { program := "ythggbcpphoknfaa", sum := "79edbc9ce71f06074e3395ac06cf4c2a715b6f143f312fcae8785ab7563fd486", func := "loop.example/cotterpin/laws.FnExactSumGood", spec := "fnExactSumGood", unfollowed := true, recurses := true, apart := false }
def FnExactSumGoodSaid : Prop := fnExactSumGoodRow.holds Try.pinned (OpenSpec.ofChange fnExactSumGoodSpec)

/-- ITS FALSE NEIGHBOUR: 'it returns false'. Refute it at one input. -/
def fnExactSumGoodWrong : ChangeSpec := { name := "fnExactSumGood", fn := fun _ => fun
  | [d] => { results := [.lit (.bool false)], args := [d] }
  | _ => none }
def FnExactSumGoodWrongFalsely : Prop := fnExactSumGoodRow.holds Try.pinned (OpenSpec.ofChange fnExactSumGoodWrong)

/- THE SECOND FORM. 'bulk': how many values and letters a reading holds, each counted each time it is reached (what is shared counts as often as it is met; a slice's spare places count too). A statement '..UptoSaid' is the law's where the arguments, and the package variables that the reading takes, are together of bulk at most 1048576: NARROWER than '..Said'. Prove '..Said' where nothing that the law and all that it calls make is longer than what came in: it says more and counts as full. Else prove '..UptoSaid'. A law counts once. -/
mutual
def uptoBulk {H : Type} : DataW H → Nat
  | .lit (.string bytes) => bytes.length + 1
  | .lit _ => 1
  | .nil => 1
  | .ptr d => uptoBulk d + 1
  | .slice elems spare => uptoBulkAll elems + uptoBulkAll spare + 1
  | .agg parts => uptoBulkAll parts + 1
  | .iface _ d => uptoBulk d + 1
  | .map entries => uptoBulkEntries entries + 1
  | .held _ => 1
def uptoBulkAll {H : Type} : List (DataW H) → Nat
  | [] => 0
  | d :: r => uptoBulk d + uptoBulkAll r
def uptoBulkEntries {H : Type} : List (Lit × DataW H) → Nat
  | [] => 0
  | x :: r => uptoBulkEntry x + uptoBulkEntries r
def uptoBulkEntry {H : Type} : Lit × DataW H → Nat
  | (.string bytes, d) => bytes.length + uptoBulk d + 1
  | (_, d) => uptoBulk d + 1
 end
def uptoSmall : (H : Type) → List (DataW H) → Bool := fun _ ds => decide (uptoBulkAll ds ≤ 1048576)
def OpenSpec.upto (s : _root_.Go.ChangeSpec) : _root_.Go.OpenSpec := { _root_.Go.OpenSpec.ofChange s with cond := some uptoSmall }

/-- 'laws.FnSumOf', WHERE WHAT IT READS IS OF BULK AT MOST 1048576: true; the input reads as it did. -/
def fnSumOfUptoRow : OpenClaim := { program := "ythggbcpphoknfaa", sum := "79edbc9ce71f06074e3395ac06cf4c2a715b6f143f312fcae8785ab7563fd486", func := "loop.example/cotterpin/laws.FnSumOf", spec := "fnSumOf", unfollowed := true, recurses := true, apart := false, narrowed := true }
def FnSumOfUptoSaid : Prop := fnSumOfUptoRow.holds Try.pinned (OpenSpec.upto fnSumOfSpec)

/-- 'laws.FnSumRun', WHERE WHAT IT READS IS OF BULK AT MOST 1048576: true; the input reads as it did. -/
def fnSumRunUptoRow : OpenClaim := { program := "ythggbcpphoknfaa", sum := "79edbc9ce71f06074e3395ac06cf4c2a715b6f143f312fcae8785ab7563fd486", func := "loop.example/cotterpin/laws.FnSumRun", spec := "fnSumRun", unfollowed := true, recurses := true, apart := false, narrowed := true }
def FnSumRunUptoSaid : Prop := fnSumRunUptoRow.holds Try.pinned (OpenSpec.upto fnSumRunSpec)

/-- 'laws.FnSumLine', WHERE WHAT IT READS IS OF BULK AT MOST 1048576: true; the input reads as it did. -/
def fnSumLineUptoRow : OpenClaim := { program := "ythggbcpphoknfaa", sum := "79edbc9ce71f06074e3395ac06cf4c2a715b6f143f312fcae8785ab7563fd486", func := "loop.example/cotterpin/laws.FnSumLine", spec := "fnSumLine", unfollowed := true, recurses := true, apart := false, narrowed := true }
def FnSumLineUptoSaid : Prop := fnSumLineUptoRow.holds Try.pinned (OpenSpec.upto fnSumLineSpec)

/-- 'laws.FnSumPut', WHERE WHAT IT READS IS OF BULK AT MOST 1048576: true; the input reads as it did. -/
def fnSumPutUptoRow : OpenClaim := { program := "ythggbcpphoknfaa", sum := "79edbc9ce71f06074e3395ac06cf4c2a715b6f143f312fcae8785ab7563fd486", func := "loop.example/cotterpin/laws.FnSumPut", spec := "fnSumPut", unfollowed := true, recurses := true, apart := false, narrowed := true }
def FnSumPutUptoSaid : Prop := fnSumPutUptoRow.holds Try.pinned (OpenSpec.upto fnSumPutSpec)

/-- 'laws.FnSumGet', WHERE WHAT IT READS IS OF BULK AT MOST 1048576: true; the input reads as it did. -/
def fnSumGetUptoRow : OpenClaim := { program := "ythggbcpphoknfaa", sum := "79edbc9ce71f06074e3395ac06cf4c2a715b6f143f312fcae8785ab7563fd486", func := "loop.example/cotterpin/laws.FnSumGet", spec := "fnSumGet", unfollowed := true, recurses := true, apart := false, narrowed := true }
def FnSumGetUptoSaid : Prop := fnSumGetUptoRow.holds Try.pinned (OpenSpec.upto fnSumGetSpec)

/-- 'laws.FnSumGood', WHERE WHAT IT READS IS OF BULK AT MOST 1048576: true; the input reads as it did. -/
def fnSumGoodUptoRow : OpenClaim := { program := "ythggbcpphoknfaa", sum := "79edbc9ce71f06074e3395ac06cf4c2a715b6f143f312fcae8785ab7563fd486", func := "loop.example/cotterpin/laws.FnSumGood", spec := "fnSumGood", unfollowed := true, recurses := true, apart := false, narrowed := true }
def FnSumGoodUptoSaid : Prop := fnSumGoodUptoRow.holds Try.pinned (OpenSpec.upto fnSumGoodSpec)

/-- 'laws.FnExactSumStart', WHERE WHAT IT READS IS OF BULK AT MOST 1048576: true; the input reads as it did. -/
def fnExactSumStartUptoRow : OpenClaim := { program := "ythggbcpphoknfaa", sum := "79edbc9ce71f06074e3395ac06cf4c2a715b6f143f312fcae8785ab7563fd486", func := "loop.example/cotterpin/laws.FnExactSumStart", spec := "fnExactSumStart", apart := false, narrowed := true }
def FnExactSumStartUptoSaid : Prop := fnExactSumStartUptoRow.holds Try.pinned (OpenSpec.upto fnExactSumStartSpec)

/-- 'laws.FnExactSumRun', WHERE WHAT IT READS IS OF BULK AT MOST 1048576: true; the input reads as it did. -/
def fnExactSumRunUptoRow : OpenClaim := { program := "ythggbcpphoknfaa", sum := "79edbc9ce71f06074e3395ac06cf4c2a715b6f143f312fcae8785ab7563fd486", func := "loop.example/cotterpin/laws.FnExactSumRun", spec := "fnExactSumRun", unfollowed := true, recurses := true, apart := false, narrowed := true }
def FnExactSumRunUptoSaid : Prop := fnExactSumRunUptoRow.holds Try.pinned (OpenSpec.upto fnExactSumRunSpec)

/-- 'laws.FnExactSumOf', WHERE WHAT IT READS IS OF BULK AT MOST 1048576: true; the input reads as it did. -/
def fnExactSumOfUptoRow : OpenClaim := { program := "ythggbcpphoknfaa", sum := "79edbc9ce71f06074e3395ac06cf4c2a715b6f143f312fcae8785ab7563fd486", func := "loop.example/cotterpin/laws.FnExactSumOf", spec := "fnExactSumOf", unfollowed := true, recurses := true, apart := false, narrowed := true }
def FnExactSumOfUptoSaid : Prop := fnExactSumOfUptoRow.holds Try.pinned (OpenSpec.upto fnExactSumOfSpec)

/-- 'laws.FnExactSumPut', WHERE WHAT IT READS IS OF BULK AT MOST 1048576: true; the input reads as it did. -/
def fnExactSumPutUptoRow : OpenClaim := { program := "ythggbcpphoknfaa", sum := "79edbc9ce71f06074e3395ac06cf4c2a715b6f143f312fcae8785ab7563fd486", func := "loop.example/cotterpin/laws.FnExactSumPut", spec := "fnExactSumPut", unfollowed := true, recurses := true, apart := false, narrowed := true }
def FnExactSumPutUptoSaid : Prop := fnExactSumPutUptoRow.holds Try.pinned (OpenSpec.upto fnExactSumPutSpec)

/-- 'laws.FnExactSumGet', WHERE WHAT IT READS IS OF BULK AT MOST 1048576: true; the input reads as it did. -/
def fnExactSumGetUptoRow : OpenClaim := { program := "ythggbcpphoknfaa", sum := "79edbc9ce71f06074e3395ac06cf4c2a715b6f143f312fcae8785ab7563fd486", func := "loop.example/cotterpin/laws.FnExactSumGet", spec := "fnExactSumGet", unfollowed := true, recurses := true, apart := false, narrowed := true }
def FnExactSumGetUptoSaid : Prop := fnExactSumGetUptoRow.holds Try.pinned (OpenSpec.upto fnExactSumGetSpec)

/-- 'laws.FnExactSumGood', WHERE WHAT IT READS IS OF BULK AT MOST 1048576: true; the input reads as it did. -/
def fnExactSumGoodUptoRow : OpenClaim := { program := "ythggbcpphoknfaa", sum := "79edbc9ce71f06074e3395ac06cf4c2a715b6f143f312fcae8785ab7563fd486", func := "loop.example/cotterpin/laws.FnExactSumGood", spec := "fnExactSumGood", unfollowed := true, recurses := true, apart := false, narrowed := true }
def FnExactSumGoodUptoSaid : Prop := fnExactSumGoodUptoRow.holds Try.pinned (OpenSpec.upto fnExactSumGoodSpec)

end Rows
end Go.Proofs.Ythggbcpphoknfaa
