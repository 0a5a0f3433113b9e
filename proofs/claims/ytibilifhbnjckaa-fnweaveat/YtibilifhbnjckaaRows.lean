/-
  No cell of these rows narrows 'for every input' (looked for: loops, veiled, ifaces, maps, wideKeys, modest, calm, conditions, laid).
  DERIVED. THE GIVEN ROWS OF THIS SEAT. 6 by the template 'for every input the law returns true; each argument reads behind the call as it read before'; 0 by the template 'total and deterministic' (their statements: YtibilifhbnjckaaTotals.lean).
  GIVEN WITH THE SEED: the statements are not yours to turn. If you find one false, say at which input.
  Laid BY PROGRAM, IN A SANDBOX (cutbox-rows.mjs): the forced cells as the released guide's own fill.sh prints them over the translation d3f746da5b74dd58… (all of the seat's roots in one cut). By AI agents, Wed Nov 11 2026. No macro, syntax, notation, axiom, sorry.
-/
import Derived.Test.YtibilifhbnjckaaChecked
import GoSem.Claim
import GoSem.ClaimJoined
import GoSem.ClaimMapViews
import Derived.JoinedTies
import Derived.KernelRfl
namespace Go.Proofs.Ytibilifhbnjckaa
/- THE CELL 'sum', in the pinned program and in every row, IS THE sha256 OF THE DUMP (.gsa) THAT YtibilifhbnjckaaProg.lean LOADS. Nothing in Lean hashes anything: it is a label: what it is worth is what the hold of that sum in a sandbox is worth. -/
noncomputable def Try.pinned : Pinned := { name := "ytibilifhbnjckaa", sum := "d3f746da5b74dd58ee99245e9b91490627b331adbeae45df4b0868585539b4e6", checked := Try.checked }
namespace Rows
def none {H : Type} : Left H := { results := [], args := [] }

/-- 'laws.FnWeavePut': WHATEVER THE INPUT: true; the input reads as it did. -/
def fnWeavePutSpec : ChangeSpec := { name := "fnWeavePut", fn := fun _ => fun
  | [d] => { results := [.lit (.bool true)], args := [d] }
  | _ => none }
def fnWeavePutRow : OpenClaim := { program := "ytibilifhbnjckaa", sum := "d3f746da5b74dd58ee99245e9b91490627b331adbeae45df4b0868585539b4e6", func := "loop.example/cotterpin/laws.FnWeavePut", spec := "fnWeavePut", apart := false }
def FnWeavePutSaid : Prop := fnWeavePutRow.holds Try.pinned (OpenSpec.ofChange fnWeavePutSpec)

/-- ITS FALSE NEIGHBOUR: 'it returns false'. Refute it at one input. -/
def fnWeavePutWrong : ChangeSpec := { name := "fnWeavePut", fn := fun _ => fun
  | [d] => { results := [.lit (.bool false)], args := [d] }
  | _ => none }
def FnWeavePutWrongFalsely : Prop := fnWeavePutRow.holds Try.pinned (OpenSpec.ofChange fnWeavePutWrong)

/-- 'laws.FnWeaveGet': WHATEVER THE INPUT: true; the input reads as it did. -/
def fnWeaveGetSpec : ChangeSpec := { name := "fnWeaveGet", fn := fun _ => fun
  | [d] => { results := [.lit (.bool true)], args := [d] }
  | _ => none }
def fnWeaveGetRow : OpenClaim := { program := "ytibilifhbnjckaa", sum := "d3f746da5b74dd58ee99245e9b91490627b331adbeae45df4b0868585539b4e6", func := "loop.example/cotterpin/laws.FnWeaveGet", spec := "fnWeaveGet", apart := false }
def FnWeaveGetSaid : Prop := fnWeaveGetRow.holds Try.pinned (OpenSpec.ofChange fnWeaveGetSpec)

/-- ITS FALSE NEIGHBOUR: 'it returns false'. Refute it at one input. -/
def fnWeaveGetWrong : ChangeSpec := { name := "fnWeaveGet", fn := fun _ => fun
  | [d] => { results := [.lit (.bool false)], args := [d] }
  | _ => none }
def FnWeaveGetWrongFalsely : Prop := fnWeaveGetRow.holds Try.pinned (OpenSpec.ofChange fnWeaveGetWrong)

/-- 'laws.FnWeaveAt': WHATEVER THE INPUT: true; the input reads as it did. -/
def fnWeaveAtSpec : ChangeSpec := { name := "fnWeaveAt", fn := fun _ => fun
  | [d1, d2] => { results := [.lit (.bool true)], args := [d1, d2] }
  | _ => none }
def fnWeaveAtRow : OpenClaim := { program := "ytibilifhbnjckaa", sum := "d3f746da5b74dd58ee99245e9b91490627b331adbeae45df4b0868585539b4e6", func := "loop.example/cotterpin/laws.FnWeaveAt", spec := "fnWeaveAt", apart := false }
def FnWeaveAtSaid : Prop := fnWeaveAtRow.holds Try.pinned (OpenSpec.ofChange fnWeaveAtSpec)

/-- ITS FALSE NEIGHBOUR: 'it returns false'. Refute it at one input. -/
def fnWeaveAtWrong : ChangeSpec := { name := "fnWeaveAt", fn := fun _ => fun
  | [d1, d2] => { results := [.lit (.bool false)], args := [d1, d2] }
  | _ => none }
def FnWeaveAtWrongFalsely : Prop := fnWeaveAtRow.holds Try.pinned (OpenSpec.ofChange fnWeaveAtWrong)

/-- 'laws.FnExactWeavePut': WHATEVER THE INPUT: true; the input reads as it did. -/
def fnExactWeavePutSpec : ChangeSpec := { name := "fnExactWeavePut", fn := fun _ => fun
  | [d1, d2] => { results := [.lit (.bool true)], args := [d1, d2] }
  | _ => none }
def fnExactWeavePutRow : OpenClaim := { program := "ytibilifhbnjckaa", sum := "d3f746da5b74dd58ee99245e9b91490627b331adbeae45df4b0868585539b4e6", func := "loop.example/cotterpin/laws.FnExactWeavePut", spec := "fnExactWeavePut", apart := false }
def FnExactWeavePutSaid : Prop := fnExactWeavePutRow.holds Try.pinned (OpenSpec.ofChange fnExactWeavePutSpec)

/-- ITS FALSE NEIGHBOUR: 'it returns false'. Refute it at one input. -/
def fnExactWeavePutWrong : ChangeSpec := { name := "fnExactWeavePut", fn := fun _ => fun
  | [d1, d2] => { results := [.lit (.bool false)], args := [d1, d2] }
  | _ => none }
def FnExactWeavePutWrongFalsely : Prop := fnExactWeavePutRow.holds Try.pinned (OpenSpec.ofChange fnExactWeavePutWrong)

/-- 'laws.FnExactWeaveGet': WHATEVER THE INPUT: true; the input reads as it did. -/
def fnExactWeaveGetSpec : ChangeSpec := { name := "fnExactWeaveGet", fn := fun _ => fun
  | [d1, d2] => { results := [.lit (.bool true)], args := [d1, d2] }
  | _ => none }
def fnExactWeaveGetRow : OpenClaim := { program := "ytibilifhbnjckaa", sum := "d3f746da5b74dd58ee99245e9b91490627b331adbeae45df4b0868585539b4e6", func := "loop.example/cotterpin/laws.FnExactWeaveGet", spec := "fnExactWeaveGet", apart := false }
def FnExactWeaveGetSaid : Prop := fnExactWeaveGetRow.holds Try.pinned (OpenSpec.ofChange fnExactWeaveGetSpec)

/-- ITS FALSE NEIGHBOUR: 'it returns false'. Refute it at one input. -/
def fnExactWeaveGetWrong : ChangeSpec := { name := "fnExactWeaveGet", fn := fun _ => fun
  | [d1, d2] => { results := [.lit (.bool false)], args := [d1, d2] }
  | _ => none }
def FnExactWeaveGetWrongFalsely : Prop := fnExactWeaveGetRow.holds Try.pinned (OpenSpec.ofChange fnExactWeaveGetWrong)

/-- 'laws.FnExactWeaveAt': WHATEVER THE INPUT: true; the input reads as it did. -/
def fnExactWeaveAtSpec : ChangeSpec := { name := "fnExactWeaveAt", fn := fun _ => fun
  | [d1, d2, d3] => { results := [.lit (.bool true)], args := [d1, d2, d3] }
  | _ => none }
def fnExactWeaveAtRow : OpenClaim := { program := "ytibilifhbnjckaa", sum := "d3f746da5b74dd58ee99245e9b91490627b331adbeae45df4b0868585539b4e6", func := "loop.example/cotterpin/laws.FnExactWeaveAt", spec := "fnExactWeaveAt", apart := false }
def FnExactWeaveAtSaid : Prop := fnExactWeaveAtRow.holds Try.pinned (OpenSpec.ofChange fnExactWeaveAtSpec)

/-- ITS FALSE NEIGHBOUR: 'it returns false'. Refute it at one input. -/
def fnExactWeaveAtWrong : ChangeSpec := { name := "fnExactWeaveAt", fn := fun _ => fun
  | [d1, d2, d3] => { results := [.lit (.bool false)], args := [d1, d2, d3] }
  | _ => none }
def FnExactWeaveAtWrongFalsely : Prop := fnExactWeaveAtRow.holds Try.pinned (OpenSpec.ofChange fnExactWeaveAtWrong)

/- THE SECOND FORM. 'bulk': how many values and letters a reading holds, each counted each time it is reached (what is shared counts as often as it is met; a slice's spare places count too). A statement '..UptoSaid' is the law's where the arguments, and the package variables that the reading takes, are together of bulk at most 1048576: NARROWER than '..Said'. Prove '..Said' where nothing that the law and all that it calls make is longer than what came in: it says more and counts as full. Else prove '..UptoSaid'. A law counts once. -/
mutual
def uptoBulk {H : Type} : DataW H → Nat
  | .lit (.string bytes) => bytes.length + 1
  | .lit _ => 1
  | .nil => 1
  | .ptr d => uptoBulk d + 1
  | .slice elems spare => uptoBulkAll elems + uptoBulkAll spare + 1
  | .agg parts => uptoBulkAll parts + 1
  | .iface _ d => uptoBulk d + 1
  | .map entries => uptoBulkEntries entries + 1
  | .held _ => 1
def uptoBulkAll {H : Type} : List (DataW H) → Nat
  | [] => 0
  | d :: r => uptoBulk d + uptoBulkAll r
def uptoBulkEntries {H : Type} : List (Lit × DataW H) → Nat
  | [] => 0
  | x :: r => uptoBulkEntry x + uptoBulkEntries r
def uptoBulkEntry {H : Type} : Lit × DataW H → Nat
  | (.string bytes, d) => bytes.length + uptoBulk d + 1
  | (_, d) => uptoBulk d + 1
 end
def uptoSmall : (H : Type) → List (DataW H) → Bool := fun _ ds => decide (uptoBulkAll ds ≤ 1048576)
def OpenSpec.upto (s : _root_.Go.ChangeSpec) : _root_.Go.OpenSpec := { _root_.Go.OpenSpec.ofChange s with cond := some uptoSmall }

/-- 'laws.FnWeavePut', WHERE WHAT IT READS IS OF BULK AT MOST 1048576: true; the input reads as it did. -/
def fnWeavePutUptoRow : OpenClaim := { program := "ytibilifhbnjckaa", sum := "d3f746da5b74dd58ee99245e9b91490627b331adbeae45df4b0868585539b4e6", func := "loop.example/cotterpin/laws.FnWeavePut", spec := "fnWeavePut", apart := false, narrowed := true }
def FnWeavePutUptoSaid : Prop := fnWeavePutUptoRow.holds Try.pinned (OpenSpec.upto fnWeavePutSpec)

/-- 'laws.FnWeaveGet', WHERE WHAT IT READS IS OF BULK AT MOST 1048576: true; the input reads as it did. -/
def fnWeaveGetUptoRow : OpenClaim := { program := "ytibilifhbnjckaa", sum := "d3f746da5b74dd58ee99245e9b91490627b331adbeae45df4b0868585539b4e6", func := "loop.example/cotterpin/laws.FnWeaveGet", spec := "fnWeaveGet", apart := false, narrowed := true }
def FnWeaveGetUptoSaid : Prop := fnWeaveGetUptoRow.holds Try.pinned (OpenSpec.upto fnWeaveGetSpec)

/-- 'laws.FnWeaveAt', WHERE WHAT IT READS IS OF BULK AT MOST 1048576: true; the input reads as it did. -/
def fnWeaveAtUptoRow : OpenClaim := { program := "ytibilifhbnjckaa", sum := "d3f746da5b74dd58ee99245e9b91490627b331adbeae45df4b0868585539b4e6", func := "loop.example/cotterpin/laws.FnWeaveAt", spec := "fnWeaveAt", apart := false, narrowed := true }
def FnWeaveAtUptoSaid : Prop := fnWeaveAtUptoRow.holds Try.pinned (OpenSpec.upto fnWeaveAtSpec)

/-- 'laws.FnExactWeavePut', WHERE WHAT IT READS IS OF BULK AT MOST 1048576: true; the input reads as it did. -/
def fnExactWeavePutUptoRow : OpenClaim := { program := "ytibilifhbnjckaa", sum := "d3f746da5b74dd58ee99245e9b91490627b331adbeae45df4b0868585539b4e6", func := "loop.example/cotterpin/laws.FnExactWeavePut", spec := "fnExactWeavePut", apart := false, narrowed := true }
def FnExactWeavePutUptoSaid : Prop := fnExactWeavePutUptoRow.holds Try.pinned (OpenSpec.upto fnExactWeavePutSpec)

/-- 'laws.FnExactWeaveGet', WHERE WHAT IT READS IS OF BULK AT MOST 1048576: true; the input reads as it did. -/
def fnExactWeaveGetUptoRow : OpenClaim := { program := "ytibilifhbnjckaa", sum := "d3f746da5b74dd58ee99245e9b91490627b331adbeae45df4b0868585539b4e6", func := "loop.example/cotterpin/laws.FnExactWeaveGet", spec := "fnExactWeaveGet", apart := false, narrowed := true }
def FnExactWeaveGetUptoSaid : Prop := fnExactWeaveGetUptoRow.holds Try.pinned (OpenSpec.upto fnExactWeaveGetSpec)

/-- 'laws.FnExactWeaveAt', WHERE WHAT IT READS IS OF BULK AT MOST 1048576: true; the input reads as it did. -/
def fnExactWeaveAtUptoRow : OpenClaim := { program := "ytibilifhbnjckaa", sum := "d3f746da5b74dd58ee99245e9b91490627b331adbeae45df4b0868585539b4e6", func := "loop.example/cotterpin/laws.FnExactWeaveAt", spec := "fnExactWeaveAt", apart := false, narrowed := true }
def FnExactWeaveAtUptoSaid : Prop := fnExactWeaveAtUptoRow.holds Try.pinned (OpenSpec.upto fnExactWeaveAtSpec)

end Rows
end Go.Proofs.Ytibilifhbnjckaa
