/-
  No cell of these rows narrows 'for every input' (looked for: loops, veiled, ifaces, maps, wideKeys, modest, calm, conditions, laid).
  DERIVED. THE GIVEN ROWS OF THIS SEAT. 9 by the template 'for every input the law returns true; each argument reads behind the call as it read before'; 0 by the template 'total and deterministic' (their statements: YtiemoddaleemhaaTotals.lean).
  GIVEN WITH THE SEED: the statements are not yours to turn. If you find one false, say at which input.
  Laid BY PROGRAM, IN A SANDBOX (cutbox-rows.mjs): the forced cells as the released guide's own fill.sh prints them over the translation 062628ec2f74df3f… (all of the seat's roots in one cut). By AI agents, Wed Nov 11 2026. No macro, syntax, notation, axiom, sorry.
-/
import Derived.Test.YtiemoddaleemhaaChecked
import GoSem.Claim
import GoSem.ClaimJoined
import GoSem.ClaimMapViews
import Derived.JoinedTies
import Derived.KernelRfl
namespace Go.Proofs.Ytiemoddaleemhaa
/- THE CELL 'sum', in the pinned program and in every row, IS THE sha256 OF THE DUMP (.gsa) THAT YtiemoddaleemhaaProg.lean LOADS. Nothing in Lean hashes anything: it is a label: what it is worth is what the hold of that sum in a sandbox is worth. -/
noncomputable def Try.pinned : Pinned := { name := "ytiemoddaleemhaa", sum := "062628ec2f74df3f27c7a7970427ed0c90f4655a77a1c468255282e634466d32", checked := Try.checked }
namespace Rows
def none {H : Type} : Left H := { results := [], args := [] }

/-- 'laws.FnCobsPut': WHATEVER THE INPUT: true; the input reads as it did. -/
def fnCobsPutSpec : ChangeSpec := { name := "fnCobsPut", fn := fun _ => fun
  | [d] => { results := [.lit (.bool true)], args := [d] }
  | _ => none }
def fnCobsPutRow : OpenClaim := { program := "ytiemoddaleemhaa", sum := "062628ec2f74df3f27c7a7970427ed0c90f4655a77a1c468255282e634466d32", func := "loop.example/cotterpin/laws.FnCobsPut", spec := "fnCobsPut", inPlace := ["internal/bytealg.IndexByteString"], unfollowed := true, recurses := true, apart := false }
def FnCobsPutSaid : Prop := fnCobsPutRow.holds Try.pinned (OpenSpec.ofChange fnCobsPutSpec)

/-- ITS FALSE NEIGHBOUR: 'it returns false'. Refute it at one input. -/
def fnCobsPutWrong : ChangeSpec := { name := "fnCobsPut", fn := fun _ => fun
  | [d] => { results := [.lit (.bool false)], args := [d] }
  | _ => none }
def FnCobsPutWrongFalsely : Prop := fnCobsPutRow.holds Try.pinned (OpenSpec.ofChange fnCobsPutWrong)

/-- 'laws.FnCobsGet': WHATEVER THE INPUT: true; the input reads as it did. -/
def fnCobsGetSpec : ChangeSpec := { name := "fnCobsGet", fn := fun _ => fun
  | [d] => { results := [.lit (.bool true)], args := [d] }
  | _ => none }
def fnCobsGetRow : OpenClaim := { program := "ytiemoddaleemhaa", sum := "062628ec2f74df3f27c7a7970427ed0c90f4655a77a1c468255282e634466d32", func := "loop.example/cotterpin/laws.FnCobsGet", spec := "fnCobsGet", inPlace := ["internal/bytealg.IndexByteString"], unfollowed := true, recurses := true, apart := false }
def FnCobsGetSaid : Prop := fnCobsGetRow.holds Try.pinned (OpenSpec.ofChange fnCobsGetSpec)

/-- ITS FALSE NEIGHBOUR: 'it returns false'. Refute it at one input. -/
def fnCobsGetWrong : ChangeSpec := { name := "fnCobsGet", fn := fun _ => fun
  | [d] => { results := [.lit (.bool false)], args := [d] }
  | _ => none }
def FnCobsGetWrongFalsely : Prop := fnCobsGetRow.holds Try.pinned (OpenSpec.ofChange fnCobsGetWrong)

/-- 'laws.FnCobsJoin': WHATEVER THE INPUT: true; the input reads as it did. -/
def fnCobsJoinSpec : ChangeSpec := { name := "fnCobsJoin", fn := fun _ => fun
  | [d1, d2] => { results := [.lit (.bool true)], args := [d1, d2] }
  | _ => none }
def fnCobsJoinRow : OpenClaim := { program := "ytiemoddaleemhaa", sum := "062628ec2f74df3f27c7a7970427ed0c90f4655a77a1c468255282e634466d32", func := "loop.example/cotterpin/laws.FnCobsJoin", spec := "fnCobsJoin", inPlace := ["internal/bytealg.IndexByteString"], unfollowed := true, recurses := true, apart := false }
def FnCobsJoinSaid : Prop := fnCobsJoinRow.holds Try.pinned (OpenSpec.ofChange fnCobsJoinSpec)

/-- ITS FALSE NEIGHBOUR: 'it returns false'. Refute it at one input. -/
def fnCobsJoinWrong : ChangeSpec := { name := "fnCobsJoin", fn := fun _ => fun
  | [d1, d2] => { results := [.lit (.bool false)], args := [d1, d2] }
  | _ => none }
def FnCobsJoinWrongFalsely : Prop := fnCobsJoinRow.holds Try.pinned (OpenSpec.ofChange fnCobsJoinWrong)

/-- 'laws.FnLessPut': WHATEVER THE INPUT: true; the input reads as it did. -/
def fnLessPutSpec : ChangeSpec := { name := "fnLessPut", fn := fun _ => fun
  | [d] => { results := [.lit (.bool true)], args := [d] }
  | _ => none }
def fnLessPutRow : OpenClaim := { program := "ytiemoddaleemhaa", sum := "062628ec2f74df3f27c7a7970427ed0c90f4655a77a1c468255282e634466d32", func := "loop.example/cotterpin/laws.FnLessPut", spec := "fnLessPut", inPlace := ["internal/bytealg.IndexByteString"], unfollowed := true, recurses := true, apart := false }
def FnLessPutSaid : Prop := fnLessPutRow.holds Try.pinned (OpenSpec.ofChange fnLessPutSpec)

/-- ITS FALSE NEIGHBOUR: 'it returns false'. Refute it at one input. -/
def fnLessPutWrong : ChangeSpec := { name := "fnLessPut", fn := fun _ => fun
  | [d] => { results := [.lit (.bool false)], args := [d] }
  | _ => none }
def FnLessPutWrongFalsely : Prop := fnLessPutRow.holds Try.pinned (OpenSpec.ofChange fnLessPutWrong)

/-- 'laws.FnLessGet': WHATEVER THE INPUT: true; the input reads as it did. -/
def fnLessGetSpec : ChangeSpec := { name := "fnLessGet", fn := fun _ => fun
  | [d] => { results := [.lit (.bool true)], args := [d] }
  | _ => none }
def fnLessGetRow : OpenClaim := { program := "ytiemoddaleemhaa", sum := "062628ec2f74df3f27c7a7970427ed0c90f4655a77a1c468255282e634466d32", func := "loop.example/cotterpin/laws.FnLessGet", spec := "fnLessGet", inPlace := ["internal/bytealg.IndexByteString"], unfollowed := true, recurses := true, apart := false }
def FnLessGetSaid : Prop := fnLessGetRow.holds Try.pinned (OpenSpec.ofChange fnLessGetSpec)

/-- ITS FALSE NEIGHBOUR: 'it returns false'. Refute it at one input. -/
def fnLessGetWrong : ChangeSpec := { name := "fnLessGet", fn := fun _ => fun
  | [d] => { results := [.lit (.bool false)], args := [d] }
  | _ => none }
def FnLessGetWrongFalsely : Prop := fnLessGetRow.holds Try.pinned (OpenSpec.ofChange fnLessGetWrong)

/-- 'laws.FnExactCobsPut': WHATEVER THE INPUT: true; the input reads as it did. -/
def fnExactCobsPutSpec : ChangeSpec := { name := "fnExactCobsPut", fn := fun _ => fun
  | [d] => { results := [.lit (.bool true)], args := [d] }
  | _ => none }
def fnExactCobsPutRow : OpenClaim := { program := "ytiemoddaleemhaa", sum := "062628ec2f74df3f27c7a7970427ed0c90f4655a77a1c468255282e634466d32", func := "loop.example/cotterpin/laws.FnExactCobsPut", spec := "fnExactCobsPut", inPlace := ["internal/bytealg.IndexByteString"], unfollowed := true, recurses := true, apart := false }
def FnExactCobsPutSaid : Prop := fnExactCobsPutRow.holds Try.pinned (OpenSpec.ofChange fnExactCobsPutSpec)

/-- ITS FALSE NEIGHBOUR: 'it returns false'. Refute it at one input. -/
def fnExactCobsPutWrong : ChangeSpec := { name := "fnExactCobsPut", fn := fun _ => fun
  | [d] => { results := [.lit (.bool false)], args := [d] }
  | _ => none }
def FnExactCobsPutWrongFalsely : Prop := fnExactCobsPutRow.holds Try.pinned (OpenSpec.ofChange fnExactCobsPutWrong)

/-- 'laws.FnExactCobsGet': WHATEVER THE INPUT: true; the input reads as it did. -/
def fnExactCobsGetSpec : ChangeSpec := { name := "fnExactCobsGet", fn := fun _ => fun
  | [d] => { results := [.lit (.bool true)], args := [d] }
  | _ => none }
def fnExactCobsGetRow : OpenClaim := { program := "ytiemoddaleemhaa", sum := "062628ec2f74df3f27c7a7970427ed0c90f4655a77a1c468255282e634466d32", func := "loop.example/cotterpin/laws.FnExactCobsGet", spec := "fnExactCobsGet", inPlace := ["internal/bytealg.IndexByteString"], unfollowed := true, recurses := true, apart := false }
def FnExactCobsGetSaid : Prop := fnExactCobsGetRow.holds Try.pinned (OpenSpec.ofChange fnExactCobsGetSpec)

/-- ITS FALSE NEIGHBOUR: 'it returns false'. Refute it at one input. -/
def fnExactCobsGetWrong : ChangeSpec := { name := "fnExactCobsGet", fn := fun _ => fun
  | [d] => { results := [.lit (.bool false)], args := [d] }
  | _ => none }
def FnExactCobsGetWrongFalsely : Prop := fnExactCobsGetRow.holds Try.pinned (OpenSpec.ofChange fnExactCobsGetWrong)

/-- 'laws.FnExactLessPut': WHATEVER THE INPUT: true; the input reads as it did. -/
def fnExactLessPutSpec : ChangeSpec := { name := "fnExactLessPut", fn := fun _ => fun
  | [d] => { results := [.lit (.bool true)], args := [d] }
  | _ => none }
def fnExactLessPutRow : OpenClaim := { program := "ytiemoddaleemhaa", sum := "062628ec2f74df3f27c7a7970427ed0c90f4655a77a1c468255282e634466d32", func := "loop.example/cotterpin/laws.FnExactLessPut", spec := "fnExactLessPut", inPlace := ["internal/bytealg.IndexByteString"], unfollowed := true, recurses := true, apart := false }
def FnExactLessPutSaid : Prop := fnExactLessPutRow.holds Try.pinned (OpenSpec.ofChange fnExactLessPutSpec)

/-- ITS FALSE NEIGHBOUR: 'it returns false'. Refute it at one input. -/
def fnExactLessPutWrong : ChangeSpec := { name := "fnExactLessPut", fn := fun _ => fun
  | [d] => { results := [.lit (.bool false)], args := [d] }
  | _ => none }
def FnExactLessPutWrongFalsely : Prop := fnExactLessPutRow.holds Try.pinned (OpenSpec.ofChange fnExactLessPutWrong)

/-- 'laws.FnExactLessGet': WHATEVER THE INPUT: true; the input reads as it did. -/
def fnExactLessGetSpec : ChangeSpec := { name := "fnExactLessGet", fn := fun _ => fun
  | [d] => { results := [.lit (.bool true)], args := [d] }
  | _ => none }
def fnExactLessGetRow : OpenClaim := { program := "ytiemoddaleemhaa", sum := "062628ec2f74df3f27c7a7970427ed0c90f4655a77a1c468255282e634466d32", func := "loop.example/cotterpin/laws.FnExactLessGet", spec := "fnExactLessGet", inPlace := ["internal/bytealg.IndexByteString"], unfollowed := true, recurses := true, apart := false }
def FnExactLessGetSaid : Prop := fnExactLessGetRow.holds Try.pinned (OpenSpec.ofChange fnExactLessGetSpec)

/-- ITS FALSE NEIGHBOUR: 'it returns false'. Refute it at one input. -/
def fnExactLessGetWrong : ChangeSpec := { name := "fnExactLessGet", fn := fun _ => fun
  | [d] => { results := [.lit (.bool false)], args := [d] }
  | _ => none }
def FnExactLessGetWrongFalsely : Prop := fnExactLessGetRow.holds Try.pinned (OpenSpec.ofChange fnExactLessGetWrong)

/- THE SECOND FORM. 'bulk': how many values and letters a reading holds, each counted each time it is reached (what is shared counts as often as it is met; a slice's spare places count too). A statement '..UptoSaid' is the law's where the arguments, and the package variables that the reading takes, are together of bulk at most 1048576: NARROWER than '..Said'. Prove '..Said' where nothing that the law and all that it calls make is longer than what came in: it says more and counts as full. Else prove '..UptoSaid'. A law counts once. -/
mutual
def uptoBulk {H : Type} : DataW H → Nat
  | .lit (.string bytes) => bytes.length + 1
  | .lit _ => 1
  | .nil => 1
  | .ptr d => uptoBulk d + 1
  | .slice elems spare => uptoBulkAll elems + uptoBulkAll spare + 1
  | .agg parts => uptoBulkAll parts + 1
  | .iface _ d => uptoBulk d + 1
  | .map entries => uptoBulkEntries entries + 1
  | .held _ => 1
def uptoBulkAll {H : Type} : List (DataW H) → Nat
  | [] => 0
  | d :: r => uptoBulk d + uptoBulkAll r
def uptoBulkEntries {H : Type} : List (Lit × DataW H) → Nat
  | [] => 0
  | x :: r => uptoBulkEntry x + uptoBulkEntries r
def uptoBulkEntry {H : Type} : Lit × DataW H → Nat
  | (.string bytes, d) => bytes.length + uptoBulk d + 1
  | (_, d) => uptoBulk d + 1
 end
def uptoSmall : (H : Type) → List (DataW H) → Bool := fun _ ds => decide (uptoBulkAll ds ≤ 1048576)
def OpenSpec.upto (s : _root_.Go.ChangeSpec) : _root_.Go.OpenSpec := { _root_.Go.OpenSpec.ofChange s with cond := some uptoSmall }

/-- 'laws.FnCobsPut', WHERE WHAT IT READS IS OF BULK AT MOST 1048576: true; the input reads as it did. -/
def fnCobsPutUptoRow : OpenClaim := { program := "ytiemoddaleemhaa", sum := "062628ec2f74df3f27c7a7970427ed0c90f4655a77a1c468255282e634466d32", func := "loop.example/cotterpin/laws.FnCobsPut", spec := "fnCobsPut", inPlace := ["internal/bytealg.IndexByteString"], unfollowed := true, recurses := true, apart := false, narrowed := true }
def FnCobsPutUptoSaid : Prop := fnCobsPutUptoRow.holds Try.pinned (OpenSpec.upto fnCobsPutSpec)

/-- 'laws.FnCobsGet', WHERE WHAT IT READS IS OF BULK AT MOST 1048576: true; the input reads as it did. -/
def fnCobsGetUptoRow : OpenClaim := { program := "ytiemoddaleemhaa", sum := "062628ec2f74df3f27c7a7970427ed0c90f4655a77a1c468255282e634466d32", func := "loop.example/cotterpin/laws.FnCobsGet", spec := "fnCobsGet", inPlace := ["internal/bytealg.IndexByteString"], unfollowed := true, recurses := true, apart := false, narrowed := true }
def FnCobsGetUptoSaid : Prop := fnCobsGetUptoRow.holds Try.pinned (OpenSpec.upto fnCobsGetSpec)

/-- 'laws.FnCobsJoin', WHERE WHAT IT READS IS OF BULK AT MOST 1048576: true; the input reads as it did. -/
def fnCobsJoinUptoRow : OpenClaim := { program := "ytiemoddaleemhaa", sum := "062628ec2f74df3f27c7a7970427ed0c90f4655a77a1c468255282e634466d32", func := "loop.example/cotterpin/laws.FnCobsJoin", spec := "fnCobsJoin", inPlace := ["internal/bytealg.IndexByteString"], unfollowed := true, recurses := true, apart := false, narrowed := true }
def FnCobsJoinUptoSaid : Prop := fnCobsJoinUptoRow.holds Try.pinned (OpenSpec.upto fnCobsJoinSpec)

/-- 'laws.FnLessPut', WHERE WHAT IT READS IS OF BULK AT MOST 1048576: true; the input reads as it did. -/
def fnLessPutUptoRow : OpenClaim := { program := "ytiemoddaleemhaa", sum := "062628ec2f74df3f27c7a7970427ed0c90f4655a77a1c468255282e634466d32", func := "loop.example/cotterpin/laws.FnLessPut", spec := "fnLessPut", inPlace := ["internal/bytealg.IndexByteString"], unfollowed := true, recurses := true, apart := false, narrowed := true }
def FnLessPutUptoSaid : Prop := fnLessPutUptoRow.holds Try.pinned (OpenSpec.upto fnLessPutSpec)

/-- 'laws.FnLessGet', WHERE WHAT IT READS IS OF BULK AT MOST 1048576: true; the input reads as it did. -/
def fnLessGetUptoRow : OpenClaim := { program := "ytiemoddaleemhaa", sum := "062628ec2f74df3f27c7a7970427ed0c90f4655a77a1c468255282e634466d32", func := "loop.example/cotterpin/laws.FnLessGet", spec := "fnLessGet", inPlace := ["internal/bytealg.IndexByteString"], unfollowed := true, recurses := true, apart := false, narrowed := true }
def FnLessGetUptoSaid : Prop := fnLessGetUptoRow.holds Try.pinned (OpenSpec.upto fnLessGetSpec)

/-- 'laws.FnExactCobsPut', WHERE WHAT IT READS IS OF BULK AT MOST 1048576: true; the input reads as it did. -/
def fnExactCobsPutUptoRow : OpenClaim := { program := "ytiemoddaleemhaa", sum := "062628ec2f74df3f27c7a7970427ed0c90f4655a77a1c468255282e634466d32", func := "loop.example/cotterpin/laws.FnExactCobsPut", spec := "fnExactCobsPut", inPlace := ["internal/bytealg.IndexByteString"], unfollowed := true, recurses := true, apart := false, narrowed := true }
def FnExactCobsPutUptoSaid : Prop := fnExactCobsPutUptoRow.holds Try.pinned (OpenSpec.upto fnExactCobsPutSpec)

/-- 'laws.FnExactCobsGet', WHERE WHAT IT READS IS OF BULK AT MOST 1048576: true; the input reads as it did. -/
def fnExactCobsGetUptoRow : OpenClaim := { program := "ytiemoddaleemhaa", sum := "062628ec2f74df3f27c7a7970427ed0c90f4655a77a1c468255282e634466d32", func := "loop.example/cotterpin/laws.FnExactCobsGet", spec := "fnExactCobsGet", inPlace := ["internal/bytealg.IndexByteString"], unfollowed := true, recurses := true, apart := false, narrowed := true }
def FnExactCobsGetUptoSaid : Prop := fnExactCobsGetUptoRow.holds Try.pinned (OpenSpec.upto fnExactCobsGetSpec)

/-- 'laws.FnExactLessPut', WHERE WHAT IT READS IS OF BULK AT MOST 1048576: true; the input reads as it did. -/
def fnExactLessPutUptoRow : OpenClaim := { program := "ytiemoddaleemhaa", sum := "062628ec2f74df3f27c7a7970427ed0c90f4655a77a1c468255282e634466d32", func := "loop.example/cotterpin/laws.FnExactLessPut", spec := "fnExactLessPut", inPlace := ["internal/bytealg.IndexByteString"], unfollowed := true, recurses := true, apart := false, narrowed := true }
def FnExactLessPutUptoSaid : Prop := fnExactLessPutUptoRow.holds Try.pinned (OpenSpec.upto fnExactLessPutSpec)

/-- 'laws.FnExactLessGet', WHERE WHAT IT READS IS OF BULK AT MOST 1048576: true; the input reads as it did. -/
def fnExactLessGetUptoRow : OpenClaim := { program := "ytiemoddaleemhaa", sum := "062628ec2f74df3f27c7a7970427ed0c90f4655a77a1c468255282e634466d32", func := "loop.example/cotterpin/laws.FnExactLessGet", spec := "fnExactLessGet", inPlace := ["internal/bytealg.IndexByteString"], unfollowed := true, recurses := true, apart := false, narrowed := true }
def FnExactLessGetUptoSaid : Prop := fnExactLessGetUptoRow.holds Try.pinned (OpenSpec.upto fnExactLessGetSpec)

end Rows
end Go.Proofs.Ytiemoddaleemhaa
