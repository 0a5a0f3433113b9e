/-
  No cell of these rows narrows 'for every input' (looked for: loops, veiled, ifaces, maps, wideKeys, modest, calm, conditions, laid).
  DERIVED. THE GIVEN ROWS OF THIS SEAT. 6 by the template 'for every input the law returns true; each argument reads behind the call as it read before'; 0 by the template 'total and deterministic' (their statements: YtjjhgjpabeoenaaTotals.lean).
  GIVEN WITH THE SEED: the statements are not yours to turn. If you find one false, say at which input.
  Laid BY PROGRAM, IN A SANDBOX (cutbox-rows.mjs): the forced cells as the released guide's own fill.sh prints them over the translation 9f00169df8b56f79… (all of the seat's roots in one cut). By AI agents, Wed Nov 11 2026. No macro, syntax, notation, axiom, sorry.
-/
import Derived.Test.YtjjhgjpabeoenaaChecked
import GoSem.Claim
import GoSem.ClaimJoined
import GoSem.ClaimMapViews
import Derived.JoinedTies
import Derived.KernelRfl
namespace Go.Proofs.Ytjjhgjpabeoenaa
/- THE CELL 'sum', in the pinned program and in every row, IS THE sha256 OF THE DUMP (.gsa) THAT YtjjhgjpabeoenaaProg.lean LOADS. Nothing in Lean hashes anything: it is a label: what it is worth is what the hold of that sum in a sandbox is worth. -/
noncomputable def Try.pinned : Pinned := { name := "ytjjhgjpabeoenaa", sum := "9f00169df8b56f79c45fb1ec86581384fbd291989de76f4c1d9750192cd27ad5", checked := Try.checked }
namespace Rows
def none {H : Type} : Left H := { results := [], args := [] }

/-- 'laws.FnEscapePut': WHATEVER THE INPUT: true; the input reads as it did. -/
def fnEscapePutSpec : ChangeSpec := { name := "fnEscapePut", fn := fun _ => fun
  | [d1, d2] => { results := [.lit (.bool true)], args := [d1, d2] }
  | _ => none }
def fnEscapePutRow : OpenClaim := { program := "ytjjhgjpabeoenaa", sum := "9f00169df8b56f79c45fb1ec86581384fbd291989de76f4c1d9750192cd27ad5", func := "loop.example/cotterpin/laws.FnEscapePut", spec := "fnEscapePut", inPlace := ["internal/abi.NoEscape", "internal/bytealg.IndexByteString"], unfollowed := true, recurses := true, apart := false }
def FnEscapePutSaid : Prop := fnEscapePutRow.holds Try.pinned (OpenSpec.ofChange fnEscapePutSpec)

/-- ITS FALSE NEIGHBOUR: 'it returns false'. Refute it at one input. -/
def fnEscapePutWrong : ChangeSpec := { name := "fnEscapePut", fn := fun _ => fun
  | [d1, d2] => { results := [.lit (.bool false)], args := [d1, d2] }
  | _ => none }
def FnEscapePutWrongFalsely : Prop := fnEscapePutRow.holds Try.pinned (OpenSpec.ofChange fnEscapePutWrong)

/-- 'laws.FnEscapeGet': WHATEVER THE INPUT: true; the input reads as it did. -/
def fnEscapeGetSpec : ChangeSpec := { name := "fnEscapeGet", fn := fun _ => fun
  | [d] => { results := [.lit (.bool true)], args := [d] }
  | _ => none }
def fnEscapeGetRow : OpenClaim := { program := "ytjjhgjpabeoenaa", sum := "9f00169df8b56f79c45fb1ec86581384fbd291989de76f4c1d9750192cd27ad5", func := "loop.example/cotterpin/laws.FnEscapeGet", spec := "fnEscapeGet", inPlace := ["internal/bytealg.IndexByteString", "internal/abi.NoEscape"], unfollowed := true, recurses := true, apart := false }
def FnEscapeGetSaid : Prop := fnEscapeGetRow.holds Try.pinned (OpenSpec.ofChange fnEscapeGetSpec)

/-- ITS FALSE NEIGHBOUR: 'it returns false'. Refute it at one input. -/
def fnEscapeGetWrong : ChangeSpec := { name := "fnEscapeGet", fn := fun _ => fun
  | [d] => { results := [.lit (.bool false)], args := [d] }
  | _ => none }
def FnEscapeGetWrongFalsely : Prop := fnEscapeGetRow.holds Try.pinned (OpenSpec.ofChange fnEscapeGetWrong)

/-- 'laws.FnEscapeMany': WHATEVER THE INPUT: true; the input reads as it did. -/
def fnEscapeManySpec : ChangeSpec := { name := "fnEscapeMany", fn := fun _ => fun
  | [d] => { results := [.lit (.bool true)], args := [d] }
  | _ => none }
def fnEscapeManyRow : OpenClaim := { program := "ytjjhgjpabeoenaa", sum := "9f00169df8b56f79c45fb1ec86581384fbd291989de76f4c1d9750192cd27ad5", func := "loop.example/cotterpin/laws.FnEscapeMany", spec := "fnEscapeMany", inPlace := ["internal/abi.NoEscape"], unfollowed := true, recurses := true, apart := false }
def FnEscapeManySaid : Prop := fnEscapeManyRow.holds Try.pinned (OpenSpec.ofChange fnEscapeManySpec)

/-- ITS FALSE NEIGHBOUR: 'it returns false'. Refute it at one input. -/
def fnEscapeManyWrong : ChangeSpec := { name := "fnEscapeMany", fn := fun _ => fun
  | [d] => { results := [.lit (.bool false)], args := [d] }
  | _ => none }
def FnEscapeManyWrongFalsely : Prop := fnEscapeManyRow.holds Try.pinned (OpenSpec.ofChange fnEscapeManyWrong)

/-- 'laws.FnExactEscapePut': WHATEVER THE INPUT: true; the input reads as it did. -/
def fnExactEscapePutSpec : ChangeSpec := { name := "fnExactEscapePut", fn := fun _ => fun
  | [d1, d2] => { results := [.lit (.bool true)], args := [d1, d2] }
  | _ => none }
def fnExactEscapePutRow : OpenClaim := { program := "ytjjhgjpabeoenaa", sum := "9f00169df8b56f79c45fb1ec86581384fbd291989de76f4c1d9750192cd27ad5", func := "loop.example/cotterpin/laws.FnExactEscapePut", spec := "fnExactEscapePut", inPlace := ["internal/abi.NoEscape"], unfollowed := true, recurses := true, apart := false }
def FnExactEscapePutSaid : Prop := fnExactEscapePutRow.holds Try.pinned (OpenSpec.ofChange fnExactEscapePutSpec)

/-- ITS FALSE NEIGHBOUR: 'it returns false'. Refute it at one input. -/
def fnExactEscapePutWrong : ChangeSpec := { name := "fnExactEscapePut", fn := fun _ => fun
  | [d1, d2] => { results := [.lit (.bool false)], args := [d1, d2] }
  | _ => none }
def FnExactEscapePutWrongFalsely : Prop := fnExactEscapePutRow.holds Try.pinned (OpenSpec.ofChange fnExactEscapePutWrong)

/-- 'laws.FnExactEscapeGet': WHATEVER THE INPUT: true; the input reads as it did. -/
def fnExactEscapeGetSpec : ChangeSpec := { name := "fnExactEscapeGet", fn := fun _ => fun
  | [d1, d2] => { results := [.lit (.bool true)], args := [d1, d2] }
  | _ => none }
def fnExactEscapeGetRow : OpenClaim := { program := "ytjjhgjpabeoenaa", sum := "9f00169df8b56f79c45fb1ec86581384fbd291989de76f4c1d9750192cd27ad5", func := "loop.example/cotterpin/laws.FnExactEscapeGet", spec := "fnExactEscapeGet", inPlace := ["internal/bytealg.IndexByteString", "internal/abi.NoEscape"], unfollowed := true, recurses := true, apart := false }
def FnExactEscapeGetSaid : Prop := fnExactEscapeGetRow.holds Try.pinned (OpenSpec.ofChange fnExactEscapeGetSpec)

/-- ITS FALSE NEIGHBOUR: 'it returns false'. Refute it at one input. -/
def fnExactEscapeGetWrong : ChangeSpec := { name := "fnExactEscapeGet", fn := fun _ => fun
  | [d1, d2] => { results := [.lit (.bool false)], args := [d1, d2] }
  | _ => none }
def FnExactEscapeGetWrongFalsely : Prop := fnExactEscapeGetRow.holds Try.pinned (OpenSpec.ofChange fnExactEscapeGetWrong)

/-- 'laws.FnExactEscapeMany': WHATEVER THE INPUT: true; the input reads as it did. -/
def fnExactEscapeManySpec : ChangeSpec := { name := "fnExactEscapeMany", fn := fun _ => fun
  | [d1, d2] => { results := [.lit (.bool true)], args := [d1, d2] }
  | _ => none }
def fnExactEscapeManyRow : OpenClaim := { program := "ytjjhgjpabeoenaa", sum := "9f00169df8b56f79c45fb1ec86581384fbd291989de76f4c1d9750192cd27ad5", func := "loop.example/cotterpin/laws.FnExactEscapeMany", spec := "fnExactEscapeMany", inPlace := ["internal/abi.NoEscape"], unfollowed := true, recurses := true, apart := false }
def FnExactEscapeManySaid : Prop := fnExactEscapeManyRow.holds Try.pinned (OpenSpec.ofChange fnExactEscapeManySpec)

/-- ITS FALSE NEIGHBOUR: 'it returns false'. Refute it at one input. -/
def fnExactEscapeManyWrong : ChangeSpec := { name := "fnExactEscapeMany", fn := fun _ => fun
  | [d1, d2] => { results := [.lit (.bool false)], args := [d1, d2] }
  | _ => none }
def FnExactEscapeManyWrongFalsely : Prop := fnExactEscapeManyRow.holds Try.pinned (OpenSpec.ofChange fnExactEscapeManyWrong)

/- THE SECOND FORM. 'bulk': how many values and letters a reading holds, each counted each time it is reached (what is shared counts as often as it is met; a slice's spare places count too). A statement '..UptoSaid' is the law's where the arguments, and the package variables that the reading takes, are together of bulk at most 1048576: NARROWER than '..Said'. Prove '..Said' where nothing that the law and all that it calls make is longer than what came in: it says more and counts as full. Else prove '..UptoSaid'. A law counts once. -/
mutual
def uptoBulk {H : Type} : DataW H → Nat
  | .lit (.string bytes) => bytes.length + 1
  | .lit _ => 1
  | .nil => 1
  | .ptr d => uptoBulk d + 1
  | .slice elems spare => uptoBulkAll elems + uptoBulkAll spare + 1
  | .agg parts => uptoBulkAll parts + 1
  | .iface _ d => uptoBulk d + 1
  | .map entries => uptoBulkEntries entries + 1
  | .held _ => 1
def uptoBulkAll {H : Type} : List (DataW H) → Nat
  | [] => 0
  | d :: r => uptoBulk d + uptoBulkAll r
def uptoBulkEntries {H : Type} : List (Lit × DataW H) → Nat
  | [] => 0
  | x :: r => uptoBulkEntry x + uptoBulkEntries r
def uptoBulkEntry {H : Type} : Lit × DataW H → Nat
  | (.string bytes, d) => bytes.length + uptoBulk d + 1
  | (_, d) => uptoBulk d + 1
 end
def uptoSmall : (H : Type) → List (DataW H) → Bool := fun _ ds => decide (uptoBulkAll ds ≤ 1048576)
def OpenSpec.upto (s : _root_.Go.ChangeSpec) : _root_.Go.OpenSpec := { _root_.Go.OpenSpec.ofChange s with cond := some uptoSmall }

/-- 'laws.FnEscapePut', WHERE WHAT IT READS IS OF BULK AT MOST 1048576: true; the input reads as it did. -/
def fnEscapePutUptoRow : OpenClaim := { program := "ytjjhgjpabeoenaa", sum := "9f00169df8b56f79c45fb1ec86581384fbd291989de76f4c1d9750192cd27ad5", func := "loop.example/cotterpin/laws.FnEscapePut", spec := "fnEscapePut", inPlace := ["internal/abi.NoEscape", "internal/bytealg.IndexByteString"], unfollowed := true, recurses := true, apart := false, narrowed := true }
def FnEscapePutUptoSaid : Prop := fnEscapePutUptoRow.holds Try.pinned (OpenSpec.upto fnEscapePutSpec)

/-- 'laws.FnEscapeGet', WHERE WHAT IT READS IS OF BULK AT MOST 1048576: true; the input reads as it did. -/
def fnEscapeGetUptoRow : OpenClaim := { program := "ytjjhgjpabeoenaa", sum := "9f00169df8b56f79c45fb1ec86581384fbd291989de76f4c1d9750192cd27ad5", func := "loop.example/cotterpin/laws.FnEscapeGet", spec := "fnEscapeGet", inPlace := ["internal/bytealg.IndexByteString", "internal/abi.NoEscape"], unfollowed := true, recurses := true, apart := false, narrowed := true }
def FnEscapeGetUptoSaid : Prop := fnEscapeGetUptoRow.holds Try.pinned (OpenSpec.upto fnEscapeGetSpec)

/-- 'laws.FnEscapeMany', WHERE WHAT IT READS IS OF BULK AT MOST 1048576: true; the input reads as it did. -/
def fnEscapeManyUptoRow : OpenClaim := { program := "ytjjhgjpabeoenaa", sum := "9f00169df8b56f79c45fb1ec86581384fbd291989de76f4c1d9750192cd27ad5", func := "loop.example/cotterpin/laws.FnEscapeMany", spec := "fnEscapeMany", inPlace := ["internal/abi.NoEscape"], unfollowed := true, recurses := true, apart := false, narrowed := true }
def FnEscapeManyUptoSaid : Prop := fnEscapeManyUptoRow.holds Try.pinned (OpenSpec.upto fnEscapeManySpec)

/-- 'laws.FnExactEscapePut', WHERE WHAT IT READS IS OF BULK AT MOST 1048576: true; the input reads as it did. -/
def fnExactEscapePutUptoRow : OpenClaim := { program := "ytjjhgjpabeoenaa", sum := "9f00169df8b56f79c45fb1ec86581384fbd291989de76f4c1d9750192cd27ad5", func := "loop.example/cotterpin/laws.FnExactEscapePut", spec := "fnExactEscapePut", inPlace := ["internal/abi.NoEscape"], unfollowed := true, recurses := true, apart := false, narrowed := true }
def FnExactEscapePutUptoSaid : Prop := fnExactEscapePutUptoRow.holds Try.pinned (OpenSpec.upto fnExactEscapePutSpec)

/-- 'laws.FnExactEscapeGet', WHERE WHAT IT READS IS OF BULK AT MOST 1048576: true; the input reads as it did. -/
def fnExactEscapeGetUptoRow : OpenClaim := { program := "ytjjhgjpabeoenaa", sum := "9f00169df8b56f79c45fb1ec86581384fbd291989de76f4c1d9750192cd27ad5", func := "loop.example/cotterpin/laws.FnExactEscapeGet", spec := "fnExactEscapeGet", inPlace := ["internal/bytealg.IndexByteString", "internal/abi.NoEscape"], unfollowed := true, recurses := true, apart := false, narrowed := true }
def FnExactEscapeGetUptoSaid : Prop := fnExactEscapeGetUptoRow.holds Try.pinned (OpenSpec.upto fnExactEscapeGetSpec)

/-- 'laws.FnExactEscapeMany', WHERE WHAT IT READS IS OF BULK AT MOST 1048576: true; the input reads as it did. -/
def fnExactEscapeManyUptoRow : OpenClaim := { program := "ytjjhgjpabeoenaa", sum := "9f00169df8b56f79c45fb1ec86581384fbd291989de76f4c1d9750192cd27ad5", func := "loop.example/cotterpin/laws.FnExactEscapeMany", spec := "fnExactEscapeMany", inPlace := ["internal/abi.NoEscape"], unfollowed := true, recurses := true, apart := false, narrowed := true }
def FnExactEscapeManyUptoSaid : Prop := fnExactEscapeManyUptoRow.holds Try.pinned (OpenSpec.upto fnExactEscapeManySpec)

end Rows
end Go.Proofs.Ytjjhgjpabeoenaa
