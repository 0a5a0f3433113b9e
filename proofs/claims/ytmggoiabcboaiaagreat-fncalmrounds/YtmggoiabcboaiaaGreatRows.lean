/-
  No cell of these rows narrows 'for every input' (looked for: loops, veiled, ifaces, maps, wideKeys, modest, calm, conditions, laid).
  DERIVED. THE GIVEN ROWS OF THIS SEAT. 6 by the template 'for every input the law returns true; each argument reads behind the call as it read before'; 0 by the template 'total and deterministic' (their statements: YtmggoiabcboaiaaGreatTotals.lean).
  GIVEN WITH THE SEED: the statements are not yours to turn. If you find one false, say at which input.
  Laid BY PROGRAM, IN A SANDBOX (cutbox-rows.mjs): the forced cells as the released guide's own fill.sh prints them over the translation 80fee2d143955460… (all of the seat's roots in one cut). By AI agents, Wed Nov 11 2026. No macro, syntax, notation, axiom, sorry.
-/
import Derived.Test.YtmggoiabcboaiaaGreatChecked
import GoSem.Claim
import GoSem.ClaimJoined
import GoSem.ClaimMapViews
import Derived.JoinedTies
import Derived.KernelRfl
namespace Go.Proofs.YtmggoiabcboaiaaGreat
/- THE CELL 'sum', in the pinned program and in every row, IS THE sha256 OF THE DUMP (.gsa) THAT YtmggoiabcboaiaaGreatProg.lean LOADS. Nothing in Lean hashes anything: it is a label: what it is worth is what the hold of that sum in a sandbox is worth. -/
noncomputable def Tryz.pinned : Pinned := { name := "ytmggoiabcboaiaagreat", sum := "80fee2d143955460cdd875799f838bd611990014dea0e2964d18ac9b4fb0dd60", checked := Tryz.checked }
namespace Rows
def none {H : Type} : Left H := { results := [], args := [] }

/-- 'laws.FnLineFold': WHATEVER THE INPUT: true; the input reads as it did. -/
def fnLineFoldSpec : ChangeSpec := { name := "fnLineFold", fn := fun _ => fun
  | [d] => { results := [.lit (.bool true)], args := [d] }
  | _ => none }
def fnLineFoldRow : OpenClaim := { program := "ytmggoiabcboaiaagreat", sum := "80fee2d143955460cdd875799f838bd611990014dea0e2964d18ac9b4fb0dd60", func := "loop.example/cotterpin/laws.FnLineFold", spec := "fnLineFold", inPlace := ["internal/bytealg.IndexByteString"], unfollowed := true, recurses := true, apart := false }
def FnLineFoldSaid : Prop := fnLineFoldRow.holds Tryz.pinned (OpenSpec.ofChange fnLineFoldSpec)

/-- ITS FALSE NEIGHBOUR: 'it returns false'. Refute it at one input. -/
def fnLineFoldWrong : ChangeSpec := { name := "fnLineFold", fn := fun _ => fun
  | [d] => { results := [.lit (.bool false)], args := [d] }
  | _ => none }
def FnLineFoldWrongFalsely : Prop := fnLineFoldRow.holds Tryz.pinned (OpenSpec.ofChange fnLineFoldWrong)

/-- 'laws.FnLine': WHATEVER THE INPUT: true; the input reads as it did. -/
def fnLineSpec : ChangeSpec := { name := "fnLine", fn := fun _ => fun
  | [d] => { results := [.lit (.bool true)], args := [d] }
  | _ => none }
def fnLineRow : OpenClaim := { program := "ytmggoiabcboaiaagreat", sum := "80fee2d143955460cdd875799f838bd611990014dea0e2964d18ac9b4fb0dd60", func := "loop.example/cotterpin/laws.FnLine", spec := "fnLine", inPlace := ["internal/bytealg.IndexByteString"], unfollowed := true, recurses := true, apart := false }
def FnLineSaid : Prop := fnLineRow.holds Tryz.pinned (OpenSpec.ofChange fnLineSpec)

/-- ITS FALSE NEIGHBOUR: 'it returns false'. Refute it at one input. -/
def fnLineWrong : ChangeSpec := { name := "fnLine", fn := fun _ => fun
  | [d] => { results := [.lit (.bool false)], args := [d] }
  | _ => none }
def FnLineWrongFalsely : Prop := fnLineRow.holds Tryz.pinned (OpenSpec.ofChange fnLineWrong)

/-- 'laws.FnLineCalm': WHATEVER THE INPUT: true; the input reads as it did. -/
def fnLineCalmSpec : ChangeSpec := { name := "fnLineCalm", fn := fun _ => fun
  | [d] => { results := [.lit (.bool true)], args := [d] }
  | _ => none }
def fnLineCalmRow : OpenClaim := { program := "ytmggoiabcboaiaagreat", sum := "80fee2d143955460cdd875799f838bd611990014dea0e2964d18ac9b4fb0dd60", func := "loop.example/cotterpin/laws.FnLineCalm", spec := "fnLineCalm", inPlace := ["internal/bytealg.IndexByteString"], unfollowed := true, recurses := true, apart := false }
def FnLineCalmSaid : Prop := fnLineCalmRow.holds Tryz.pinned (OpenSpec.ofChange fnLineCalmSpec)

/-- ITS FALSE NEIGHBOUR: 'it returns false'. Refute it at one input. -/
def fnLineCalmWrong : ChangeSpec := { name := "fnLineCalm", fn := fun _ => fun
  | [d] => { results := [.lit (.bool false)], args := [d] }
  | _ => none }
def FnLineCalmWrongFalsely : Prop := fnLineCalmRow.holds Tryz.pinned (OpenSpec.ofChange fnLineCalmWrong)

/-- 'laws.FnCalmRounds': WHATEVER THE INPUT: true; the input reads as it did. -/
def fnCalmRoundsSpec : ChangeSpec := { name := "fnCalmRounds", fn := fun _ => fun
  | [d] => { results := [.lit (.bool true)], args := [d] }
  | _ => none }
def fnCalmRoundsRow : OpenClaim := { program := "ytmggoiabcboaiaagreat", sum := "80fee2d143955460cdd875799f838bd611990014dea0e2964d18ac9b4fb0dd60", func := "loop.example/cotterpin/laws.FnCalmRounds", spec := "fnCalmRounds", inPlace := ["internal/bytealg.IndexByteString"], unfollowed := true, recurses := true, apart := false }
def FnCalmRoundsSaid : Prop := fnCalmRoundsRow.holds Tryz.pinned (OpenSpec.ofChange fnCalmRoundsSpec)

/-- ITS FALSE NEIGHBOUR: 'it returns false'. Refute it at one input. -/
def fnCalmRoundsWrong : ChangeSpec := { name := "fnCalmRounds", fn := fun _ => fun
  | [d] => { results := [.lit (.bool false)], args := [d] }
  | _ => none }
def FnCalmRoundsWrongFalsely : Prop := fnCalmRoundsRow.holds Tryz.pinned (OpenSpec.ofChange fnCalmRoundsWrong)

/-- 'laws.FnExactLinePlay': WHATEVER THE INPUT: true; the input reads as it did. -/
def fnExactLinePlaySpec : ChangeSpec := { name := "fnExactLinePlay", fn := fun _ => fun
  | [d1, d2, d3] => { results := [.lit (.bool true)], args := [d1, d2, d3] }
  | _ => none }
def fnExactLinePlayRow : OpenClaim := { program := "ytmggoiabcboaiaagreat", sum := "80fee2d143955460cdd875799f838bd611990014dea0e2964d18ac9b4fb0dd60", func := "loop.example/cotterpin/laws.FnExactLinePlay", spec := "fnExactLinePlay", inPlace := ["internal/bytealg.IndexByteString"], unfollowed := true, recurses := true, apart := false }
def FnExactLinePlaySaid : Prop := fnExactLinePlayRow.holds Tryz.pinned (OpenSpec.ofChange fnExactLinePlaySpec)

/-- ITS FALSE NEIGHBOUR: 'it returns false'. Refute it at one input. -/
def fnExactLinePlayWrong : ChangeSpec := { name := "fnExactLinePlay", fn := fun _ => fun
  | [d1, d2, d3] => { results := [.lit (.bool false)], args := [d1, d2, d3] }
  | _ => none }
def FnExactLinePlayWrongFalsely : Prop := fnExactLinePlayRow.holds Tryz.pinned (OpenSpec.ofChange fnExactLinePlayWrong)

/-- 'laws.FnExactLineCalm': WHATEVER THE INPUT: true; the input reads as it did. -/
def fnExactLineCalmSpec : ChangeSpec := { name := "fnExactLineCalm", fn := fun _ => fun
  | [d1, d2] => { results := [.lit (.bool true)], args := [d1, d2] }
  | _ => none }
def fnExactLineCalmRow : OpenClaim := { program := "ytmggoiabcboaiaagreat", sum := "80fee2d143955460cdd875799f838bd611990014dea0e2964d18ac9b4fb0dd60", func := "loop.example/cotterpin/laws.FnExactLineCalm", spec := "fnExactLineCalm", inPlace := ["internal/bytealg.IndexByteString"], unfollowed := true, recurses := true, apart := false }
def FnExactLineCalmSaid : Prop := fnExactLineCalmRow.holds Tryz.pinned (OpenSpec.ofChange fnExactLineCalmSpec)

/-- ITS FALSE NEIGHBOUR: 'it returns false'. Refute it at one input. -/
def fnExactLineCalmWrong : ChangeSpec := { name := "fnExactLineCalm", fn := fun _ => fun
  | [d1, d2] => { results := [.lit (.bool false)], args := [d1, d2] }
  | _ => none }
def FnExactLineCalmWrongFalsely : Prop := fnExactLineCalmRow.holds Tryz.pinned (OpenSpec.ofChange fnExactLineCalmWrong)

/- THE SECOND FORM. 'bulk': how many values and letters a reading holds, each counted each time it is reached (what is shared counts as often as it is met; a slice's spare places count too). A statement '..UptoSaid' is the law's where the arguments, and the package variables that the reading takes, are together of bulk at most 1048576: NARROWER than '..Said'. Prove '..Said' where nothing that the law and all that it calls make is longer than what came in: it says more and counts as full. Else prove '..UptoSaid'. A law counts once. -/
mutual
def uptoBulk {H : Type} : DataW H → Nat
  | .lit (.string bytes) => bytes.length + 1
  | .lit _ => 1
  | .nil => 1
  | .ptr d => uptoBulk d + 1
  | .slice elems spare => uptoBulkAll elems + uptoBulkAll spare + 1
  | .agg parts => uptoBulkAll parts + 1
  | .iface _ d => uptoBulk d + 1
  | .map entries => uptoBulkEntries entries + 1
  | .held _ => 1
def uptoBulkAll {H : Type} : List (DataW H) → Nat
  | [] => 0
  | d :: r => uptoBulk d + uptoBulkAll r
def uptoBulkEntries {H : Type} : List (Lit × DataW H) → Nat
  | [] => 0
  | x :: r => uptoBulkEntry x + uptoBulkEntries r
def uptoBulkEntry {H : Type} : Lit × DataW H → Nat
  | (.string bytes, d) => bytes.length + uptoBulk d + 1
  | (_, d) => uptoBulk d + 1
 end
def uptoSmall : (H : Type) → List (DataW H) → Bool := fun _ ds => decide (uptoBulkAll ds ≤ 1048576)
def OpenSpec.upto (s : _root_.Go.ChangeSpec) : _root_.Go.OpenSpec := { _root_.Go.OpenSpec.ofChange s with cond := some uptoSmall }

/-- 'laws.FnLineFold', WHERE WHAT IT READS IS OF BULK AT MOST 1048576: true; the input reads as it did. -/
def fnLineFoldUptoRow : OpenClaim := { program := "ytmggoiabcboaiaagreat", sum := "80fee2d143955460cdd875799f838bd611990014dea0e2964d18ac9b4fb0dd60", func := "loop.example/cotterpin/laws.FnLineFold", spec := "fnLineFold", inPlace := ["internal/bytealg.IndexByteString"], unfollowed := true, recurses := true, apart := false, narrowed := true }
def FnLineFoldUptoSaid : Prop := fnLineFoldUptoRow.holds Tryz.pinned (OpenSpec.upto fnLineFoldSpec)

/-- 'laws.FnLine', WHERE WHAT IT READS IS OF BULK AT MOST 1048576: true; the input reads as it did. -/
def fnLineUptoRow : OpenClaim := { program := "ytmggoiabcboaiaagreat", sum := "80fee2d143955460cdd875799f838bd611990014dea0e2964d18ac9b4fb0dd60", func := "loop.example/cotterpin/laws.FnLine", spec := "fnLine", inPlace := ["internal/bytealg.IndexByteString"], unfollowed := true, recurses := true, apart := false, narrowed := true }
def FnLineUptoSaid : Prop := fnLineUptoRow.holds Tryz.pinned (OpenSpec.upto fnLineSpec)

/-- 'laws.FnLineCalm', WHERE WHAT IT READS IS OF BULK AT MOST 1048576: true; the input reads as it did. -/
def fnLineCalmUptoRow : OpenClaim := { program := "ytmggoiabcboaiaagreat", sum := "80fee2d143955460cdd875799f838bd611990014dea0e2964d18ac9b4fb0dd60", func := "loop.example/cotterpin/laws.FnLineCalm", spec := "fnLineCalm", inPlace := ["internal/bytealg.IndexByteString"], unfollowed := true, recurses := true, apart := false, narrowed := true }
def FnLineCalmUptoSaid : Prop := fnLineCalmUptoRow.holds Tryz.pinned (OpenSpec.upto fnLineCalmSpec)

/-- 'laws.FnCalmRounds', WHERE WHAT IT READS IS OF BULK AT MOST 1048576: true; the input reads as it did. -/
def fnCalmRoundsUptoRow : OpenClaim := { program := "ytmggoiabcboaiaagreat", sum := "80fee2d143955460cdd875799f838bd611990014dea0e2964d18ac9b4fb0dd60", func := "loop.example/cotterpin/laws.FnCalmRounds", spec := "fnCalmRounds", inPlace := ["internal/bytealg.IndexByteString"], unfollowed := true, recurses := true, apart := false, narrowed := true }
def FnCalmRoundsUptoSaid : Prop := fnCalmRoundsUptoRow.holds Tryz.pinned (OpenSpec.upto fnCalmRoundsSpec)

/-- 'laws.FnExactLinePlay', WHERE WHAT IT READS IS OF BULK AT MOST 1048576: true; the input reads as it did. -/
def fnExactLinePlayUptoRow : OpenClaim := { program := "ytmggoiabcboaiaagreat", sum := "80fee2d143955460cdd875799f838bd611990014dea0e2964d18ac9b4fb0dd60", func := "loop.example/cotterpin/laws.FnExactLinePlay", spec := "fnExactLinePlay", inPlace := ["internal/bytealg.IndexByteString"], unfollowed := true, recurses := true, apart := false, narrowed := true }
def FnExactLinePlayUptoSaid : Prop := fnExactLinePlayUptoRow.holds Tryz.pinned (OpenSpec.upto fnExactLinePlaySpec)

/-- 'laws.FnExactLineCalm', WHERE WHAT IT READS IS OF BULK AT MOST 1048576: true; the input reads as it did. -/
def fnExactLineCalmUptoRow : OpenClaim := { program := "ytmggoiabcboaiaagreat", sum := "80fee2d143955460cdd875799f838bd611990014dea0e2964d18ac9b4fb0dd60", func := "loop.example/cotterpin/laws.FnExactLineCalm", spec := "fnExactLineCalm", inPlace := ["internal/bytealg.IndexByteString"], unfollowed := true, recurses := true, apart := false, narrowed := true }
def FnExactLineCalmUptoSaid : Prop := fnExactLineCalmUptoRow.holds Tryz.pinned (OpenSpec.upto fnExactLineCalmSpec)

end Rows
end Go.Proofs.YtmggoiabcboaiaaGreat
