/-
  No cell of these rows narrows 'for every input' (looked for: loops, veiled, ifaces, maps, wideKeys, modest, calm, conditions, laid).
  DERIVED. THE GIVEN ROWS OF THIS SEAT. 4 by the template 'for every input the law returns true; each argument reads behind the call as it read before'; 0 by the template 'total and deterministic' (their statements: YtdnedoafgfpnfaaTotals.lean).
  GIVEN WITH THE SEED: the statements are not yours to turn. If you find one false, say at which input.
  Laid BY PROGRAM, IN A SANDBOX (cutbox-rows.mjs): the forced cells as the released guide's own fill.sh prints them over the translation 61c52c65dc85ab0e… (all of the seat's roots in one cut). By AI agents, Wed Nov 11 2026. No macro, syntax, notation, axiom, sorry.
-/
import Derived.Test.YtdnedoafgfpnfaaChecked
import GoSem.Claim
import GoSem.ClaimJoined
import GoSem.ClaimMapViews
import Derived.JoinedTies
import Derived.KernelRfl
namespace Go.Proofs.Ytdnedoafgfpnfaa
/- THE CELL 'sum', in the pinned program and in every row, IS THE sha256 OF THE DUMP (.gsa) THAT YtdnedoafgfpnfaaProg.lean LOADS. Nothing in Lean hashes anything: it is a label: what it is worth is what the hold of that sum in a sandbox is worth. -/
noncomputable def Try.pinned : Pinned := { name := "ytdnedoafgfpnfaa", sum := "61c52c65dc85ab0ebc72351504135dd4e8ca418420fbd8ad4dbfdfcaecb4f683", checked := Try.checked }
namespace Rows
def none {H : Type} : Left H := { results := [], args := [] }

/-- 'laws.FnLineNew': WHATEVER THE INPUT: true; the input reads as it did. -/
def fnLineNewSpec : ChangeSpec := { name := "fnLineNew", fn := fun _ => fun
  | [d] => { results := [.lit (.bool true)], args := [d] }
  | _ => none }
def fnLineNewRow : OpenClaim := { program := "ytdnedoafgfpnfaa", sum := "61c52c65dc85ab0ebc72351504135dd4e8ca418420fbd8ad4dbfdfcaecb4f683", func := "loop.example/cotterpin/laws.FnLineNew", spec := "fnLineNew", inPlace := ["internal/bytealg.IndexByteString"], unfollowed := true, recurses := true, apart := false }
def FnLineNewSaid : Prop := fnLineNewRow.holds Try.pinned (OpenSpec.ofChange fnLineNewSpec)

/-- ITS FALSE NEIGHBOUR: 'it returns false'. Refute it at one input. -/
def fnLineNewWrong : ChangeSpec := { name := "fnLineNew", fn := fun _ => fun
  | [d] => { results := [.lit (.bool false)], args := [d] }
  | _ => none }
def FnLineNewWrongFalsely : Prop := fnLineNewRow.holds Try.pinned (OpenSpec.ofChange fnLineNewWrong)

/-- 'laws.FnExactFindCount': WHATEVER THE INPUT: true; the input reads as it did. -/
def fnExactFindCountSpec : ChangeSpec := { name := "fnExactFindCount", fn := fun _ => fun
  | [d] => { results := [.lit (.bool true)], args := [d] }
  | _ => none }
def fnExactFindCountRow : OpenClaim := { program := "ytdnedoafgfpnfaa", sum := "61c52c65dc85ab0ebc72351504135dd4e8ca418420fbd8ad4dbfdfcaecb4f683", func := "loop.example/cotterpin/laws.FnExactFindCount", spec := "fnExactFindCount", apart := false }
def FnExactFindCountSaid : Prop := fnExactFindCountRow.holds Try.pinned (OpenSpec.ofChange fnExactFindCountSpec)

/-- ITS FALSE NEIGHBOUR: 'it returns false'. Refute it at one input. -/
def fnExactFindCountWrong : ChangeSpec := { name := "fnExactFindCount", fn := fun _ => fun
  | [d] => { results := [.lit (.bool false)], args := [d] }
  | _ => none }
def FnExactFindCountWrongFalsely : Prop := fnExactFindCountRow.holds Try.pinned (OpenSpec.ofChange fnExactFindCountWrong)

/-- 'laws.FnExactLineOk': WHATEVER THE INPUT: true; the input reads as it did. -/
def fnExactLineOkSpec : ChangeSpec := { name := "fnExactLineOk", fn := fun _ => fun
  | [d] => { results := [.lit (.bool true)], args := [d] }
  | _ => none }
def fnExactLineOkRow : OpenClaim := { program := "ytdnedoafgfpnfaa", sum := "61c52c65dc85ab0ebc72351504135dd4e8ca418420fbd8ad4dbfdfcaecb4f683", func := "loop.example/cotterpin/laws.FnExactLineOk", spec := "fnExactLineOk", inPlace := ["internal/bytealg.IndexByteString"], unfollowed := true, recurses := true, apart := false }
def FnExactLineOkSaid : Prop := fnExactLineOkRow.holds Try.pinned (OpenSpec.ofChange fnExactLineOkSpec)

/-- ITS FALSE NEIGHBOUR: 'it returns false'. Refute it at one input. -/
def fnExactLineOkWrong : ChangeSpec := { name := "fnExactLineOk", fn := fun _ => fun
  | [d] => { results := [.lit (.bool false)], args := [d] }
  | _ => none }
def FnExactLineOkWrongFalsely : Prop := fnExactLineOkRow.holds Try.pinned (OpenSpec.ofChange fnExactLineOkWrong)

/-- 'laws.FnExactLineNew': WHATEVER THE INPUT: true; the input reads as it did. -/
def fnExactLineNewSpec : ChangeSpec := { name := "fnExactLineNew", fn := fun _ => fun
  | [d1, d2] => { results := [.lit (.bool true)], args := [d1, d2] }
  | _ => none }
def fnExactLineNewRow : OpenClaim := { program := "ytdnedoafgfpnfaa", sum := "61c52c65dc85ab0ebc72351504135dd4e8ca418420fbd8ad4dbfdfcaecb4f683", func := "loop.example/cotterpin/laws.FnExactLineNew", spec := "fnExactLineNew", inPlace := ["internal/bytealg.IndexByteString"], unfollowed := true, recurses := true, apart := false }
def FnExactLineNewSaid : Prop := fnExactLineNewRow.holds Try.pinned (OpenSpec.ofChange fnExactLineNewSpec)

/-- ITS FALSE NEIGHBOUR: 'it returns false'. Refute it at one input. -/
def fnExactLineNewWrong : ChangeSpec := { name := "fnExactLineNew", fn := fun _ => fun
  | [d1, d2] => { results := [.lit (.bool false)], args := [d1, d2] }
  | _ => none }
def FnExactLineNewWrongFalsely : Prop := fnExactLineNewRow.holds Try.pinned (OpenSpec.ofChange fnExactLineNewWrong)

/- THE SECOND FORM. 'bulk': how many values and letters a reading holds, each counted each time it is reached (what is shared counts as often as it is met; a slice's spare places count too). A statement '..UptoSaid' is the law's where the arguments, and the package variables that the reading takes, are together of bulk at most 1048576: NARROWER than '..Said'. Prove '..Said' where nothing that the law and all that it calls make is longer than what came in: it says more and counts as full. Else prove '..UptoSaid'. A law counts once. -/
mutual
def uptoBulk {H : Type} : DataW H → Nat
  | .lit (.string bytes) => bytes.length + 1
  | .lit _ => 1
  | .nil => 1
  | .ptr d => uptoBulk d + 1
  | .slice elems spare => uptoBulkAll elems + uptoBulkAll spare + 1
  | .agg parts => uptoBulkAll parts + 1
  | .iface _ d => uptoBulk d + 1
  | .map entries => uptoBulkEntries entries + 1
  | .held _ => 1
def uptoBulkAll {H : Type} : List (DataW H) → Nat
  | [] => 0
  | d :: r => uptoBulk d + uptoBulkAll r
def uptoBulkEntries {H : Type} : List (Lit × DataW H) → Nat
  | [] => 0
  | x :: r => uptoBulkEntry x + uptoBulkEntries r
def uptoBulkEntry {H : Type} : Lit × DataW H → Nat
  | (.string bytes, d) => bytes.length + uptoBulk d + 1
  | (_, d) => uptoBulk d + 1
 end
def uptoSmall : (H : Type) → List (DataW H) → Bool := fun _ ds => decide (uptoBulkAll ds ≤ 1048576)
def OpenSpec.upto (s : _root_.Go.ChangeSpec) : _root_.Go.OpenSpec := { _root_.Go.OpenSpec.ofChange s with cond := some uptoSmall }

/-- 'laws.FnLineNew', WHERE WHAT IT READS IS OF BULK AT MOST 1048576: true; the input reads as it did. -/
def fnLineNewUptoRow : OpenClaim := { program := "ytdnedoafgfpnfaa", sum := "61c52c65dc85ab0ebc72351504135dd4e8ca418420fbd8ad4dbfdfcaecb4f683", func := "loop.example/cotterpin/laws.FnLineNew", spec := "fnLineNew", inPlace := ["internal/bytealg.IndexByteString"], unfollowed := true, recurses := true, apart := false, narrowed := true }
def FnLineNewUptoSaid : Prop := fnLineNewUptoRow.holds Try.pinned (OpenSpec.upto fnLineNewSpec)

/-- 'laws.FnExactFindCount', WHERE WHAT IT READS IS OF BULK AT MOST 1048576: true; the input reads as it did. -/
def fnExactFindCountUptoRow : OpenClaim := { program := "ytdnedoafgfpnfaa", sum := "61c52c65dc85ab0ebc72351504135dd4e8ca418420fbd8ad4dbfdfcaecb4f683", func := "loop.example/cotterpin/laws.FnExactFindCount", spec := "fnExactFindCount", apart := false, narrowed := true }
def FnExactFindCountUptoSaid : Prop := fnExactFindCountUptoRow.holds Try.pinned (OpenSpec.upto fnExactFindCountSpec)

/-- 'laws.FnExactLineOk', WHERE WHAT IT READS IS OF BULK AT MOST 1048576: true; the input reads as it did. -/
def fnExactLineOkUptoRow : OpenClaim := { program := "ytdnedoafgfpnfaa", sum := "61c52c65dc85ab0ebc72351504135dd4e8ca418420fbd8ad4dbfdfcaecb4f683", func := "loop.example/cotterpin/laws.FnExactLineOk", spec := "fnExactLineOk", inPlace := ["internal/bytealg.IndexByteString"], unfollowed := true, recurses := true, apart := false, narrowed := true }
def FnExactLineOkUptoSaid : Prop := fnExactLineOkUptoRow.holds Try.pinned (OpenSpec.upto fnExactLineOkSpec)

/-- 'laws.FnExactLineNew', WHERE WHAT IT READS IS OF BULK AT MOST 1048576: true; the input reads as it did. -/
def fnExactLineNewUptoRow : OpenClaim := { program := "ytdnedoafgfpnfaa", sum := "61c52c65dc85ab0ebc72351504135dd4e8ca418420fbd8ad4dbfdfcaecb4f683", func := "loop.example/cotterpin/laws.FnExactLineNew", spec := "fnExactLineNew", inPlace := ["internal/bytealg.IndexByteString"], unfollowed := true, recurses := true, apart := false, narrowed := true }
def FnExactLineNewUptoSaid : Prop := fnExactLineNewUptoRow.holds Try.pinned (OpenSpec.upto fnExactLineNewSpec)

end Rows
end Go.Proofs.Ytdnedoafgfpnfaa
