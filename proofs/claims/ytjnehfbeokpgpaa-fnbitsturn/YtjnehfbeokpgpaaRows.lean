/-
  No cell of these rows narrows 'for every input' (looked for: loops, veiled, ifaces, maps, wideKeys, modest, calm, conditions, laid).
  DERIVED. THE GIVEN ROWS OF THIS SEAT. 4 by the template 'for every input the law returns true; each argument reads behind the call as it read before'; 0 by the template 'total and deterministic' (their statements: YtjnehfbeokpgpaaTotals.lean).
  GIVEN WITH THE SEED: the statements are not yours to turn. If you find one false, say at which input.
  Laid BY PROGRAM, IN A SANDBOX (cutbox-rows.mjs): the forced cells as the released guide's own fill.sh prints them over the translation 0bc46037c54641e6… (all of the seat's roots in one cut). By AI agents, Wed Nov 11 2026. No macro, syntax, notation, axiom, sorry.
-/
import Derived.Test.YtjnehfbeokpgpaaChecked
import GoSem.Claim
import GoSem.ClaimJoined
import GoSem.ClaimMapViews
import Derived.JoinedTies
import Derived.KernelRfl
namespace Go.Proofs.Ytjnehfbeokpgpaa
/- THE CELL 'sum', in the pinned program and in every row, IS THE sha256 OF THE DUMP (.gsa) THAT YtjnehfbeokpgpaaProg.lean LOADS. Nothing in Lean hashes anything: it is a label: what it is worth is what the hold of that sum in a sandbox is worth. -/
noncomputable def Try.pinned : Pinned := { name := "ytjnehfbeokpgpaa", sum := "0bc46037c54641e61aaa12b4d851344fe443f3e9853b727fe3de7a21b988db86", checked := Try.checked }
namespace Rows
def none {H : Type} : Left H := { results := [], args := [] }

/-- 'laws.FnHamFar': WHATEVER THE INPUT: true; the input reads as it did. -/
def fnHamFarSpec : ChangeSpec := { name := "fnHamFar", fn := fun _ => fun
  | [d1, d2] => { results := [.lit (.bool true)], args := [d1, d2] }
  | _ => none }
def fnHamFarRow : OpenClaim := { program := "ytjnehfbeokpgpaa", sum := "0bc46037c54641e61aaa12b4d851344fe443f3e9853b727fe3de7a21b988db86", func := "loop.example/cotterpin/laws.FnHamFar", spec := "fnHamFar", apart := false }
def FnHamFarSaid : Prop := fnHamFarRow.holds Try.pinned (OpenSpec.ofChange fnHamFarSpec)

/-- ITS FALSE NEIGHBOUR: 'it returns false'. Refute it at one input. -/
def fnHamFarWrong : ChangeSpec := { name := "fnHamFar", fn := fun _ => fun
  | [d1, d2] => { results := [.lit (.bool false)], args := [d1, d2] }
  | _ => none }
def FnHamFarWrongFalsely : Prop := fnHamFarRow.holds Try.pinned (OpenSpec.ofChange fnHamFarWrong)

/-- 'laws.FnBitsTurn': WHATEVER THE INPUT: true; the input reads as it did. -/
def fnBitsTurnSpec : ChangeSpec := { name := "fnBitsTurn", fn := fun _ => fun
  | [d] => { results := [.lit (.bool true)], args := [d] }
  | _ => none }
def fnBitsTurnRow : OpenClaim := { program := "ytjnehfbeokpgpaa", sum := "0bc46037c54641e61aaa12b4d851344fe443f3e9853b727fe3de7a21b988db86", func := "loop.example/cotterpin/laws.FnBitsTurn", spec := "fnBitsTurn", apart := false }
def FnBitsTurnSaid : Prop := fnBitsTurnRow.holds Try.pinned (OpenSpec.ofChange fnBitsTurnSpec)

/-- ITS FALSE NEIGHBOUR: 'it returns false'. Refute it at one input. -/
def fnBitsTurnWrong : ChangeSpec := { name := "fnBitsTurn", fn := fun _ => fun
  | [d] => { results := [.lit (.bool false)], args := [d] }
  | _ => none }
def FnBitsTurnWrongFalsely : Prop := fnBitsTurnRow.holds Try.pinned (OpenSpec.ofChange fnBitsTurnWrong)

/-- 'laws.FnExactHamFar': WHATEVER THE INPUT: true; the input reads as it did. -/
def fnExactHamFarSpec : ChangeSpec := { name := "fnExactHamFar", fn := fun _ => fun
  | [d1, d2] => { results := [.lit (.bool true)], args := [d1, d2] }
  | _ => none }
def fnExactHamFarRow : OpenClaim := { program := "ytjnehfbeokpgpaa", sum := "0bc46037c54641e61aaa12b4d851344fe443f3e9853b727fe3de7a21b988db86", func := "loop.example/cotterpin/laws.FnExactHamFar", spec := "fnExactHamFar", apart := false }
def FnExactHamFarSaid : Prop := fnExactHamFarRow.holds Try.pinned (OpenSpec.ofChange fnExactHamFarSpec)

/-- ITS FALSE NEIGHBOUR: 'it returns false'. Refute it at one input. -/
def fnExactHamFarWrong : ChangeSpec := { name := "fnExactHamFar", fn := fun _ => fun
  | [d1, d2] => { results := [.lit (.bool false)], args := [d1, d2] }
  | _ => none }
def FnExactHamFarWrongFalsely : Prop := fnExactHamFarRow.holds Try.pinned (OpenSpec.ofChange fnExactHamFarWrong)

/-- 'laws.FnExactBitsTurn': WHATEVER THE INPUT: true; the input reads as it did. -/
def fnExactBitsTurnSpec : ChangeSpec := { name := "fnExactBitsTurn", fn := fun _ => fun
  | [d1, d2] => { results := [.lit (.bool true)], args := [d1, d2] }
  | _ => none }
def fnExactBitsTurnRow : OpenClaim := { program := "ytjnehfbeokpgpaa", sum := "0bc46037c54641e61aaa12b4d851344fe443f3e9853b727fe3de7a21b988db86", func := "loop.example/cotterpin/laws.FnExactBitsTurn", spec := "fnExactBitsTurn", apart := false }
def FnExactBitsTurnSaid : Prop := fnExactBitsTurnRow.holds Try.pinned (OpenSpec.ofChange fnExactBitsTurnSpec)

/-- ITS FALSE NEIGHBOUR: 'it returns false'. Refute it at one input. -/
def fnExactBitsTurnWrong : ChangeSpec := { name := "fnExactBitsTurn", fn := fun _ => fun
  | [d1, d2] => { results := [.lit (.bool false)], args := [d1, d2] }
  | _ => none }
def FnExactBitsTurnWrongFalsely : Prop := fnExactBitsTurnRow.holds Try.pinned (OpenSpec.ofChange fnExactBitsTurnWrong)

/- THE SECOND FORM. 'bulk': how many values and letters a reading holds, each counted each time it is reached (what is shared counts as often as it is met; a slice's spare places count too). A statement '..UptoSaid' is the law's where the arguments, and the package variables that the reading takes, are together of bulk at most 1048576: NARROWER than '..Said'. Prove '..Said' where nothing that the law and all that it calls make is longer than what came in: it says more and counts as full. Else prove '..UptoSaid'. A law counts once. -/
mutual
def uptoBulk {H : Type} : DataW H → Nat
  | .lit (.string bytes) => bytes.length + 1
  | .lit _ => 1
  | .nil => 1
  | .ptr d => uptoBulk d + 1
  | .slice elems spare => uptoBulkAll elems + uptoBulkAll spare + 1
  | .agg parts => uptoBulkAll parts + 1
  | .iface _ d => uptoBulk d + 1
  | .map entries => uptoBulkEntries entries + 1
  | .held _ => 1
def uptoBulkAll {H : Type} : List (DataW H) → Nat
  | [] => 0
  | d :: r => uptoBulk d + uptoBulkAll r
def uptoBulkEntries {H : Type} : List (Lit × DataW H) → Nat
  | [] => 0
  | x :: r => uptoBulkEntry x + uptoBulkEntries r
def uptoBulkEntry {H : Type} : Lit × DataW H → Nat
  | (.string bytes, d) => bytes.length + uptoBulk d + 1
  | (_, d) => uptoBulk d + 1
 end
def uptoSmall : (H : Type) → List (DataW H) → Bool := fun _ ds => decide (uptoBulkAll ds ≤ 1048576)
def OpenSpec.upto (s : _root_.Go.ChangeSpec) : _root_.Go.OpenSpec := { _root_.Go.OpenSpec.ofChange s with cond := some uptoSmall }

/-- 'laws.FnHamFar', WHERE WHAT IT READS IS OF BULK AT MOST 1048576: true; the input reads as it did. -/
def fnHamFarUptoRow : OpenClaim := { program := "ytjnehfbeokpgpaa", sum := "0bc46037c54641e61aaa12b4d851344fe443f3e9853b727fe3de7a21b988db86", func := "loop.example/cotterpin/laws.FnHamFar", spec := "fnHamFar", apart := false, narrowed := true }
def FnHamFarUptoSaid : Prop := fnHamFarUptoRow.holds Try.pinned (OpenSpec.upto fnHamFarSpec)

/-- 'laws.FnBitsTurn', WHERE WHAT IT READS IS OF BULK AT MOST 1048576: true; the input reads as it did. -/
def fnBitsTurnUptoRow : OpenClaim := { program := "ytjnehfbeokpgpaa", sum := "0bc46037c54641e61aaa12b4d851344fe443f3e9853b727fe3de7a21b988db86", func := "loop.example/cotterpin/laws.FnBitsTurn", spec := "fnBitsTurn", apart := false, narrowed := true }
def FnBitsTurnUptoSaid : Prop := fnBitsTurnUptoRow.holds Try.pinned (OpenSpec.upto fnBitsTurnSpec)

/-- 'laws.FnExactHamFar', WHERE WHAT IT READS IS OF BULK AT MOST 1048576: true; the input reads as it did. -/
def fnExactHamFarUptoRow : OpenClaim := { program := "ytjnehfbeokpgpaa", sum := "0bc46037c54641e61aaa12b4d851344fe443f3e9853b727fe3de7a21b988db86", func := "loop.example/cotterpin/laws.FnExactHamFar", spec := "fnExactHamFar", apart := false, narrowed := true }
def FnExactHamFarUptoSaid : Prop := fnExactHamFarUptoRow.holds Try.pinned (OpenSpec.upto fnExactHamFarSpec)

/-- 'laws.FnExactBitsTurn', WHERE WHAT IT READS IS OF BULK AT MOST 1048576: true; the input reads as it did. -/
def fnExactBitsTurnUptoRow : OpenClaim := { program := "ytjnehfbeokpgpaa", sum := "0bc46037c54641e61aaa12b4d851344fe443f3e9853b727fe3de7a21b988db86", func := "loop.example/cotterpin/laws.FnExactBitsTurn", spec := "fnExactBitsTurn", apart := false, narrowed := true }
def FnExactBitsTurnUptoSaid : Prop := fnExactBitsTurnUptoRow.holds Try.pinned (OpenSpec.upto fnExactBitsTurnSpec)

end Rows
end Go.Proofs.Ytjnehfbeokpgpaa
