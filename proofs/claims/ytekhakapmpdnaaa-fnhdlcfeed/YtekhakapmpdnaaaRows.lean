/-
  No cell of these rows narrows 'for every input' (looked for: loops, veiled, ifaces, maps, wideKeys, modest, calm, conditions, laid).
  DERIVED. THE GIVEN ROWS OF THIS SEAT. 7 by the template 'for every input the law returns true; each argument reads behind the call as it read before'; 0 by the template 'total and deterministic' (their statements: YtekhakapmpdnaaaTotals.lean).
  GIVEN WITH THE SEED: the statements are not yours to turn. If you find one false, say at which input.
  Laid BY PROGRAM, IN A SANDBOX (cutbox-rows.mjs): the forced cells as the released guide's own fill.sh prints them over the translation 6aed74d52b470dd5… (all of the seat's roots in one cut). By AI agents, Wed Nov 11 2026. No macro, syntax, notation, axiom, sorry.
-/
import Derived.Test.YtekhakapmpdnaaaChecked
import GoSem.Claim
import GoSem.ClaimJoined
import GoSem.ClaimMapViews
import Derived.JoinedTies
import Derived.KernelRfl
namespace Go.Proofs.Ytekhakapmpdnaaa
/- THE CELL 'sum', in the pinned program and in every row, IS THE sha256 OF THE DUMP (.gsa) THAT YtekhakapmpdnaaaProg.lean LOADS. Nothing in Lean hashes anything: it is a label: what it is worth is what the hold of that sum in a sandbox is worth. -/
noncomputable def Try.pinned : Pinned := { name := "ytekhakapmpdnaaa", sum := "6aed74d52b470dd54af38e9687ff56f4836011b89afdf5a3dc10f4c0d9f6df65", checked := Try.checked }
namespace Rows
def none {H : Type} : Left H := { results := [], args := [] }

/-- 'laws.FnHdlcPut': WHATEVER THE INPUT: true; the input reads as it did. -/
def fnHdlcPutSpec : ChangeSpec := { name := "fnHdlcPut", fn := fun _ => fun
  | [d] => { results := [.lit (.bool true)], args := [d] }
  | _ => none }
def fnHdlcPutRow : OpenClaim := { program := "ytekhakapmpdnaaa", sum := "6aed74d52b470dd54af38e9687ff56f4836011b89afdf5a3dc10f4c0d9f6df65", func := "loop.example/cotterpin/laws.FnHdlcPut", spec := "fnHdlcPut", inPlace := ["internal/abi.NoEscape"], unfollowed := true, recurses := true, apart := false }
def FnHdlcPutSaid : Prop := fnHdlcPutRow.holds Try.pinned (OpenSpec.ofChange fnHdlcPutSpec)

/-- ITS FALSE NEIGHBOUR: 'it returns false'. Refute it at one input. -/
def fnHdlcPutWrong : ChangeSpec := { name := "fnHdlcPut", fn := fun _ => fun
  | [d] => { results := [.lit (.bool false)], args := [d] }
  | _ => none }
def FnHdlcPutWrongFalsely : Prop := fnHdlcPutRow.holds Try.pinned (OpenSpec.ofChange fnHdlcPutWrong)

/-- 'laws.FnHdlcFeed': WHATEVER THE INPUT: true; the input reads as it did. -/
def fnHdlcFeedSpec : ChangeSpec := { name := "fnHdlcFeed", fn := fun _ => fun
  | [d1, d2] => { results := [.lit (.bool true)], args := [d1, d2] }
  | _ => none }
def fnHdlcFeedRow : OpenClaim := { program := "ytekhakapmpdnaaa", sum := "6aed74d52b470dd54af38e9687ff56f4836011b89afdf5a3dc10f4c0d9f6df65", func := "loop.example/cotterpin/laws.FnHdlcFeed", spec := "fnHdlcFeed", unfollowed := true, recurses := true, apart := false }
def FnHdlcFeedSaid : Prop := fnHdlcFeedRow.holds Try.pinned (OpenSpec.ofChange fnHdlcFeedSpec)

/-- ITS FALSE NEIGHBOUR: 'it returns false'. Refute it at one input. -/
def fnHdlcFeedWrong : ChangeSpec := { name := "fnHdlcFeed", fn := fun _ => fun
  | [d1, d2] => { results := [.lit (.bool false)], args := [d1, d2] }
  | _ => none }
def FnHdlcFeedWrongFalsely : Prop := fnHdlcFeedRow.holds Try.pinned (OpenSpec.ofChange fnHdlcFeedWrong)

/-- 'laws.FnHdlcFlag': WHATEVER THE INPUT: true; the input reads as it did. -/
def fnHdlcFlagSpec : ChangeSpec := { name := "fnHdlcFlag", fn := fun _ => fun
  | [d] => { results := [.lit (.bool true)], args := [d] }
  | _ => none }
def fnHdlcFlagRow : OpenClaim := { program := "ytekhakapmpdnaaa", sum := "6aed74d52b470dd54af38e9687ff56f4836011b89afdf5a3dc10f4c0d9f6df65", func := "loop.example/cotterpin/laws.FnHdlcFlag", spec := "fnHdlcFlag", unfollowed := true, recurses := true, apart := false }
def FnHdlcFlagSaid : Prop := fnHdlcFlagRow.holds Try.pinned (OpenSpec.ofChange fnHdlcFlagSpec)

/-- ITS FALSE NEIGHBOUR: 'it returns false'. Refute it at one input. -/
def fnHdlcFlagWrong : ChangeSpec := { name := "fnHdlcFlag", fn := fun _ => fun
  | [d] => { results := [.lit (.bool false)], args := [d] }
  | _ => none }
def FnHdlcFlagWrongFalsely : Prop := fnHdlcFlagRow.holds Try.pinned (OpenSpec.ofChange fnHdlcFlagWrong)

/-- 'laws.FnHdlcFrame': WHATEVER THE INPUT: true; the input reads as it did. -/
def fnHdlcFrameSpec : ChangeSpec := { name := "fnHdlcFrame", fn := fun _ => fun
  | [d] => { results := [.lit (.bool true)], args := [d] }
  | _ => none }
def fnHdlcFrameRow : OpenClaim := { program := "ytekhakapmpdnaaa", sum := "6aed74d52b470dd54af38e9687ff56f4836011b89afdf5a3dc10f4c0d9f6df65", func := "loop.example/cotterpin/laws.FnHdlcFrame", spec := "fnHdlcFrame", unfollowed := true, recurses := true, apart := false }
def FnHdlcFrameSaid : Prop := fnHdlcFrameRow.holds Try.pinned (OpenSpec.ofChange fnHdlcFrameSpec)

/-- ITS FALSE NEIGHBOUR: 'it returns false'. Refute it at one input. -/
def fnHdlcFrameWrong : ChangeSpec := { name := "fnHdlcFrame", fn := fun _ => fun
  | [d] => { results := [.lit (.bool false)], args := [d] }
  | _ => none }
def FnHdlcFrameWrongFalsely : Prop := fnHdlcFrameRow.holds Try.pinned (OpenSpec.ofChange fnHdlcFrameWrong)

/-- 'laws.FnExactHdlcPut': WHATEVER THE INPUT: true; the input reads as it did. -/
def fnExactHdlcPutSpec : ChangeSpec := { name := "fnExactHdlcPut", fn := fun _ => fun
  | [d1, d2] => { results := [.lit (.bool true)], args := [d1, d2] }
  | _ => none }
def fnExactHdlcPutRow : OpenClaim := { program := "ytekhakapmpdnaaa", sum := "6aed74d52b470dd54af38e9687ff56f4836011b89afdf5a3dc10f4c0d9f6df65", func := "loop.example/cotterpin/laws.FnExactHdlcPut", spec := "fnExactHdlcPut", inPlace := ["internal/abi.NoEscape"], unfollowed := true, recurses := true, apart := false }
def FnExactHdlcPutSaid : Prop := fnExactHdlcPutRow.holds Try.pinned (OpenSpec.ofChange fnExactHdlcPutSpec)

/-- ITS FALSE NEIGHBOUR: 'it returns false'. Refute it at one input. -/
def fnExactHdlcPutWrong : ChangeSpec := { name := "fnExactHdlcPut", fn := fun _ => fun
  | [d1, d2] => { results := [.lit (.bool false)], args := [d1, d2] }
  | _ => none }
def FnExactHdlcPutWrongFalsely : Prop := fnExactHdlcPutRow.holds Try.pinned (OpenSpec.ofChange fnExactHdlcPutWrong)

/-- 'laws.FnExactHdlcOk': WHATEVER THE INPUT: true; the input reads as it did. -/
def fnExactHdlcOkSpec : ChangeSpec := { name := "fnExactHdlcOk", fn := fun _ => fun
  | [d] => { results := [.lit (.bool true)], args := [d] }
  | _ => none }
def fnExactHdlcOkRow : OpenClaim := { program := "ytekhakapmpdnaaa", sum := "6aed74d52b470dd54af38e9687ff56f4836011b89afdf5a3dc10f4c0d9f6df65", func := "loop.example/cotterpin/laws.FnExactHdlcOk", spec := "fnExactHdlcOk", apart := false }
def FnExactHdlcOkSaid : Prop := fnExactHdlcOkRow.holds Try.pinned (OpenSpec.ofChange fnExactHdlcOkSpec)

/-- ITS FALSE NEIGHBOUR: 'it returns false'. Refute it at one input. -/
def fnExactHdlcOkWrong : ChangeSpec := { name := "fnExactHdlcOk", fn := fun _ => fun
  | [d] => { results := [.lit (.bool false)], args := [d] }
  | _ => none }
def FnExactHdlcOkWrongFalsely : Prop := fnExactHdlcOkRow.holds Try.pinned (OpenSpec.ofChange fnExactHdlcOkWrong)

/-- 'laws.FnExactHdlcFeed': WHATEVER THE INPUT: true; the input reads as it did. -/
def fnExactHdlcFeedSpec : ChangeSpec := { name := "fnExactHdlcFeed", fn := fun _ => fun
  | [d1, d2, d3] => { results := [.lit (.bool true)], args := [d1, d2, d3] }
  | _ => none }
def fnExactHdlcFeedRow : OpenClaim := { program := "ytekhakapmpdnaaa", sum := "6aed74d52b470dd54af38e9687ff56f4836011b89afdf5a3dc10f4c0d9f6df65", func := "loop.example/cotterpin/laws.FnExactHdlcFeed", spec := "fnExactHdlcFeed", unfollowed := true, recurses := true, apart := false }
def FnExactHdlcFeedSaid : Prop := fnExactHdlcFeedRow.holds Try.pinned (OpenSpec.ofChange fnExactHdlcFeedSpec)

/-- ITS FALSE NEIGHBOUR: 'it returns false'. Refute it at one input. -/
def fnExactHdlcFeedWrong : ChangeSpec := { name := "fnExactHdlcFeed", fn := fun _ => fun
  | [d1, d2, d3] => { results := [.lit (.bool false)], args := [d1, d2, d3] }
  | _ => none }
def FnExactHdlcFeedWrongFalsely : Prop := fnExactHdlcFeedRow.holds Try.pinned (OpenSpec.ofChange fnExactHdlcFeedWrong)

/- THE SECOND FORM. 'bulk': how many values and letters a reading holds, each counted each time it is reached (what is shared counts as often as it is met; a slice's spare places count too). A statement '..UptoSaid' is the law's where the arguments, and the package variables that the reading takes, are together of bulk at most 1048576: NARROWER than '..Said'. Prove '..Said' where nothing that the law and all that it calls make is longer than what came in: it says more and counts as full. Else prove '..UptoSaid'. A law counts once. -/
mutual
def uptoBulk {H : Type} : DataW H → Nat
  | .lit (.string bytes) => bytes.length + 1
  | .lit _ => 1
  | .nil => 1
  | .ptr d => uptoBulk d + 1
  | .slice elems spare => uptoBulkAll elems + uptoBulkAll spare + 1
  | .agg parts => uptoBulkAll parts + 1
  | .iface _ d => uptoBulk d + 1
  | .map entries => uptoBulkEntries entries + 1
  | .held _ => 1
def uptoBulkAll {H : Type} : List (DataW H) → Nat
  | [] => 0
  | d :: r => uptoBulk d + uptoBulkAll r
def uptoBulkEntries {H : Type} : List (Lit × DataW H) → Nat
  | [] => 0
  | x :: r => uptoBulkEntry x + uptoBulkEntries r
def uptoBulkEntry {H : Type} : Lit × DataW H → Nat
  | (.string bytes, d) => bytes.length + uptoBulk d + 1
  | (_, d) => uptoBulk d + 1
 end
def uptoSmall : (H : Type) → List (DataW H) → Bool := fun _ ds => decide (uptoBulkAll ds ≤ 1048576)
def OpenSpec.upto (s : _root_.Go.ChangeSpec) : _root_.Go.OpenSpec := { _root_.Go.OpenSpec.ofChange s with cond := some uptoSmall }

/-- 'laws.FnHdlcPut', WHERE WHAT IT READS IS OF BULK AT MOST 1048576: true; the input reads as it did. -/
def fnHdlcPutUptoRow : OpenClaim := { program := "ytekhakapmpdnaaa", sum := "6aed74d52b470dd54af38e9687ff56f4836011b89afdf5a3dc10f4c0d9f6df65", func := "loop.example/cotterpin/laws.FnHdlcPut", spec := "fnHdlcPut", inPlace := ["internal/abi.NoEscape"], unfollowed := true, recurses := true, apart := false, narrowed := true }
def FnHdlcPutUptoSaid : Prop := fnHdlcPutUptoRow.holds Try.pinned (OpenSpec.upto fnHdlcPutSpec)

/-- 'laws.FnHdlcFeed', WHERE WHAT IT READS IS OF BULK AT MOST 1048576: true; the input reads as it did. -/
def fnHdlcFeedUptoRow : OpenClaim := { program := "ytekhakapmpdnaaa", sum := "6aed74d52b470dd54af38e9687ff56f4836011b89afdf5a3dc10f4c0d9f6df65", func := "loop.example/cotterpin/laws.FnHdlcFeed", spec := "fnHdlcFeed", unfollowed := true, recurses := true, apart := false, narrowed := true }
def FnHdlcFeedUptoSaid : Prop := fnHdlcFeedUptoRow.holds Try.pinned (OpenSpec.upto fnHdlcFeedSpec)

/-- 'laws.FnHdlcFlag', WHERE WHAT IT READS IS OF BULK AT MOST 1048576: true; the input reads as it did. -/
def fnHdlcFlagUptoRow : OpenClaim := { program := "ytekhakapmpdnaaa", sum := "6aed74d52b470dd54af38e9687ff56f4836011b89afdf5a3dc10f4c0d9f6df65", func := "loop.example/cotterpin/laws.FnHdlcFlag", spec := "fnHdlcFlag", unfollowed := true, recurses := true, apart := false, narrowed := true }
def FnHdlcFlagUptoSaid : Prop := fnHdlcFlagUptoRow.holds Try.pinned (OpenSpec.upto fnHdlcFlagSpec)

/-- 'laws.FnHdlcFrame', WHERE WHAT IT READS IS OF BULK AT MOST 1048576: true; the input reads as it did. -/
def fnHdlcFrameUptoRow : OpenClaim := { program := "ytekhakapmpdnaaa", sum := "6aed74d52b470dd54af38e9687ff56f4836011b89afdf5a3dc10f4c0d9f6df65", func := "loop.example/cotterpin/laws.FnHdlcFrame", spec := "fnHdlcFrame", unfollowed := true, recurses := true, apart := false, narrowed := true }
def FnHdlcFrameUptoSaid : Prop := fnHdlcFrameUptoRow.holds Try.pinned (OpenSpec.upto fnHdlcFrameSpec)

/-- 'laws.FnExactHdlcPut', WHERE WHAT IT READS IS OF BULK AT MOST 1048576: true; the input reads as it did. -/
def fnExactHdlcPutUptoRow : OpenClaim := { program := "ytekhakapmpdnaaa", sum := "6aed74d52b470dd54af38e9687ff56f4836011b89afdf5a3dc10f4c0d9f6df65", func := "loop.example/cotterpin/laws.FnExactHdlcPut", spec := "fnExactHdlcPut", inPlace := ["internal/abi.NoEscape"], unfollowed := true, recurses := true, apart := false, narrowed := true }
def FnExactHdlcPutUptoSaid : Prop := fnExactHdlcPutUptoRow.holds Try.pinned (OpenSpec.upto fnExactHdlcPutSpec)

/-- 'laws.FnExactHdlcOk', WHERE WHAT IT READS IS OF BULK AT MOST 1048576: true; the input reads as it did. -/
def fnExactHdlcOkUptoRow : OpenClaim := { program := "ytekhakapmpdnaaa", sum := "6aed74d52b470dd54af38e9687ff56f4836011b89afdf5a3dc10f4c0d9f6df65", func := "loop.example/cotterpin/laws.FnExactHdlcOk", spec := "fnExactHdlcOk", apart := false, narrowed := true }
def FnExactHdlcOkUptoSaid : Prop := fnExactHdlcOkUptoRow.holds Try.pinned (OpenSpec.upto fnExactHdlcOkSpec)

/-- 'laws.FnExactHdlcFeed', WHERE WHAT IT READS IS OF BULK AT MOST 1048576: true; the input reads as it did. -/
def fnExactHdlcFeedUptoRow : OpenClaim := { program := "ytekhakapmpdnaaa", sum := "6aed74d52b470dd54af38e9687ff56f4836011b89afdf5a3dc10f4c0d9f6df65", func := "loop.example/cotterpin/laws.FnExactHdlcFeed", spec := "fnExactHdlcFeed", unfollowed := true, recurses := true, apart := false, narrowed := true }
def FnExactHdlcFeedUptoSaid : Prop := fnExactHdlcFeedUptoRow.holds Try.pinned (OpenSpec.upto fnExactHdlcFeedSpec)

end Rows
end Go.Proofs.Ytekhakapmpdnaaa
