/-
  No cell of these rows narrows 'for every input' (looked for: loops, veiled, ifaces, maps, wideKeys, modest, calm, conditions, laid).
  DERIVED. THE GIVEN ROWS OF THIS SEAT. 10 by the template 'for every input the law returns true; each argument reads behind the call as it read before'; 0 by the template 'total and deterministic' (their statements: YtfojlpnnhghcbaaTotals.lean).
  GIVEN WITH THE SEED: the statements are not yours to turn. If you find one false, say at which input.
  Laid BY PROGRAM, IN A SANDBOX (cutbox-rows.mjs): the forced cells as the released guide's own fill.sh prints them over the translation e4b09781f6b11d1d… (all of the seat's roots in one cut). By AI agents, Wed Nov 11 2026. No macro, syntax, notation, axiom, sorry.
-/
import Derived.Test.YtfojlpnnhghcbaaChecked
import GoSem.Claim
import GoSem.ClaimJoined
import GoSem.ClaimMapViews
import Derived.JoinedTies
import Derived.KernelRfl
namespace Go.Proofs.Ytfojlpnnhghcbaa
/- THE CELL 'sum', in the pinned program and in every row, IS THE sha256 OF THE DUMP (.gsa) THAT YtfojlpnnhghcbaaProg.lean LOADS. Nothing in Lean hashes anything: it is a label: what it is worth is what the hold of that sum in a sandbox is worth. -/
noncomputable def Try.pinned : Pinned := { name := "ytfojlpnnhghcbaa", sum := "e4b09781f6b11d1d80d63f5e952f18a623aa24f6c29c276b0b15ea8cbd3ab443", checked := Try.checked }
namespace Rows
def none {H : Type} : Left H := { results := [], args := [] }

/-- 'laws.FnFindSend': WHATEVER THE INPUT: true; the input reads as it did. -/
def fnFindSendSpec : ChangeSpec := { name := "fnFindSend", fn := fun _ => fun
  | [d] => { results := [.lit (.bool true)], args := [d] }
  | _ => none }
def fnFindSendRow : OpenClaim := { program := "ytfojlpnnhghcbaa", sum := "e4b09781f6b11d1d80d63f5e952f18a623aa24f6c29c276b0b15ea8cbd3ab443", func := "loop.example/cotterpin/laws.FnFindSend", spec := "fnFindSend", inPlace := ["internal/bytealg.IndexByteString"], unfollowed := true, recurses := true, apart := false }
def FnFindSendSaid : Prop := fnFindSendRow.holds Try.pinned (OpenSpec.ofChange fnFindSendSpec)

/-- ITS FALSE NEIGHBOUR: 'it returns false'. Refute it at one input. -/
def fnFindSendWrong : ChangeSpec := { name := "fnFindSend", fn := fun _ => fun
  | [d] => { results := [.lit (.bool false)], args := [d] }
  | _ => none }
def FnFindSendWrongFalsely : Prop := fnFindSendRow.holds Try.pinned (OpenSpec.ofChange fnFindSendWrong)

/-- 'laws.FnFindFeed': WHATEVER THE INPUT: true; the input reads as it did. -/
def fnFindFeedSpec : ChangeSpec := { name := "fnFindFeed", fn := fun _ => fun
  | [d1, d2] => { results := [.lit (.bool true)], args := [d1, d2] }
  | _ => none }
def fnFindFeedRow : OpenClaim := { program := "ytfojlpnnhghcbaa", sum := "e4b09781f6b11d1d80d63f5e952f18a623aa24f6c29c276b0b15ea8cbd3ab443", func := "loop.example/cotterpin/laws.FnFindFeed", spec := "fnFindFeed", inPlace := ["internal/bytealg.IndexByteString"], unfollowed := true, recurses := true, apart := false }
def FnFindFeedSaid : Prop := fnFindFeedRow.holds Try.pinned (OpenSpec.ofChange fnFindFeedSpec)

/-- ITS FALSE NEIGHBOUR: 'it returns false'. Refute it at one input. -/
def fnFindFeedWrong : ChangeSpec := { name := "fnFindFeed", fn := fun _ => fun
  | [d1, d2] => { results := [.lit (.bool false)], args := [d1, d2] }
  | _ => none }
def FnFindFeedWrongFalsely : Prop := fnFindFeedRow.holds Try.pinned (OpenSpec.ofChange fnFindFeedWrong)

/-- 'laws.FnFindAll': WHATEVER THE INPUT: true; the input reads as it did. -/
def fnFindAllSpec : ChangeSpec := { name := "fnFindAll", fn := fun _ => fun
  | [d] => { results := [.lit (.bool true)], args := [d] }
  | _ => none }
def fnFindAllRow : OpenClaim := { program := "ytfojlpnnhghcbaa", sum := "e4b09781f6b11d1d80d63f5e952f18a623aa24f6c29c276b0b15ea8cbd3ab443", func := "loop.example/cotterpin/laws.FnFindAll", spec := "fnFindAll", inPlace := ["internal/bytealg.IndexByteString"], unfollowed := true, recurses := true, apart := false }
def FnFindAllSaid : Prop := fnFindAllRow.holds Try.pinned (OpenSpec.ofChange fnFindAllSpec)

/-- ITS FALSE NEIGHBOUR: 'it returns false'. Refute it at one input. -/
def fnFindAllWrong : ChangeSpec := { name := "fnFindAll", fn := fun _ => fun
  | [d] => { results := [.lit (.bool false)], args := [d] }
  | _ => none }
def FnFindAllWrongFalsely : Prop := fnFindAllRow.holds Try.pinned (OpenSpec.ofChange fnFindAllWrong)

/-- 'laws.FnFindMany': WHATEVER THE INPUT: true; the input reads as it did. -/
def fnFindManySpec : ChangeSpec := { name := "fnFindMany", fn := fun _ => fun
  | [d1, d2] => { results := [.lit (.bool true)], args := [d1, d2] }
  | _ => none }
def fnFindManyRow : OpenClaim := { program := "ytfojlpnnhghcbaa", sum := "e4b09781f6b11d1d80d63f5e952f18a623aa24f6c29c276b0b15ea8cbd3ab443", func := "loop.example/cotterpin/laws.FnFindMany", spec := "fnFindMany", inPlace := ["internal/bytealg.IndexByteString"], unfollowed := true, recurses := true, apart := false }
def FnFindManySaid : Prop := fnFindManyRow.holds Try.pinned (OpenSpec.ofChange fnFindManySpec)

/-- ITS FALSE NEIGHBOUR: 'it returns false'. Refute it at one input. -/
def fnFindManyWrong : ChangeSpec := { name := "fnFindMany", fn := fun _ => fun
  | [d1, d2] => { results := [.lit (.bool false)], args := [d1, d2] }
  | _ => none }
def FnFindManyWrongFalsely : Prop := fnFindManyRow.holds Try.pinned (OpenSpec.ofChange fnFindManyWrong)

/-- 'laws.FnFindCount': WHATEVER THE INPUT: true; the input reads as it did. -/
def fnFindCountSpec : ChangeSpec := { name := "fnFindCount", fn := fun _ => fun
  | [d] => { results := [.lit (.bool true)], args := [d] }
  | _ => none }
def fnFindCountRow : OpenClaim := { program := "ytfojlpnnhghcbaa", sum := "e4b09781f6b11d1d80d63f5e952f18a623aa24f6c29c276b0b15ea8cbd3ab443", func := "loop.example/cotterpin/laws.FnFindCount", spec := "fnFindCount", apart := false }
def FnFindCountSaid : Prop := fnFindCountRow.holds Try.pinned (OpenSpec.ofChange fnFindCountSpec)

/-- ITS FALSE NEIGHBOUR: 'it returns false'. Refute it at one input. -/
def fnFindCountWrong : ChangeSpec := { name := "fnFindCount", fn := fun _ => fun
  | [d] => { results := [.lit (.bool false)], args := [d] }
  | _ => none }
def FnFindCountWrongFalsely : Prop := fnFindCountRow.holds Try.pinned (OpenSpec.ofChange fnFindCountWrong)

/-- 'laws.FnExactConfOk': WHATEVER THE INPUT: true; the input reads as it did. -/
def fnExactConfOkSpec : ChangeSpec := { name := "fnExactConfOk", fn := fun _ => fun
  | [d] => { results := [.lit (.bool true)], args := [d] }
  | _ => none }
def fnExactConfOkRow : OpenClaim := { program := "ytfojlpnnhghcbaa", sum := "e4b09781f6b11d1d80d63f5e952f18a623aa24f6c29c276b0b15ea8cbd3ab443", func := "loop.example/cotterpin/laws.FnExactConfOk", spec := "fnExactConfOk", apart := false }
def FnExactConfOkSaid : Prop := fnExactConfOkRow.holds Try.pinned (OpenSpec.ofChange fnExactConfOkSpec)

/-- ITS FALSE NEIGHBOUR: 'it returns false'. Refute it at one input. -/
def fnExactConfOkWrong : ChangeSpec := { name := "fnExactConfOk", fn := fun _ => fun
  | [d] => { results := [.lit (.bool false)], args := [d] }
  | _ => none }
def FnExactConfOkWrongFalsely : Prop := fnExactConfOkRow.holds Try.pinned (OpenSpec.ofChange fnExactConfOkWrong)

/-- 'laws.FnExactFindSend': WHATEVER THE INPUT: true; the input reads as it did. -/
def fnExactFindSendSpec : ChangeSpec := { name := "fnExactFindSend", fn := fun _ => fun
  | [d1, d2] => { results := [.lit (.bool true)], args := [d1, d2] }
  | _ => none }
def fnExactFindSendRow : OpenClaim := { program := "ytfojlpnnhghcbaa", sum := "e4b09781f6b11d1d80d63f5e952f18a623aa24f6c29c276b0b15ea8cbd3ab443", func := "loop.example/cotterpin/laws.FnExactFindSend", spec := "fnExactFindSend", unfollowed := true, recurses := true, apart := false }
def FnExactFindSendSaid : Prop := fnExactFindSendRow.holds Try.pinned (OpenSpec.ofChange fnExactFindSendSpec)

/-- ITS FALSE NEIGHBOUR: 'it returns false'. Refute it at one input. -/
def fnExactFindSendWrong : ChangeSpec := { name := "fnExactFindSend", fn := fun _ => fun
  | [d1, d2] => { results := [.lit (.bool false)], args := [d1, d2] }
  | _ => none }
def FnExactFindSendWrongFalsely : Prop := fnExactFindSendRow.holds Try.pinned (OpenSpec.ofChange fnExactFindSendWrong)

/-- 'laws.FnExactFindOk': WHATEVER THE INPUT: true; the input reads as it did. -/
def fnExactFindOkSpec : ChangeSpec := { name := "fnExactFindOk", fn := fun _ => fun
  | [d1, d2] => { results := [.lit (.bool true)], args := [d1, d2] }
  | _ => none }
def fnExactFindOkRow : OpenClaim := { program := "ytfojlpnnhghcbaa", sum := "e4b09781f6b11d1d80d63f5e952f18a623aa24f6c29c276b0b15ea8cbd3ab443", func := "loop.example/cotterpin/laws.FnExactFindOk", spec := "fnExactFindOk", inPlace := ["internal/bytealg.IndexByteString"], unfollowed := true, recurses := true, apart := false }
def FnExactFindOkSaid : Prop := fnExactFindOkRow.holds Try.pinned (OpenSpec.ofChange fnExactFindOkSpec)

/-- ITS FALSE NEIGHBOUR: 'it returns false'. Refute it at one input. -/
def fnExactFindOkWrong : ChangeSpec := { name := "fnExactFindOk", fn := fun _ => fun
  | [d1, d2] => { results := [.lit (.bool false)], args := [d1, d2] }
  | _ => none }
def FnExactFindOkWrongFalsely : Prop := fnExactFindOkRow.holds Try.pinned (OpenSpec.ofChange fnExactFindOkWrong)

/-- 'laws.FnExactFindFeed': WHATEVER THE INPUT: true; the input reads as it did. -/
def fnExactFindFeedSpec : ChangeSpec := { name := "fnExactFindFeed", fn := fun _ => fun
  | [d1, d2, d3] => { results := [.lit (.bool true)], args := [d1, d2, d3] }
  | _ => none }
def fnExactFindFeedRow : OpenClaim := { program := "ytfojlpnnhghcbaa", sum := "e4b09781f6b11d1d80d63f5e952f18a623aa24f6c29c276b0b15ea8cbd3ab443", func := "loop.example/cotterpin/laws.FnExactFindFeed", spec := "fnExactFindFeed", inPlace := ["internal/bytealg.IndexByteString"], unfollowed := true, recurses := true, apart := false }
def FnExactFindFeedSaid : Prop := fnExactFindFeedRow.holds Try.pinned (OpenSpec.ofChange fnExactFindFeedSpec)

/-- ITS FALSE NEIGHBOUR: 'it returns false'. Refute it at one input. -/
def fnExactFindFeedWrong : ChangeSpec := { name := "fnExactFindFeed", fn := fun _ => fun
  | [d1, d2, d3] => { results := [.lit (.bool false)], args := [d1, d2, d3] }
  | _ => none }
def FnExactFindFeedWrongFalsely : Prop := fnExactFindFeedRow.holds Try.pinned (OpenSpec.ofChange fnExactFindFeedWrong)

/-- 'laws.FnExactFindAll': WHATEVER THE INPUT: true; the input reads as it did. -/
def fnExactFindAllSpec : ChangeSpec := { name := "fnExactFindAll", fn := fun _ => fun
  | [d1, d2] => { results := [.lit (.bool true)], args := [d1, d2] }
  | _ => none }
def fnExactFindAllRow : OpenClaim := { program := "ytfojlpnnhghcbaa", sum := "e4b09781f6b11d1d80d63f5e952f18a623aa24f6c29c276b0b15ea8cbd3ab443", func := "loop.example/cotterpin/laws.FnExactFindAll", spec := "fnExactFindAll", inPlace := ["internal/bytealg.IndexByteString"], unfollowed := true, recurses := true, apart := false }
def FnExactFindAllSaid : Prop := fnExactFindAllRow.holds Try.pinned (OpenSpec.ofChange fnExactFindAllSpec)

/-- ITS FALSE NEIGHBOUR: 'it returns false'. Refute it at one input. -/
def fnExactFindAllWrong : ChangeSpec := { name := "fnExactFindAll", fn := fun _ => fun
  | [d1, d2] => { results := [.lit (.bool false)], args := [d1, d2] }
  | _ => none }
def FnExactFindAllWrongFalsely : Prop := fnExactFindAllRow.holds Try.pinned (OpenSpec.ofChange fnExactFindAllWrong)

/- THE SECOND FORM. 'bulk': how many values and letters a reading holds, each counted each time it is reached (what is shared counts as often as it is met; a slice's spare places count too). A statement '..UptoSaid' is the law's where the arguments, and the package variables that the reading takes, are together of bulk at most 1048576: NARROWER than '..Said'. Prove '..Said' where nothing that the law and all that it calls make is longer than what came in: it says more and counts as full. Else prove '..UptoSaid'. A law counts once. -/
mutual
def uptoBulk {H : Type} : DataW H → Nat
  | .lit (.string bytes) => bytes.length + 1
  | .lit _ => 1
  | .nil => 1
  | .ptr d => uptoBulk d + 1
  | .slice elems spare => uptoBulkAll elems + uptoBulkAll spare + 1
  | .agg parts => uptoBulkAll parts + 1
  | .iface _ d => uptoBulk d + 1
  | .map entries => uptoBulkEntries entries + 1
  | .held _ => 1
def uptoBulkAll {H : Type} : List (DataW H) → Nat
  | [] => 0
  | d :: r => uptoBulk d + uptoBulkAll r
def uptoBulkEntries {H : Type} : List (Lit × DataW H) → Nat
  | [] => 0
  | x :: r => uptoBulkEntry x + uptoBulkEntries r
def uptoBulkEntry {H : Type} : Lit × DataW H → Nat
  | (.string bytes, d) => bytes.length + uptoBulk d + 1
  | (_, d) => uptoBulk d + 1
 end
def uptoSmall : (H : Type) → List (DataW H) → Bool := fun _ ds => decide (uptoBulkAll ds ≤ 1048576)
def OpenSpec.upto (s : _root_.Go.ChangeSpec) : _root_.Go.OpenSpec := { _root_.Go.OpenSpec.ofChange s with cond := some uptoSmall }

/-- 'laws.FnFindSend', WHERE WHAT IT READS IS OF BULK AT MOST 1048576: true; the input reads as it did. -/
def fnFindSendUptoRow : OpenClaim := { program := "ytfojlpnnhghcbaa", sum := "e4b09781f6b11d1d80d63f5e952f18a623aa24f6c29c276b0b15ea8cbd3ab443", func := "loop.example/cotterpin/laws.FnFindSend", spec := "fnFindSend", inPlace := ["internal/bytealg.IndexByteString"], unfollowed := true, recurses := true, apart := false, narrowed := true }
def FnFindSendUptoSaid : Prop := fnFindSendUptoRow.holds Try.pinned (OpenSpec.upto fnFindSendSpec)

/-- 'laws.FnFindFeed', WHERE WHAT IT READS IS OF BULK AT MOST 1048576: true; the input reads as it did. -/
def fnFindFeedUptoRow : OpenClaim := { program := "ytfojlpnnhghcbaa", sum := "e4b09781f6b11d1d80d63f5e952f18a623aa24f6c29c276b0b15ea8cbd3ab443", func := "loop.example/cotterpin/laws.FnFindFeed", spec := "fnFindFeed", inPlace := ["internal/bytealg.IndexByteString"], unfollowed := true, recurses := true, apart := false, narrowed := true }
def FnFindFeedUptoSaid : Prop := fnFindFeedUptoRow.holds Try.pinned (OpenSpec.upto fnFindFeedSpec)

/-- 'laws.FnFindAll', WHERE WHAT IT READS IS OF BULK AT MOST 1048576: true; the input reads as it did. -/
def fnFindAllUptoRow : OpenClaim := { program := "ytfojlpnnhghcbaa", sum := "e4b09781f6b11d1d80d63f5e952f18a623aa24f6c29c276b0b15ea8cbd3ab443", func := "loop.example/cotterpin/laws.FnFindAll", spec := "fnFindAll", inPlace := ["internal/bytealg.IndexByteString"], unfollowed := true, recurses := true, apart := false, narrowed := true }
def FnFindAllUptoSaid : Prop := fnFindAllUptoRow.holds Try.pinned (OpenSpec.upto fnFindAllSpec)

/-- 'laws.FnFindMany', WHERE WHAT IT READS IS OF BULK AT MOST 1048576: true; the input reads as it did. -/
def fnFindManyUptoRow : OpenClaim := { program := "ytfojlpnnhghcbaa", sum := "e4b09781f6b11d1d80d63f5e952f18a623aa24f6c29c276b0b15ea8cbd3ab443", func := "loop.example/cotterpin/laws.FnFindMany", spec := "fnFindMany", inPlace := ["internal/bytealg.IndexByteString"], unfollowed := true, recurses := true, apart := false, narrowed := true }
def FnFindManyUptoSaid : Prop := fnFindManyUptoRow.holds Try.pinned (OpenSpec.upto fnFindManySpec)

/-- 'laws.FnFindCount', WHERE WHAT IT READS IS OF BULK AT MOST 1048576: true; the input reads as it did. -/
def fnFindCountUptoRow : OpenClaim := { program := "ytfojlpnnhghcbaa", sum := "e4b09781f6b11d1d80d63f5e952f18a623aa24f6c29c276b0b15ea8cbd3ab443", func := "loop.example/cotterpin/laws.FnFindCount", spec := "fnFindCount", apart := false, narrowed := true }
def FnFindCountUptoSaid : Prop := fnFindCountUptoRow.holds Try.pinned (OpenSpec.upto fnFindCountSpec)

/-- 'laws.FnExactConfOk', WHERE WHAT IT READS IS OF BULK AT MOST 1048576: true; the input reads as it did. -/
def fnExactConfOkUptoRow : OpenClaim := { program := "ytfojlpnnhghcbaa", sum := "e4b09781f6b11d1d80d63f5e952f18a623aa24f6c29c276b0b15ea8cbd3ab443", func := "loop.example/cotterpin/laws.FnExactConfOk", spec := "fnExactConfOk", apart := false, narrowed := true }
def FnExactConfOkUptoSaid : Prop := fnExactConfOkUptoRow.holds Try.pinned (OpenSpec.upto fnExactConfOkSpec)

/-- 'laws.FnExactFindSend', WHERE WHAT IT READS IS OF BULK AT MOST 1048576: true; the input reads as it did. -/
def fnExactFindSendUptoRow : OpenClaim := { program := "ytfojlpnnhghcbaa", sum := "e4b09781f6b11d1d80d63f5e952f18a623aa24f6c29c276b0b15ea8cbd3ab443", func := "loop.example/cotterpin/laws.FnExactFindSend", spec := "fnExactFindSend", unfollowed := true, recurses := true, apart := false, narrowed := true }
def FnExactFindSendUptoSaid : Prop := fnExactFindSendUptoRow.holds Try.pinned (OpenSpec.upto fnExactFindSendSpec)

/-- 'laws.FnExactFindOk', WHERE WHAT IT READS IS OF BULK AT MOST 1048576: true; the input reads as it did. -/
def fnExactFindOkUptoRow : OpenClaim := { program := "ytfojlpnnhghcbaa", sum := "e4b09781f6b11d1d80d63f5e952f18a623aa24f6c29c276b0b15ea8cbd3ab443", func := "loop.example/cotterpin/laws.FnExactFindOk", spec := "fnExactFindOk", inPlace := ["internal/bytealg.IndexByteString"], unfollowed := true, recurses := true, apart := false, narrowed := true }
def FnExactFindOkUptoSaid : Prop := fnExactFindOkUptoRow.holds Try.pinned (OpenSpec.upto fnExactFindOkSpec)

/-- 'laws.FnExactFindFeed', WHERE WHAT IT READS IS OF BULK AT MOST 1048576: true; the input reads as it did. -/
def fnExactFindFeedUptoRow : OpenClaim := { program := "ytfojlpnnhghcbaa", sum := "e4b09781f6b11d1d80d63f5e952f18a623aa24f6c29c276b0b15ea8cbd3ab443", func := "loop.example/cotterpin/laws.FnExactFindFeed", spec := "fnExactFindFeed", inPlace := ["internal/bytealg.IndexByteString"], unfollowed := true, recurses := true, apart := false, narrowed := true }
def FnExactFindFeedUptoSaid : Prop := fnExactFindFeedUptoRow.holds Try.pinned (OpenSpec.upto fnExactFindFeedSpec)

/-- 'laws.FnExactFindAll', WHERE WHAT IT READS IS OF BULK AT MOST 1048576: true; the input reads as it did. -/
def fnExactFindAllUptoRow : OpenClaim := { program := "ytfojlpnnhghcbaa", sum := "e4b09781f6b11d1d80d63f5e952f18a623aa24f6c29c276b0b15ea8cbd3ab443", func := "loop.example/cotterpin/laws.FnExactFindAll", spec := "fnExactFindAll", inPlace := ["internal/bytealg.IndexByteString"], unfollowed := true, recurses := true, apart := false, narrowed := true }
def FnExactFindAllUptoSaid : Prop := fnExactFindAllUptoRow.holds Try.pinned (OpenSpec.upto fnExactFindAllSpec)

end Rows
end Go.Proofs.Ytfojlpnnhghcbaa
