/-
  No cell of these rows narrows 'for every input' (looked for: loops, veiled, ifaces, maps, wideKeys, modest, calm, conditions, laid).
  DERIVED. THE GIVEN ROWS OF THIS SEAT. 10 by the template 'for every input the law returns true; each argument reads behind the call as it read before'; 0 by the template 'total and deterministic' (their statements: YtkeeigaohfillaaTotals.lean).
  GIVEN WITH THE SEED: the statements are not yours to turn. If you find one false, say at which input.
  Laid BY PROGRAM, IN A SANDBOX (cutbox-rows.mjs): the forced cells as the released guide's own fill.sh prints them over the translation 69b7b4c0e31e00c0… (all of the seat's roots in one cut). By AI agents, Wed Nov 11 2026. No macro, syntax, notation, axiom, sorry.
-/
import Derived.Test.YtkeeigaohfillaaChecked
import GoSem.Claim
import GoSem.ClaimJoined
import GoSem.ClaimMapViews
import Derived.JoinedTies
import Derived.KernelRfl
namespace Go.Proofs.Ytkeeigaohfillaa
/- THE CELL 'sum', in the pinned program and in every row, IS THE sha256 OF THE DUMP (.gsa) THAT YtkeeigaohfillaaProg.lean LOADS. Nothing in Lean hashes anything: it is a label: what it is worth is what the hold of that sum in a sandbox is worth. -/
noncomputable def Try.pinned : Pinned := { name := "ytkeeigaohfillaa", sum := "69b7b4c0e31e00c01d549396dcad47d9139d84d8fa4645c921d41098781e14b8", checked := Try.checked }
namespace Rows
def none {H : Type} : Left H := { results := [], args := [] }

/-- 'laws.FnManPut': WHATEVER THE INPUT: true; the input reads as it did. -/
def fnManPutSpec : ChangeSpec := { name := "fnManPut", fn := fun _ => fun
  | [d] => { results := [.lit (.bool true)], args := [d] }
  | _ => none }
def fnManPutRow : OpenClaim := { program := "ytkeeigaohfillaa", sum := "69b7b4c0e31e00c01d549396dcad47d9139d84d8fa4645c921d41098781e14b8", func := "loop.example/cotterpin/laws.FnManPut", spec := "fnManPut", inPlace := ["internal/bytealg.CountString", "internal/bytealg.IndexByteString", "internal/bytealg.IndexString"], unfollowed := true, recurses := true, named := ["internal/bytealg.MaxLen"], apart := false }
def FnManPutSaid : Prop := fnManPutRow.holds Try.pinned (OpenSpec.ofChange fnManPutSpec)

/-- ITS FALSE NEIGHBOUR: 'it returns false'. Refute it at one input. -/
def fnManPutWrong : ChangeSpec := { name := "fnManPut", fn := fun _ => fun
  | [d] => { results := [.lit (.bool false)], args := [d] }
  | _ => none }
def FnManPutWrongFalsely : Prop := fnManPutRow.holds Try.pinned (OpenSpec.ofChange fnManPutWrong)

/-- 'laws.FnManGet': WHATEVER THE INPUT: true; the input reads as it did. -/
def fnManGetSpec : ChangeSpec := { name := "fnManGet", fn := fun _ => fun
  | [d] => { results := [.lit (.bool true)], args := [d] }
  | _ => none }
def fnManGetRow : OpenClaim := { program := "ytkeeigaohfillaa", sum := "69b7b4c0e31e00c01d549396dcad47d9139d84d8fa4645c921d41098781e14b8", func := "loop.example/cotterpin/laws.FnManGet", spec := "fnManGet", apart := false }
def FnManGetSaid : Prop := fnManGetRow.holds Try.pinned (OpenSpec.ofChange fnManGetSpec)

/-- ITS FALSE NEIGHBOUR: 'it returns false'. Refute it at one input. -/
def fnManGetWrong : ChangeSpec := { name := "fnManGet", fn := fun _ => fun
  | [d] => { results := [.lit (.bool false)], args := [d] }
  | _ => none }
def FnManGetWrongFalsely : Prop := fnManGetRow.holds Try.pinned (OpenSpec.ofChange fnManGetWrong)

/-- 'laws.FnEdgePut': WHATEVER THE INPUT: true; the input reads as it did. -/
def fnEdgePutSpec : ChangeSpec := { name := "fnEdgePut", fn := fun _ => fun
  | [d] => { results := [.lit (.bool true)], args := [d] }
  | _ => none }
def fnEdgePutRow : OpenClaim := { program := "ytkeeigaohfillaa", sum := "69b7b4c0e31e00c01d549396dcad47d9139d84d8fa4645c921d41098781e14b8", func := "loop.example/cotterpin/laws.FnEdgePut", spec := "fnEdgePut", inPlace := ["internal/bytealg.CountString", "internal/bytealg.IndexByteString", "internal/bytealg.IndexString"], unfollowed := true, recurses := true, named := ["internal/bytealg.MaxLen"], apart := false }
def FnEdgePutSaid : Prop := fnEdgePutRow.holds Try.pinned (OpenSpec.ofChange fnEdgePutSpec)

/-- ITS FALSE NEIGHBOUR: 'it returns false'. Refute it at one input. -/
def fnEdgePutWrong : ChangeSpec := { name := "fnEdgePut", fn := fun _ => fun
  | [d] => { results := [.lit (.bool false)], args := [d] }
  | _ => none }
def FnEdgePutWrongFalsely : Prop := fnEdgePutRow.holds Try.pinned (OpenSpec.ofChange fnEdgePutWrong)

/-- 'laws.FnEdgeGet': WHATEVER THE INPUT: true; the input reads as it did. -/
def fnEdgeGetSpec : ChangeSpec := { name := "fnEdgeGet", fn := fun _ => fun
  | [d] => { results := [.lit (.bool true)], args := [d] }
  | _ => none }
def fnEdgeGetRow : OpenClaim := { program := "ytkeeigaohfillaa", sum := "69b7b4c0e31e00c01d549396dcad47d9139d84d8fa4645c921d41098781e14b8", func := "loop.example/cotterpin/laws.FnEdgeGet", spec := "fnEdgeGet", unfollowed := true, recurses := true, apart := false }
def FnEdgeGetSaid : Prop := fnEdgeGetRow.holds Try.pinned (OpenSpec.ofChange fnEdgeGetSpec)

/-- ITS FALSE NEIGHBOUR: 'it returns false'. Refute it at one input. -/
def fnEdgeGetWrong : ChangeSpec := { name := "fnEdgeGet", fn := fun _ => fun
  | [d] => { results := [.lit (.bool false)], args := [d] }
  | _ => none }
def FnEdgeGetWrongFalsely : Prop := fnEdgeGetRow.holds Try.pinned (OpenSpec.ofChange fnEdgeGetWrong)

/-- 'laws.FnWaveMany': WHATEVER THE INPUT: true; the input reads as it did. -/
def fnWaveManySpec : ChangeSpec := { name := "fnWaveMany", fn := fun _ => fun
  | [d1, d2] => { results := [.lit (.bool true)], args := [d1, d2] }
  | _ => none }
def fnWaveManyRow : OpenClaim := { program := "ytkeeigaohfillaa", sum := "69b7b4c0e31e00c01d549396dcad47d9139d84d8fa4645c921d41098781e14b8", func := "loop.example/cotterpin/laws.FnWaveMany", spec := "fnWaveMany", inPlace := ["internal/bytealg.CountString", "internal/bytealg.IndexByteString", "internal/bytealg.IndexString"], unfollowed := true, recurses := true, named := ["internal/bytealg.MaxLen"], apart := false }
def FnWaveManySaid : Prop := fnWaveManyRow.holds Try.pinned (OpenSpec.ofChange fnWaveManySpec)

/-- ITS FALSE NEIGHBOUR: 'it returns false'. Refute it at one input. -/
def fnWaveManyWrong : ChangeSpec := { name := "fnWaveMany", fn := fun _ => fun
  | [d1, d2] => { results := [.lit (.bool false)], args := [d1, d2] }
  | _ => none }
def FnWaveManyWrongFalsely : Prop := fnWaveManyRow.holds Try.pinned (OpenSpec.ofChange fnWaveManyWrong)

/-- 'laws.FnExactManPut': WHATEVER THE INPUT: true; the input reads as it did. -/
def fnExactManPutSpec : ChangeSpec := { name := "fnExactManPut", fn := fun _ => fun
  | [d] => { results := [.lit (.bool true)], args := [d] }
  | _ => none }
def fnExactManPutRow : OpenClaim := { program := "ytkeeigaohfillaa", sum := "69b7b4c0e31e00c01d549396dcad47d9139d84d8fa4645c921d41098781e14b8", func := "loop.example/cotterpin/laws.FnExactManPut", spec := "fnExactManPut", apart := false }
def FnExactManPutSaid : Prop := fnExactManPutRow.holds Try.pinned (OpenSpec.ofChange fnExactManPutSpec)

/-- ITS FALSE NEIGHBOUR: 'it returns false'. Refute it at one input. -/
def fnExactManPutWrong : ChangeSpec := { name := "fnExactManPut", fn := fun _ => fun
  | [d] => { results := [.lit (.bool false)], args := [d] }
  | _ => none }
def FnExactManPutWrongFalsely : Prop := fnExactManPutRow.holds Try.pinned (OpenSpec.ofChange fnExactManPutWrong)

/-- 'laws.FnExactManGet': WHATEVER THE INPUT: true; the input reads as it did. -/
def fnExactManGetSpec : ChangeSpec := { name := "fnExactManGet", fn := fun _ => fun
  | [d] => { results := [.lit (.bool true)], args := [d] }
  | _ => none }
def fnExactManGetRow : OpenClaim := { program := "ytkeeigaohfillaa", sum := "69b7b4c0e31e00c01d549396dcad47d9139d84d8fa4645c921d41098781e14b8", func := "loop.example/cotterpin/laws.FnExactManGet", spec := "fnExactManGet", apart := false }
def FnExactManGetSaid : Prop := fnExactManGetRow.holds Try.pinned (OpenSpec.ofChange fnExactManGetSpec)

/-- ITS FALSE NEIGHBOUR: 'it returns false'. Refute it at one input. -/
def fnExactManGetWrong : ChangeSpec := { name := "fnExactManGet", fn := fun _ => fun
  | [d] => { results := [.lit (.bool false)], args := [d] }
  | _ => none }
def FnExactManGetWrongFalsely : Prop := fnExactManGetRow.holds Try.pinned (OpenSpec.ofChange fnExactManGetWrong)

/-- 'laws.FnExactEdgePut': WHATEVER THE INPUT: true; the input reads as it did. -/
def fnExactEdgePutSpec : ChangeSpec := { name := "fnExactEdgePut", fn := fun _ => fun
  | [d1, d2] => { results := [.lit (.bool true)], args := [d1, d2] }
  | _ => none }
def fnExactEdgePutRow : OpenClaim := { program := "ytkeeigaohfillaa", sum := "69b7b4c0e31e00c01d549396dcad47d9139d84d8fa4645c921d41098781e14b8", func := "loop.example/cotterpin/laws.FnExactEdgePut", spec := "fnExactEdgePut", unfollowed := true, recurses := true, apart := false }
def FnExactEdgePutSaid : Prop := fnExactEdgePutRow.holds Try.pinned (OpenSpec.ofChange fnExactEdgePutSpec)

/-- ITS FALSE NEIGHBOUR: 'it returns false'. Refute it at one input. -/
def fnExactEdgePutWrong : ChangeSpec := { name := "fnExactEdgePut", fn := fun _ => fun
  | [d1, d2] => { results := [.lit (.bool false)], args := [d1, d2] }
  | _ => none }
def FnExactEdgePutWrongFalsely : Prop := fnExactEdgePutRow.holds Try.pinned (OpenSpec.ofChange fnExactEdgePutWrong)

/-- 'laws.FnExactEdgeGet': WHATEVER THE INPUT: true; the input reads as it did. -/
def fnExactEdgeGetSpec : ChangeSpec := { name := "fnExactEdgeGet", fn := fun _ => fun
  | [d1, d2] => { results := [.lit (.bool true)], args := [d1, d2] }
  | _ => none }
def fnExactEdgeGetRow : OpenClaim := { program := "ytkeeigaohfillaa", sum := "69b7b4c0e31e00c01d549396dcad47d9139d84d8fa4645c921d41098781e14b8", func := "loop.example/cotterpin/laws.FnExactEdgeGet", spec := "fnExactEdgeGet", unfollowed := true, recurses := true, apart := false }
def FnExactEdgeGetSaid : Prop := fnExactEdgeGetRow.holds Try.pinned (OpenSpec.ofChange fnExactEdgeGetSpec)

/-- ITS FALSE NEIGHBOUR: 'it returns false'. Refute it at one input. -/
def fnExactEdgeGetWrong : ChangeSpec := { name := "fnExactEdgeGet", fn := fun _ => fun
  | [d1, d2] => { results := [.lit (.bool false)], args := [d1, d2] }
  | _ => none }
def FnExactEdgeGetWrongFalsely : Prop := fnExactEdgeGetRow.holds Try.pinned (OpenSpec.ofChange fnExactEdgeGetWrong)

/-- 'laws.FnExactWaveMany': WHATEVER THE INPUT: true; the input reads as it did. -/
def fnExactWaveManySpec : ChangeSpec := { name := "fnExactWaveMany", fn := fun _ => fun
  | [d] => { results := [.lit (.bool true)], args := [d] }
  | _ => none }
def fnExactWaveManyRow : OpenClaim := { program := "ytkeeigaohfillaa", sum := "69b7b4c0e31e00c01d549396dcad47d9139d84d8fa4645c921d41098781e14b8", func := "loop.example/cotterpin/laws.FnExactWaveMany", spec := "fnExactWaveMany", inPlace := ["internal/bytealg.CountString", "internal/bytealg.IndexByteString", "internal/bytealg.IndexString"], unfollowed := true, recurses := true, named := ["internal/bytealg.MaxLen"], apart := false }
def FnExactWaveManySaid : Prop := fnExactWaveManyRow.holds Try.pinned (OpenSpec.ofChange fnExactWaveManySpec)

/-- ITS FALSE NEIGHBOUR: 'it returns false'. Refute it at one input. -/
def fnExactWaveManyWrong : ChangeSpec := { name := "fnExactWaveMany", fn := fun _ => fun
  | [d] => { results := [.lit (.bool false)], args := [d] }
  | _ => none }
def FnExactWaveManyWrongFalsely : Prop := fnExactWaveManyRow.holds Try.pinned (OpenSpec.ofChange fnExactWaveManyWrong)

/- THE SECOND FORM. 'bulk': how many values and letters a reading holds, each counted each time it is reached (what is shared counts as often as it is met; a slice's spare places count too). A statement '..UptoSaid' is the law's where the arguments, and the package variables that the reading takes, are together of bulk at most 1048576: NARROWER than '..Said'. Prove '..Said' where nothing that the law and all that it calls make is longer than what came in: it says more and counts as full. Else prove '..UptoSaid'. A law counts once. -/
mutual
def uptoBulk {H : Type} : DataW H → Nat
  | .lit (.string bytes) => bytes.length + 1
  | .lit _ => 1
  | .nil => 1
  | .ptr d => uptoBulk d + 1
  | .slice elems spare => uptoBulkAll elems + uptoBulkAll spare + 1
  | .agg parts => uptoBulkAll parts + 1
  | .iface _ d => uptoBulk d + 1
  | .map entries => uptoBulkEntries entries + 1
  | .held _ => 1
def uptoBulkAll {H : Type} : List (DataW H) → Nat
  | [] => 0
  | d :: r => uptoBulk d + uptoBulkAll r
def uptoBulkEntries {H : Type} : List (Lit × DataW H) → Nat
  | [] => 0
  | x :: r => uptoBulkEntry x + uptoBulkEntries r
def uptoBulkEntry {H : Type} : Lit × DataW H → Nat
  | (.string bytes, d) => bytes.length + uptoBulk d + 1
  | (_, d) => uptoBulk d + 1
 end
def uptoSmall : (H : Type) → List (DataW H) → Bool := fun _ ds => decide (uptoBulkAll ds ≤ 1048576)
def OpenSpec.upto (s : _root_.Go.ChangeSpec) : _root_.Go.OpenSpec := { _root_.Go.OpenSpec.ofChange s with cond := some uptoSmall }

/-- 'laws.FnManPut', WHERE WHAT IT READS IS OF BULK AT MOST 1048576: true; the input reads as it did. -/
def fnManPutUptoRow : OpenClaim := { program := "ytkeeigaohfillaa", sum := "69b7b4c0e31e00c01d549396dcad47d9139d84d8fa4645c921d41098781e14b8", func := "loop.example/cotterpin/laws.FnManPut", spec := "fnManPut", inPlace := ["internal/bytealg.CountString", "internal/bytealg.IndexByteString", "internal/bytealg.IndexString"], unfollowed := true, recurses := true, named := ["internal/bytealg.MaxLen"], apart := false, narrowed := true }
def FnManPutUptoSaid : Prop := fnManPutUptoRow.holds Try.pinned (OpenSpec.upto fnManPutSpec)

/-- 'laws.FnManGet', WHERE WHAT IT READS IS OF BULK AT MOST 1048576: true; the input reads as it did. -/
def fnManGetUptoRow : OpenClaim := { program := "ytkeeigaohfillaa", sum := "69b7b4c0e31e00c01d549396dcad47d9139d84d8fa4645c921d41098781e14b8", func := "loop.example/cotterpin/laws.FnManGet", spec := "fnManGet", apart := false, narrowed := true }
def FnManGetUptoSaid : Prop := fnManGetUptoRow.holds Try.pinned (OpenSpec.upto fnManGetSpec)

/-- 'laws.FnEdgePut', WHERE WHAT IT READS IS OF BULK AT MOST 1048576: true; the input reads as it did. -/
def fnEdgePutUptoRow : OpenClaim := { program := "ytkeeigaohfillaa", sum := "69b7b4c0e31e00c01d549396dcad47d9139d84d8fa4645c921d41098781e14b8", func := "loop.example/cotterpin/laws.FnEdgePut", spec := "fnEdgePut", inPlace := ["internal/bytealg.CountString", "internal/bytealg.IndexByteString", "internal/bytealg.IndexString"], unfollowed := true, recurses := true, named := ["internal/bytealg.MaxLen"], apart := false, narrowed := true }
def FnEdgePutUptoSaid : Prop := fnEdgePutUptoRow.holds Try.pinned (OpenSpec.upto fnEdgePutSpec)

/-- 'laws.FnEdgeGet', WHERE WHAT IT READS IS OF BULK AT MOST 1048576: true; the input reads as it did. -/
def fnEdgeGetUptoRow : OpenClaim := { program := "ytkeeigaohfillaa", sum := "69b7b4c0e31e00c01d549396dcad47d9139d84d8fa4645c921d41098781e14b8", func := "loop.example/cotterpin/laws.FnEdgeGet", spec := "fnEdgeGet", unfollowed := true, recurses := true, apart := false, narrowed := true }
def FnEdgeGetUptoSaid : Prop := fnEdgeGetUptoRow.holds Try.pinned (OpenSpec.upto fnEdgeGetSpec)

/-- 'laws.FnWaveMany', WHERE WHAT IT READS IS OF BULK AT MOST 1048576: true; the input reads as it did. -/
def fnWaveManyUptoRow : OpenClaim := { program := "ytkeeigaohfillaa", sum := "69b7b4c0e31e00c01d549396dcad47d9139d84d8fa4645c921d41098781e14b8", func := "loop.example/cotterpin/laws.FnWaveMany", spec := "fnWaveMany", inPlace := ["internal/bytealg.CountString", "internal/bytealg.IndexByteString", "internal/bytealg.IndexString"], unfollowed := true, recurses := true, named := ["internal/bytealg.MaxLen"], apart := false, narrowed := true }
def FnWaveManyUptoSaid : Prop := fnWaveManyUptoRow.holds Try.pinned (OpenSpec.upto fnWaveManySpec)

/-- 'laws.FnExactManPut', WHERE WHAT IT READS IS OF BULK AT MOST 1048576: true; the input reads as it did. -/
def fnExactManPutUptoRow : OpenClaim := { program := "ytkeeigaohfillaa", sum := "69b7b4c0e31e00c01d549396dcad47d9139d84d8fa4645c921d41098781e14b8", func := "loop.example/cotterpin/laws.FnExactManPut", spec := "fnExactManPut", apart := false, narrowed := true }
def FnExactManPutUptoSaid : Prop := fnExactManPutUptoRow.holds Try.pinned (OpenSpec.upto fnExactManPutSpec)

/-- 'laws.FnExactManGet', WHERE WHAT IT READS IS OF BULK AT MOST 1048576: true; the input reads as it did. -/
def fnExactManGetUptoRow : OpenClaim := { program := "ytkeeigaohfillaa", sum := "69b7b4c0e31e00c01d549396dcad47d9139d84d8fa4645c921d41098781e14b8", func := "loop.example/cotterpin/laws.FnExactManGet", spec := "fnExactManGet", apart := false, narrowed := true }
def FnExactManGetUptoSaid : Prop := fnExactManGetUptoRow.holds Try.pinned (OpenSpec.upto fnExactManGetSpec)

/-- 'laws.FnExactEdgePut', WHERE WHAT IT READS IS OF BULK AT MOST 1048576: true; the input reads as it did. -/
def fnExactEdgePutUptoRow : OpenClaim := { program := "ytkeeigaohfillaa", sum := "69b7b4c0e31e00c01d549396dcad47d9139d84d8fa4645c921d41098781e14b8", func := "loop.example/cotterpin/laws.FnExactEdgePut", spec := "fnExactEdgePut", unfollowed := true, recurses := true, apart := false, narrowed := true }
def FnExactEdgePutUptoSaid : Prop := fnExactEdgePutUptoRow.holds Try.pinned (OpenSpec.upto fnExactEdgePutSpec)

/-- 'laws.FnExactEdgeGet', WHERE WHAT IT READS IS OF BULK AT MOST 1048576: true; the input reads as it did. -/
def fnExactEdgeGetUptoRow : OpenClaim := { program := "ytkeeigaohfillaa", sum := "69b7b4c0e31e00c01d549396dcad47d9139d84d8fa4645c921d41098781e14b8", func := "loop.example/cotterpin/laws.FnExactEdgeGet", spec := "fnExactEdgeGet", unfollowed := true, recurses := true, apart := false, narrowed := true }
def FnExactEdgeGetUptoSaid : Prop := fnExactEdgeGetUptoRow.holds Try.pinned (OpenSpec.upto fnExactEdgeGetSpec)

/-- 'laws.FnExactWaveMany', WHERE WHAT IT READS IS OF BULK AT MOST 1048576: true; the input reads as it did. -/
def fnExactWaveManyUptoRow : OpenClaim := { program := "ytkeeigaohfillaa", sum := "69b7b4c0e31e00c01d549396dcad47d9139d84d8fa4645c921d41098781e14b8", func := "loop.example/cotterpin/laws.FnExactWaveMany", spec := "fnExactWaveMany", inPlace := ["internal/bytealg.CountString", "internal/bytealg.IndexByteString", "internal/bytealg.IndexString"], unfollowed := true, recurses := true, named := ["internal/bytealg.MaxLen"], apart := false, narrowed := true }
def FnExactWaveManyUptoSaid : Prop := fnExactWaveManyUptoRow.holds Try.pinned (OpenSpec.upto fnExactWaveManySpec)

end Rows
end Go.Proofs.Ytkeeigaohfillaa
