/- The draw of a configuration and a frame. -/
import Derived.Test.YtdnedoafgfpnfaaGreatDrawConf
import Derived.Deep.RegionHeld3
namespace Go.Proofs.YtdnedoafgfpnfaaGreat
open Go.ChangeShapes Go.WideShapes Go.ChangeAt Go.RowKit
def SendDrawn (w : World) (e : Ending) (w' : World) : Prop := ∃ (a b d m : Int) (s : ByteArray), e = .returned (.tuple #[cfV a b d m, .string s]) ∧ smallC a b d m ∧ s.size ≤ 41 ∧ Below w.heap.size w w'
end Go.Proofs.YtdnedoafgfpnfaaGreat
