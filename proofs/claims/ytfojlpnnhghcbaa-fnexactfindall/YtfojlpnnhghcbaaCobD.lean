/- CobsPut of the program. -/
import Derived.Test.YtfojlpnnhghcbaaCobC
namespace Go.Proofs.Ytfojlpnnhghcbaa
open Go.ChangeShapes Go.WideShapes Go.ChangeAt Go.RowKit
def cobA (l : List UInt8) : List UInt8 := if l.length ≤ 600 then cob l else []
theorem wrP_cob {l : List UInt8} {pre : List Pc} (h : pre.map (·.1) = pcs l) : wrP pre = cob l := by rw [wrP, h, cob]
theorem ownsRow_ob {W : World} {base : Nat} {v : Value} {l : List UInt8} (h : W.ownsRow base 5 1 v l.length (l.map byteV)) : OB 5 W base v l := by
  obtain ⟨_, h2⟩ := h
  rcases h2 with ⟨rfl, hn⟩ | ⟨g, cap, cur, rfl, hb, hg, hnc, hcm, hcs, htake⟩
  · exact .inl ⟨rfl, List.length_eq_zero_iff.1 hn⟩
  · exact .inr ⟨g, cap, cur, (0, 0), rfl, hb, hg, .inl rfl, hnc, hcm, by omega, by simpa using htake⟩
theorem implCobs_any (s : ByteArray) (w : World) :
    Calls Try.prog 137 #[.string s] w fun e w' => e = .returned (.string ⟨(cobA s.data.toList).toArray⟩) ∧ Below w.heap.size w w' := by
  have HSL := Lib.hid (size_list s)
  by_cases h6 : s.size ≤ 600
  · have HV := Lib.hid (show cobA s.data.toList = cob s.data.toList by rw [cobA, HSL.out, if_pos h6])
    go_enter Try.func137, Try.ntmps137
    go_wp2_with fail
    refine (writeBlocks_any s w h6).mono ?_
    rintro e w1 ⟨v, pre, hpre, rfl, hrow, hb⟩
    have HO := Lib.hid (ownsRow_ob hrow)
    have HB := Lib.hid hb
    have HP := Lib.hid (wrP_cob hpre)
    clear hrow hb hpre
    go_wp2_with (refine wpList_string_of_OB _ rfl 22 9 5 _ rfl w.heap.size _ _ rfl Try.underlying22 Try.underlying5 Try.underlying9 HO.out ?_)
    go_ret
    exact ⟨by rw [HV.out, ← HP.out]; rfl, HB.out⟩
  · have HV := Lib.hid (show cobA s.data.toList = [] by rw [cobA, HSL.out, if_neg h6])
    go_enter Try.func137, Try.ntmps137
    go_wp2
    go_ret
    exact ⟨by rw [HV.out]; rfl, Below.refl _ _⟩
end Go.Proofs.Ytfojlpnnhghcbaa
