/- The draw for SumGet. -/
import Derived.Test.YthggbcpphoknfaaDrawD
import Derived.Test.YthggbcpphoknfaaSumE
namespace Go.Proofs.Ythggbcpphoknfaa
open Go.ChangeShapes Go.WideShapes Go.ChangeAt Go.RowKit
set_option maxHeartbeats 1000000 in
theorem drawSumGet_any {w : World} (a : Option Addr) (len cap : Nat) (zs : List Int) (h : IsRow .u8 w a len cap zs) :
    Calls Try.prog 27 #[.slice a len cap] w (GetDrawn w) := by
  have HH := Lib.hid h
  clear h
  go_enter Try.func27, Try.ntmps27
  go_wp2_with fail
  refine (open_any a len cap zs HH.out).mono ?_
  rintro e w1 ⟨rfl, hr1, hb1, _⟩
  have HR1 := Lib.hid hr1
  have HB1 := Lib.hid hb1
  clear hr1 hb1
  go_wp2_with fail
  refine (kind_any HR1.out (by omega)).mono ?_
  rintro e w2 ⟨kd, _, rfl, hr2, hg2⟩
  have HR2 := Lib.hid hr2
  have HB2 := Lib.hid (HB1.out.trans (grown_below hg2 HB1.out.size (Nat.le_refl _)))
  clear hr2 hg2
  go_wp2_with fail
  refine (bytes_any 20 HR2.out (by omega) (by omega)).mono ?_
  rintro e w3 ⟨s, rfl, hs, hr3, hg3⟩
  have HR3 := Lib.hid hr3
  have HB3 := Lib.hid (HB2.out.trans (grown_below hg3 HB2.out.size (Nat.le_refl _)))
  clear hr3 hg3
  go_wp2_with fail
  refine (putAny kd s _ (by omega)).mono ?_
  rintro e w4 ⟨t, rfl, ht, hb4⟩
  have HR4 := Lib.hid (HR3.out.grow (below_grown hb4 none) (by simp) (by simp))
  have HB4 := Lib.hid (HB3.out.trans (hb4.mono HB3.out.size))
  have hts : t.size ≤ 24 := by omega
  clear hb4 ht
  go_wp2_with fail
  refine (pick_any _ HR4.out (by omega)).mono ?_
  rintro e w5 ⟨⟨x, rfl, hx, _⟩, hr5, hg5⟩
  have HR5 := Lib.hid hr5
  have HB5 := Lib.hid (HB4.out.trans (grown_below hg5 HB4.out.size (Nat.le_refl _)))
  clear hr5 hg5 hx
  by_cases hx0 : x = 0
  · subst hx0
    go_wp2
    go_ret2
    exact ⟨kd, t, rfl, by omega, HB5.out⟩
  · have hxb : ((x : Int) == 0) = false := beq_eq_false_iff_ne.2 hx0
    go_wp2_with fail
    refine (bent_any t HR5.out (by omega) (by omega)).mono ?_
    rintro e w6 ⟨u, rfl, hu, hr6, hg6⟩
    have HB6 := Lib.hid (HB5.out.trans (grown_below hg6 HB5.out.size (Nat.le_refl _)))
    clear hr6 hg6
    go_wp2
    go_ret2
    exact ⟨kd, u, rfl, by omega, HB6.out⟩
end Go.Proofs.Ythggbcpphoknfaa
