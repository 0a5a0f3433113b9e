/- Draws for the checksum laws. -/
import Derived.Test.YthggbcpphoknfaaDrawC
namespace Go.Proofs.Ythggbcpphoknfaa
open Go.ChangeShapes Go.WideShapes Go.ChangeAt Go.RowKit

theorem drawSumOf_any {w : World} (a : Option Addr) (len cap : Nat) (zs : List Int) (h : IsRow .u8 w a len cap zs) :
    Calls Try.prog 15 #[.slice a len cap] w fun e w' => ∃ (kd : Int) (s : ByteArray), e = .returned (.tuple #[.int .i64 kd, .string s]) ∧ s.size ≤ 30 ∧ Below w.heap.size w w' := by
  have HH := Lib.hid h
  clear h
  go_enter Try.func15, Try.ntmps15
  go_wp2_with fail
  refine (open_any a len cap zs HH.out).mono ?_
  rintro e w1 ⟨rfl, hr1, hb1, _⟩
  have HR1 := Lib.hid hr1
  have HB1 := Lib.hid hb1
  clear hr1 hb1
  go_wp2_with fail
  refine (kind_any HR1.out (by omega)).mono ?_
  rintro e w2 ⟨kd, _, rfl, hr2, hg2⟩
  have HR2 := Lib.hid hr2
  have HB2 := Lib.hid (HB1.out.trans (grown_below hg2 HB1.out.size (Nat.le_refl _)))
  clear hr2 hg2
  go_wp2_with fail
  refine (bytes_any 30 HR2.out (by omega) (by omega)).mono ?_
  rintro e w3 ⟨s, rfl, hs, hr3, hg3⟩
  have HB3 := Lib.hid (HB2.out.trans (grown_below hg3 HB2.out.size (Nat.le_refl _)))
  clear hr3 hg3
  go_wp2
  go_ret2
  exact ⟨kd, s, rfl, hs, HB3.out⟩
theorem drawSumPut_any {w : World} (a : Option Addr) (len cap : Nat) (zs : List Int) (h : IsRow .u8 w a len cap zs) :
    Calls Try.prog 22 #[.slice a len cap] w fun e w' => ∃ (kd : Int) (s : ByteArray), e = .returned (.tuple #[.int .i64 kd, .string s]) ∧ s.size ≤ 30 ∧ Below w.heap.size w w' := by
  have HH := Lib.hid h
  clear h
  go_enter Try.func22, Try.ntmps22
  go_wp2_with fail
  refine (drawSumOf_any a len cap zs HH.out).mono ?_
  rintro e w1 ⟨kd, s, rfl, hs, hb⟩
  go_wp2
  go_ret2
  exact ⟨kd, s, rfl, hs, hb⟩
theorem drawSumGood_any {w : World} (a : Option Addr) (len cap : Nat) (zs : List Int) (h : IsRow .u8 w a len cap zs) :
    Calls Try.prog 30 #[.slice a len cap] w fun e w' => ∃ (kd : Int), e = .returned (.int .i64 kd) ∧ kd ∈ [2, 4, 2, 4, 2, 4, 2, 4, 0, (3 : Int)] ∧ Below w.heap.size w w' := by
  have HH := Lib.hid h
  clear h
  go_enter Try.func30, Try.ntmps30
  go_wp2_with fail
  refine (open_any a len cap zs HH.out).mono ?_
  rintro e w1 ⟨rfl, hr1, hb1, _⟩
  have HR1 := Lib.hid hr1
  have HB1 := Lib.hid hb1
  clear hr1 hb1
  go_wp2_with fail
  refine (kind_any HR1.out (by omega)).mono ?_
  rintro e w2 ⟨kd, hkd, rfl, hr2, hg2⟩
  have HB2 := Lib.hid (HB1.out.trans (grown_below hg2 HB1.out.size (Nat.le_refl _)))
  have HKD := Lib.hid hkd
  clear hr2 hg2 hkd
  go_wp2
  go_ret
  exact ⟨kd, rfl, HKD.out, HB2.out⟩
/-- what SumRun is drawn with -/
def SumDrawn (w : World) (e : Ending) (w' : World) : Prop := ∃ (kd sum : Int) (s : ByteArray), e = .returned (.tuple #[.int .i64 kd, .int .i64 sum, .string s]) ∧ (-1 ≤ sum ∧ sum ≤ 4294967296) ∧ s.size ≤ 30 ∧ Below w.heap.size w w'
set_option maxHeartbeats 1000000 in
theorem drawSumRun_any {w : World} (a : Option Addr) (len cap : Nat) (zs : List Int) (h : IsRow .u8 w a len cap zs) :
    Calls Try.prog 20 #[.slice a len cap] w (SumDrawn w) := by
  have HH := Lib.hid h
  clear h
  go_enter Try.func20, Try.ntmps20
  go_wp2_with fail
  refine (open_any a len cap zs HH.out).mono ?_
  rintro e w1 ⟨rfl, hr1, hb1, _⟩
  have HR1 := Lib.hid hr1
  have HB1 := Lib.hid hb1
  clear hr1 hb1
  go_wp2_with fail
  refine (kind_any HR1.out (by omega)).mono ?_
  rintro e w2 ⟨kd, _, rfl, hr2, hg2⟩
  have HR2 := Lib.hid hr2
  have HB2 := Lib.hid (HB1.out.trans (grown_below hg2 HB1.out.size (Nat.le_refl _)))
  clear hr2 hg2
  go_wp2_with fail
  refine (pick_any _ HR2.out (by omega)).mono ?_
  rintro e w3 ⟨⟨x, rfl, hx, _⟩, hr3, hg3⟩
  obtain ⟨hx0, hx1⟩ := hx (by omega)
  have HR3 := Lib.hid hr3
  have HB3 := Lib.hid (HB2.out.trans (grown_below hg3 HB2.out.size (Nat.le_refl _)))
  clear hr3 hg3 hx
  go_wp2_with fail
  refine (pick_any _ HR3.out (by omega)).mono ?_
  rintro e w4 ⟨⟨y, rfl, hy, _⟩, hr4, hg4⟩
  obtain ⟨hy0, hy1⟩ := hy (by omega)
  have HR4 := Lib.hid hr4
  have HB4 := Lib.hid (HB3.out.trans (grown_below hg4 HB3.out.size (Nat.le_refl _)))
  clear hr4 hg4 hy
  go_wp2_with fail
  refine (pick_any _ HR4.out (by omega)).mono ?_
  rintro e w5 ⟨⟨z, rfl, hz, _⟩, hr5, hg5⟩
  have HR5 := Lib.hid hr5
  have HB5 := Lib.hid (HB4.out.trans (grown_below hg5 HB4.out.size (Nat.le_refl _)))
  have hsz : w.heap.size + 1 ≤ w5.heap.size := HR5.out.lt
  clear hr5 hg5 hz
  by_cases hz0 : z = 0
  · subst hz0
    go_wp2_with fail
    refine (one_any [-1, 65536, 4294967295, 4294967296] 3 (HR5.out.alloc _) (by omega) (by simp) (by simp) (by omega) (list_row w5 _ _ _ rfl)).mono ?_
    rintro e w6 ⟨q, hq, rfl, hr6, hg6⟩
    have hql : -1 ≤ q ∧ q ≤ 4294967296 := by simp at hq; omega
    have HR6 := Lib.hid hr6
    have HB6 := Lib.hid (HB5.out.trans (grown_below (grown_trans (World.grownBy_alloc w5 _ _) hg6) HB5.out.size (Nat.le_refl _)))
    clear hr6 hg6 hq
    go_wp2_with fail
    refine (bytes_any 30 HR6.out (by omega) (by omega)).mono ?_
    rintro e w7 ⟨s, rfl, hs, hr7, hg7⟩
    have HB7 := Lib.hid (HB6.out.trans (grown_below hg7 HB6.out.size (Nat.le_refl _)))
    clear hr7 hg7
    go_wp2
    go_ret3
    exact ⟨kd, q, s, rfl, hql, hs, HB7.out⟩
  · have hzb : ((z : Int) == 0) = false := beq_eq_false_iff_ne.2 hz0
    go_wp2_with fail
    refine (bytes_any 30 HR5.out (by omega) (by omega)).mono ?_
    rintro e w7 ⟨s, rfl, hs, hr7, hg7⟩
    have HB7 := Lib.hid (HB5.out.trans (grown_below hg7 HB5.out.size (Nat.le_refl _)))
    clear hr7 hg7
    go_wp2
    go_ret3
    exact ⟨kd, _, s, rfl, by omega, hs, HB7.out⟩
end Go.Proofs.Ythggbcpphoknfaa
