/- Draws for the laws of woven texts. -/
import Derived.Test.YtibilifhbnjckaaWeaD
import Derived.Test.YtibilifhbnjckaaKitDraw
namespace Go.Proofs.Ytibilifhbnjckaa
open Go.ChangeShapes Go.WideShapes Go.ChangeAt Go.RowKit
theorem drawWP_any {w : World} (a : Option Addr) (len cap : Nat) (zs : List Int) (h : IsRow .u8 w a len cap zs) :
    Calls Try.prog 9 #[.slice a len cap] w fun e w' => ∃ (s : ByteArray) (k : Nat), e = .returned (.tuple #[.string s, .int .i64 k]) ∧ s.size ≤ 60 ∧ k ≤ 17 ∧ Below w.heap.size w w' := by
  have HH := Lib.hid h
  clear h
  go_enter Try.func9, Try.ntmps9
  go_wp2_with fail
  refine (open_any a len cap zs HH.out).mono ?_
  rintro e w1 ⟨rfl, hr1, hb1, hs1⟩
  have HR1 := Lib.hid hr1
  have HB1 := Lib.hid hb1
  have HS1 := Lib.hid hs1
  clear hr1 hb1 hs1
  go_wp2_with fail
  refine (one_any [1, 2, 3, 5, 16, 0, 17] 3 (HR1.out.alloc _) (by omega) (by simp) (by simp) (by have := HS1.out; omega) (list_row w1 _ _ _ rfl)).mono ?_
  rintro e w2 ⟨q, hq, rfl, hr2, hg2⟩
  have hq2 : 0 ≤ q ∧ q ≤ 17 := by simp at hq; omega
  obtain ⟨hq0, hq9⟩ := hq2
  obtain ⟨k, rfl⟩ := Int.eq_ofNat_of_zero_le hq0
  have HR2 := Lib.hid hr2
  have HB2 := Lib.hid ((HB1.out.alloc HB1.out.size _).trans (grown_below hg2 (by have := HB1.out.size; simp; omega) (Nat.le_refl _)))
  clear hr2 hg2 hq
  go_wp2_with fail
  refine (bytes_any 60 HR2.out (by omega) (by omega)).mono ?_
  rintro e w3 ⟨s, rfl, hs, hr3, hg3⟩
  have HR3 := Lib.hid hr3
  have HB3 := Lib.hid (HB2.out.trans (grown_below hg3 HB2.out.size (Nat.le_refl _)))
  clear hr3 hg3
  by_cases hk : 0 < k
  · have hgt : decide ((k : Int) > 0) = true := decide_eq_true (by omega)
    have hz : (k : Int) ≠ 0 := by omega
    have hz3 : ((k : Int) == 0) = false := beq_eq_false_iff_ne.2 (by omega)
    have hm1 : ((k : Int) == -1) = false := beq_eq_false_iff_ne.2 (by omega)
    go_wp2_with fail
    refine (pick_any 6 HR3.out (by omega)).mono ?_
    rintro e w4 ⟨⟨y, rfl, _, _⟩, hr4, hg4⟩
    have HB4 := Lib.hid (HB3.out.trans (grown_below hg4 HB3.out.size (Nat.le_refl _)))
    clear hr4 hg4
    by_cases hy : y > 0
    · obtain ⟨d, hd⟩ : ∃ d, s.size / k = d := ⟨_, rfl⟩
      have hdiv : (s.size : Int) / (k : Int) = (d : Int) := by rw [← hd, Int.natCast_ediv]
      obtain ⟨m, hm⟩ : ∃ m, d * k = m := ⟨_, rfl⟩
      have hmul : (d : Int) * (k : Int) = (m : Int) := by rw [← hm, Int.natCast_mul]
      have hml : m ≤ s.size := by rw [← hm, ← hd]; exact Nat.div_mul_le_self _ _
      have hd6 : d ≤ 60 := by rw [← hd]; exact Nat.le_trans (Nat.div_le_self _ _) hs
      clear hd hm
      go_wp2
      go_ret2
      exact ⟨_, k, rfl, by simp; omega, by omega, HB4.out⟩
    · go_wp2
      go_ret2
      exact ⟨_, k, rfl, hs, by omega, HB4.out⟩
  · obtain rfl : k = 0 := by omega
    go_wp2
    go_ret2
    exact ⟨_, 0, rfl, hs, by omega, HB3.out⟩
theorem drawWG_any {w : World} (a : Option Addr) (len cap : Nat) (zs : List Int) (h : IsRow .u8 w a len cap zs) :
    Calls Try.prog 13 #[.slice a len cap] w fun e w' => ∃ (s : ByteArray) (k : Nat), e = .returned (.tuple #[.string s, .int .i64 k]) ∧ s.size ≤ 60 ∧ k ≤ 17 ∧ Below w.heap.size w w' := by
  have HH := Lib.hid h
  clear h
  go_enter Try.func13, Try.ntmps13
  go_wp2_with fail
  refine (drawWP_any a len cap zs HH.out).mono ?_
  rintro e w1 ⟨s, k, rfl, hs, hk, hb⟩
  have HB := Lib.hid hb
  clear hb
  go_wp2
  go_ret2
  exact ⟨s, k, rfl, hs, hk, HB.out⟩
theorem drawWAt_any {w : World} (a : Option Addr) (len cap : Nat) (zs : List Int) (h : IsRow .u8 w a len cap zs) :
    Calls Try.prog 15 #[.slice a len cap] w fun e w' => ∃ (n k : Nat) (p : Int), e = .returned (.tuple #[.int .i64 n, .int .i64 k, .int .i64 p]) ∧ n ≤ 200 ∧ Below w.heap.size w w' := by
  have HH := Lib.hid h
  clear h
  go_enter Try.func15, Try.ntmps15
  go_wp2_with fail
  refine (open_any a len cap zs HH.out).mono ?_
  rintro e w1 ⟨rfl, hr1, hb1, hs1⟩
  have HR1 := Lib.hid hr1
  have HB1 := Lib.hid hb1
  have HS1 := Lib.hid hs1
  clear hr1 hb1 hs1
  go_wp2_with fail
  refine (one_any [1, 2, 3, 5, 16, 0] 3 (HR1.out.alloc _) (by omega) (by simp) (by simp) (by have := HS1.out; omega) (list_row w1 _ _ _ rfl)).mono ?_
  rintro e w2 ⟨q, hq, rfl, hr2, hg2⟩
  have hq2 : 0 ≤ q ∧ q ≤ 16 := by simp at hq; omega
  obtain ⟨hq0, hq9⟩ := hq2
  obtain ⟨k, rfl⟩ := Int.eq_ofNat_of_zero_le hq0
  have HR2 := Lib.hid hr2
  have HB2 := Lib.hid ((HB1.out.alloc HB1.out.size _).trans (grown_below hg2 (by have := HB1.out.size; simp; omega) (Nat.le_refl _)))
  clear hr2 hg2 hq
  go_wp2_with fail
  refine (pick_any 9 HR2.out (by omega)).mono ?_
  rintro e w3 ⟨⟨y, rfl, hy, _⟩, hr3, hg3⟩
  obtain ⟨hy0, hy9⟩ := hy (by omega)
  obtain ⟨y, rfl⟩ := Int.eq_ofNat_of_zero_le hy0
  have HR3 := Lib.hid hr3
  have HB3 := Lib.hid (HB2.out.trans (grown_below hg3 HB2.out.size (Nat.le_refl _)))
  clear hr3 hg3 hy
  obtain ⟨n, hn⟩ : ∃ n, k * (1 + y) = n := ⟨_, rfl⟩
  have hmul : (k : Int) * (1 + (y : Int)) = (n : Int) := by rw [← hn, Int.natCast_mul, Int.natCast_add]; rfl
  have hn2 : n ≤ 160 := by
    have h1 : k * (1 + y) ≤ 16 * (1 + y) := Nat.mul_le_mul_right _ (by omega)
    rw [← hn]; omega
  clear hn
  go_wp2_with fail
  refine (pick_any 10 HR3.out (by omega)).mono ?_
  rintro e w4 ⟨⟨z, rfl, _, _⟩, hr4, hg4⟩
  have HR4 := Lib.hid hr4
  have HB4 := Lib.hid (HB3.out.trans (grown_below hg4 HB3.out.size (Nat.le_refl _)))
  clear hr4 hg4
  have hfin : ∀ m : Nat, m ≤ 161 → ∃ m' : Nat, (m : Int) + 1 = (m' : Int) ∧ m' ≤ 162 := fun m hm => ⟨m + 1, rfl, by omega⟩
  by_cases hz : z = 0
  · subst hz
    obtain ⟨m, hm, hm2⟩ := hfin n (by omega)
    clear hfin
    go_wp2_with fail
    refine (pick_any _ HR4.out (by omega)).mono ?_
    rintro e w5 ⟨⟨u, rfl, hu, hu2⟩, hr5, hg5⟩
    have HR5 := Lib.hid hr5
    have HB5 := Lib.hid (HB4.out.trans (grown_below hg5 HB4.out.size (Nat.le_refl _)))
    clear hr5 hg5
    obtain ⟨hu0, hu9⟩ := hu (by omega)
    clear hu hu2
    go_wp2_with fail
    refine (pick_any 2 HR5.out (by omega)).mono ?_
    rintro e w6 ⟨⟨x, rfl, hx, _⟩, hr6, hg6⟩
    have HB6 := Lib.hid (HB5.out.trans (grown_below hg6 HB5.out.size (Nat.le_refl _)))
    clear hr6 hg6
    obtain ⟨hx0, hx9⟩ := hx (by omega)
    clear hx
    go_wp2
    go_ret3
    exact ⟨m, k, _, rfl, by omega, HB6.out⟩
  · have hzb : (z == 0) = false := beq_eq_false_iff_ne.2 hz
    clear hz hfin
    go_wp2_with fail
    refine (pick_any _ HR4.out (by omega)).mono ?_
    rintro e w5 ⟨⟨u, rfl, hu, hu2⟩, hr5, hg5⟩
    have HR5 := Lib.hid hr5
    have HB5 := Lib.hid (HB4.out.trans (grown_below hg5 HB4.out.size (Nat.le_refl _)))
    clear hr5 hg5
    obtain ⟨hu0, hu9⟩ := hu (by omega)
    clear hu hu2
    go_wp2_with fail
    refine (pick_any 2 HR5.out (by omega)).mono ?_
    rintro e w6 ⟨⟨x, rfl, hx, _⟩, hr6, hg6⟩
    have HB6 := Lib.hid (HB5.out.trans (grown_below hg6 HB5.out.size (Nat.le_refl _)))
    clear hr6 hg6
    obtain ⟨hx0, hx9⟩ := hx (by omega)
    clear hx
    go_wp2
    go_ret3
    exact ⟨n, k, _, rfl, by omega, HB6.out⟩
end Go.Proofs.Ytibilifhbnjckaa
