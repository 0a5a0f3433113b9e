/- Plain facts on the sums: they fit, they are the known ones. -/
import Derived.Test.YthggbcpphoknfaaSumG
namespace Go.Proofs.Ythggbcpphoknfaa
open Go.ChangeShapes Go.WideShapes Go.ChangeAt Go.RowKit
theorem crc_le_all {kd : Int} (hk : kindB kd = true) {r : Nat} (hr : (r : Int) ≤ allOf kd) (l : List UInt8) : ((crc (polyN kd) r l : Nat) : Int) ≤ allOf kd := by
  rcases kind_or hk with rfl | rfl
  · have := crc_lt (p := polyN 2) (r := r) (n := 16) (by decide) (by omega) l (by simp [allOf] at hr; omega)
    simp [allOf]; omega
  · have := crc_lt (p := polyN 4) (r := r) (n := 32) (by decide) (by omega) l (by simp [allOf] at hr; omega)
    simp [allOf]; omega
theorem sumN_le_all {kd : Int} (hk : kindB kd = true) (l : List UInt8) : ((sumN kd l : Nat) : Int) ≤ allOf kd := by
  rcases kind_or hk with rfl | rfl
  · have := crc_lt (p := polyN 2) (r := 65535) (n := 16) (by decide) (by omega) l (by omega)
    have h2 : sumN 2 l < 2 ^ 16 := Nat.xor_lt_two_pow this (by decide)
    simp [allOf]; omega
  · have := crc_lt (p := polyN 4) (r := 4294967295) (n := 32) (by decide) (by omega) l (by omega)
    have h2 : sumN 4 l < 2 ^ 32 := Nat.xor_lt_two_pow this (by decide)
    simp [allOf]; omega
theorem known2 : sumN 2 [49, 50, 51, 52, 53, 54, 55, 56, 57] = 36974 := by decide +kernel
theorem known4 : sumN 4 [49, 50, 51, 52, 53, 54, 55, 56, 57] = 3421780262 := by decide +kernel
theorem good2 : goodN 2 = 61624 := by decide +kernel
theorem good4 : goodN 4 = 3736805603 := by decide +kernel
end Go.Proofs.Ythggbcpphoknfaa
