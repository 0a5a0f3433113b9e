/- Plain mathematics of the checksums: one step of the register, eight steps, linearity, the table. -/
import Derived.Test.YtcegpcggdcgjbaaGreatDoorRows
import Derived.WalkKit
import Derived.ProofKit
import Derived.OpenShut
import Derived.Test.YtcegpcggdcgjbaaGreatDoorKitA
import Derived.IntWalk
import Derived.Lib.Hide
import Derived.Laws.BitsAllLaws
import Derived.Laws.BitsLemmas
import Derived.Defers
import Derived.Laws.Rows
import Derived.Laws.CopyRow
import Derived.Laws.Pointers
import Derived.Lib.Strings
namespace Go.Proofs.YtcegpcggdcgjbaaGreatDoor
def stp (p x : Nat) : Nat := if x % 2 = 1 then (x / 2) ^^^ p else x / 2
def stpN (p : Nat) : Nat → Nat → Nat
  | 0, x => x
  | n + 1, x => stp p (stpN p n x)
def crcB (p r : Nat) (b : UInt8) : Nat := stpN p 8 (r ^^^ b.toNat)
def crc (p r : Nat) (l : List UInt8) : Nat := l.foldl (crcB p) r

theorem crc_nil (p r : Nat) : crc p r [] = r := rfl
theorem crc_snoc (p r : Nat) (l : List UInt8) (b : UInt8) : crc p r (l ++ [b]) = stpN p 8 (crc p r l ^^^ b.toNat) := by
  simp [crc, crcB, List.foldl_append]
theorem crc_append (p r : Nat) (l m : List UInt8) : crc p r (l ++ m) = crc p (crc p r l) m := by
  simp [crc, List.foldl_append]

theorem stp_lt {p x n : Nat} (hp : p < 2 ^ n) (hx : x < 2 ^ n) : stp p x < 2 ^ n := by
  unfold stp
  split
  · exact Nat.xor_lt_two_pow (by omega) hp
  · omega
theorem stpN_lt {p x n : Nat} (hp : p < 2 ^ n) (hx : x < 2 ^ n) (k : Nat) : stpN p k x < 2 ^ n := by
  induction k with
  | zero => exact hx
  | succ k ih => exact stp_lt hp ih
theorem crc_lt {p r n : Nat} (hp : p < 2 ^ n) (hn : 8 ≤ n) (l : List UInt8) (hr : r < 2 ^ n) : crc p r l < 2 ^ n := by
  induction l generalizing r with
  | nil => exact hr
  | cons b l ih =>
    refine ih (stpN_lt hp (Nat.xor_lt_two_pow hr ?_) 8)
    have := UInt8.toNat_lt b
    exact Nat.lt_of_lt_of_le this (Nat.pow_le_pow_right (by omega) hn)

theorem mod2_xor (x y : Nat) : (x ^^^ y) % 2 = (x % 2 + y % 2) % 2 := by
  have h := Nat.xor_mod_two_pow (a := x) (b := y) (n := 1)
  rw [Nat.pow_one] at h
  rw [h]
  rcases Nat.mod_two_eq_zero_or_one x with hx | hx <;> rcases Nat.mod_two_eq_zero_or_one y with hy | hy <;> simp [hx, hy]
theorem div2_xor (x y : Nat) : (x ^^^ y) / 2 = x / 2 ^^^ y / 2 := by
  have := Nat.shiftRight_xor_distrib (a := x) (b := y) (i := 1)
  simpa [Nat.shiftRight_succ] using this
theorem stp_xor (p x y : Nat) : stp p (x ^^^ y) = stp p x ^^^ stp p y := by
  unfold stp
  rw [mod2_xor, div2_xor]
  rcases Nat.mod_two_eq_zero_or_one x with hx | hx <;> rcases Nat.mod_two_eq_zero_or_one y with hy | hy <;> simp only [hx, hy]
  · simp
  · simp only [ite_true, Nat.zero_ne_one, ite_false]; rw [Nat.xor_assoc]
  · simp only [ite_true, Nat.zero_ne_one, ite_false]; rw [Nat.xor_assoc, Nat.xor_assoc, Nat.xor_comm (y / 2) p]
  · simp only [Nat.reduceAdd, Nat.reduceMod, Nat.zero_ne_one, ite_false, ite_true]
    rw [Nat.xor_assoc, ← Nat.xor_assoc p, Nat.xor_comm p (y / 2), Nat.xor_assoc (y/2) p p, Nat.xor_self, Nat.xor_zero]
theorem stpN_xor (p k x y : Nat) : stpN p k (x ^^^ y) = stpN p k x ^^^ stpN p k y := by
  induction k with
  | zero => rfl
  | succ k ih => simp only [stpN, ih, stp_xor]
theorem stp_even (p h : Nat) : stp p (2 * h) = h := by
  unfold stp
  rw [if_neg (by omega)]; omega
theorem stpN_shl (p k h : Nat) : stpN p k (2 ^ k * h) = h := by
  induction k generalizing h with
  | zero => simp [stpN]
  | succ k ih => rw [stpN, show 2 ^ (k + 1) * h = 2 ^ k * (2 * h) from by rw [Nat.pow_succ, Nat.mul_assoc], ih, stp_even]
theorem split8 (x : Nat) : x = (2 ^ 8 * (x / 256)) ^^^ (x % 256) := by
  have h := Nat.two_pow_add_eq_or_of_lt (i := 8) (b := x % 256) (Nat.mod_lt _ (by omega)) (x / 256)
  have h2 : 2 ^ 8 * (x / 256) + x % 256 = x := by have := Nat.div_add_mod x 256; omega
  apply Nat.eq_of_testBit_eq
  intro i
  rw [Nat.testBit_xor, Nat.testBit_two_pow_mul, show (256 : Nat) = 2 ^ 8 from rfl, Nat.testBit_mod_two_pow, Nat.testBit_div_two_pow]
  by_cases hi : 8 ≤ i
  · simp [hi, Nat.not_lt.2 hi]
  · simp [hi, Nat.lt_of_not_le hi]
/-- eight steps by the table -/
theorem stpN_table (p x : Nat) : stpN p 8 x = x / 256 ^^^ stpN p 8 (x % 256) := by
  conv => lhs; rw [split8 x]
  rw [stpN_xor, stpN_shl]
theorem div256_xor (r b : Nat) (hb : b < 256) : (r ^^^ b) / 256 = r / 256 := by
  apply Nat.eq_of_testBit_eq
  intro i
  rw [show (256 : Nat) = 2 ^ 8 from rfl, Nat.testBit_div_two_pow, Nat.testBit_div_two_pow, Nat.testBit_xor]
  have : b.testBit (i + 8) = false := Nat.testBit_lt_two_pow (Nat.lt_of_lt_of_le hb (by rw [show (256 : Nat) = 2 ^ 8 from rfl]; exact Nat.pow_le_pow_right (by omega) (by omega)))
  simp [this]
theorem mod256_xor (r b : Nat) (hb : b < 256) : (r ^^^ b) % 256 = (r % 256) ^^^ b := by
  rw [show (256 : Nat) = 2 ^ 8 from rfl, Nat.xor_mod_two_pow, Nat.mod_eq_of_lt (a := b) hb]
theorem crcB_table (p r : Nat) (b : UInt8) : crcB p r b = r / 256 ^^^ stpN p 8 ((r % 256) ^^^ b.toNat) := by
  have hb : b.toNat < 256 := UInt8.toNat_lt b
  unfold crcB
  rw [stpN_table, div256_xor _ _ hb, mod256_xor _ _ hb]

theorem stpN_zero (p k : Nat) : stpN p k 0 = 0 := by
  induction k with
  | zero => rfl
  | succ k ih => rw [stpN, ih]; rfl
theorem crcB_xor (p a b : Nat) (x : UInt8) : crcB p (a ^^^ b) x = crcB p a x ^^^ crcB p b 0 := by
  unfold crcB
  rw [show (0 : UInt8).toNat = 0 from rfl, Nat.xor_zero, Nat.xor_assoc, Nat.xor_comm b, ← Nat.xor_assoc, stpN_xor]
theorem crc_linear (p a b : Nat) (l : List UInt8) : crc p (a ^^^ b) l = crc p a l ^^^ crc p b (List.replicate l.length 0) := by
  induction l generalizing a b with
  | nil => rfl
  | cons x l ih => simp only [crc, List.foldl_cons, List.length_cons, List.replicate_succ] at ih ⊢; rw [crcB_xor, ih]
theorem crc_zero (p n : Nat) : crc p 0 (List.replicate n 0) = 0 := by
  induction n with
  | zero => rfl
  | succ n ih =>
    simp only [crc, List.replicate_succ, List.foldl_cons] at ih ⊢
    have : crcB p 0 0 = 0 := by unfold crcB; exact stpN_zero p 8
    rw [this, ih]
end Go.Proofs.YtcegpcggdcgjbaaGreatDoor
/- Contracts of the small functions of the checksum layer: kinds, polynomials, start registers. -/
namespace Go.Proofs.YtcegpcggdcgjbaaGreatDoor
open Go.ChangeShapes Go.WideShapes Go.ChangeAt Go.RowKit

/-- all ones of a kind -/
def allOf (k : Int) : Int := if k = 2 then 65535 else 4294967295
def polyI (k : Int) : Int := if k = 2 then 33800 else 3988292384
def kindB (k : Int) : Bool := k == 2 || k == 4

theorem l1Kind_any (k : Int) (w : World) :
    Calls Tryz.prog 81 #[.int .i64 k] w fun e w' => e = .returned (.bool (kindB k)) ∧ w = w' := by
  by_cases h2 : k = 2
  · subst h2
    go_enter Tryz.func81, Tryz.ntmps81
    go_wp2
    go_ret
    exact ⟨rfl, rfl⟩
  · have hb : ((k : Int) == 2) = false := by simpa using h2
    by_cases h4 : k = 4
    · subst h4
      go_enter Tryz.func81, Tryz.ntmps81
      go_wp2
      go_ret
      exact ⟨rfl, rfl⟩
    · have hb4 : ((k : Int) == 4) = false := by simpa using h4
      go_enter Tryz.func81, Tryz.ntmps81
      go_wp2
      go_ret
      exact ⟨by simp [kindB, hb, hb4], rfl⟩

theorem l1All_any (k : Int) (w : World) :
    Calls Tryz.prog 89 #[.int .i64 k] w fun e w' => e = .returned (.int .i64 (allOf k)) ∧ w = w' := by
  by_cases h2 : k = 2
  · subst h2
    go_enter Tryz.func89, Tryz.ntmps89
    go_wp2
    go_ret
    exact ⟨rfl, rfl⟩
  · have hb : ((k : Int) == 2) = false := by simpa using h2
    go_enter Tryz.func89, Tryz.ntmps89
    go_wp2
    go_ret
    exact ⟨by simp [allOf, h2], rfl⟩

theorem l1Poly_any (k : Int) (w : World) :
    Calls Tryz.prog 115 #[.int .i64 k] w fun e w' => e = .returned (.int .i64 (polyI k)) ∧ w = w' := by
  by_cases h2 : k = 2
  · subst h2
    go_enter Tryz.func115, Tryz.ntmps115
    go_wp2
    go_ret
    exact ⟨rfl, rfl⟩
  · have hb : ((k : Int) == 2) = false := by simpa using h2
    go_enter Tryz.func115, Tryz.ntmps115
    go_wp2
    go_ret
    exact ⟨by simp [polyI, h2], rfl⟩

def inB (n lo hi : Int) : Bool := decide (lo ≤ n) && decide (n ≤ hi)
theorem l1In_any (n lo hi : Int) (w : World) :
    Calls Tryz.prog 80 #[.int .i64 n, .int .i64 lo, .int .i64 hi] w fun e w' => e = .returned (.bool (inB n lo hi)) ∧ w = w' := by
  by_cases h1 : lo ≤ n
  · by_cases h2 : n ≤ hi
    · go_enter Tryz.func80, Tryz.ntmps80
      go_wp2
      go_ret
      exact ⟨by simp [inB, h1, h2], rfl⟩
    · go_enter Tryz.func80, Tryz.ntmps80
      go_wp2
      go_ret
      exact ⟨by simp [inB, h1, h2], rfl⟩
  · go_enter Tryz.func80, Tryz.ntmps80
    go_wp2
    go_ret
    exact ⟨by simp [inB]; omega, rfl⟩

theorem polyOf_yes (k : Int) (w : World) (hk : kindB k = true) :
    Calls Tryz.prog 66 #[.int .i64 k] w fun e w' => e = .returned (.tuple #[.int .u32 (polyI k), .bool true]) ∧ w = w' := by
  have h : k = 2 ∨ k = 4 := by simpa [kindB] using hk
  clear hk
  rcases h with rfl | rfl
  all_goals
    go_enter Tryz.func66, Tryz.ntmps66
    go_wp2
    go_ret2
    exact ⟨rfl, rfl⟩

theorem polyOf_no (k : Int) (w : World) (hk : kindB k = false) :
    Calls Tryz.prog 66 #[.int .i64 k] w fun e w' => e = .returned (.tuple #[.int .u32 0, .bool false]) ∧ w = w' := by
  have h : ((k : Int) == 2) = false ∧ ((k : Int) == 4) = false := by simpa [kindB] using hk
  clear hk
  obtain ⟨h2, h4⟩ := h
  go_enter Tryz.func66, Tryz.ntmps66
  go_wp2
  go_ret2
  exact ⟨rfl, rfl⟩

theorem implStart_yes (k : Int) (w : World) (hk : kindB k = true) :
    Calls Tryz.prog 68 #[.int .i64 k] w fun e w' => e = .returned (.int .i64 (allOf k)) ∧ w = w' := by
  have h : k = 2 ∨ k = 4 := by simpa [kindB] using hk
  clear hk
  rcases h with rfl | rfl
  all_goals
    go_enter Tryz.func68, Tryz.ntmps68
    go_wp2_with (go_at_call 66; refine (polyOf_yes _ _ rfl).mono ?_; rintro e w' ⟨rfl, rfl⟩)
    go_ret
    exact ⟨rfl, rfl⟩

theorem implStart_no (k : Int) (w : World) (hk : kindB k = false) :
    Calls Tryz.prog 68 #[.int .i64 k] w fun e w' => e = .returned (.int .i64 (-1)) ∧ w = w' := by
  go_enter Tryz.func68, Tryz.ntmps68
  go_wp2_with (go_at_call 66; refine (polyOf_no _ _ hk).mono ?_; rintro e w' ⟨rfl, rfl⟩)
  go_ret
  exact ⟨rfl, rfl⟩

end Go.Proofs.YtcegpcggdcgjbaaGreatDoor
/- Contract of the model's l1Run. -/
namespace Go.Proofs.YtcegpcggdcgjbaaGreatDoor
open Go.ChangeShapes Go.WideShapes Go.ChangeAt Go.RowKit

def polyN (k : Int) : Nat := if k = 2 then 33800 else 3988292384
theorem polyN_lt (k : Int) : polyN k < 2 ^ 32 := by unfold polyN; split <;> decide
theorem polyI_eq (k : Int) : polyI k = (polyN k : Int) := by unfold polyI polyN; split <;> rfl
theorem take_snoc (s : ByteArray) (k : Nat) (h : k < s.size) : s.data.toList.take (k + 1) = s.data.toList.take k ++ [s[k]] := by
  rw [List.take_succ_eq_append_getElem (by simpa using h)]; rfl
theorem stp_odd (kd : Int) (x : Nat) (h : ((x : Int) % 2 == 1) = true) (hx : x < 2 ^ 32) : bits .xor .i64 ((x : Int) / 2) (polyI kd) = (stp (polyN kd) x : Nat) := by
  have h' : (x : Int) % 2 = 1 := by simpa using h
  have hp := polyN_lt kd
  rw [polyI_eq, show ((x : Int) / 2) = ((x / 2 : Nat) : Int) by omega, bits_xor_i64_nat _ _ (by omega) (by omega), stp, if_pos (by omega)]
theorem stp_evn (p x : Nat) (h : ((x : Int) % 2 == 1) = false) : ((x : Int) / 2) = (stp p x : Nat) := by
  have h' : ¬ (x : Int) % 2 = 1 := by simpa using h
  rw [stp, if_neg (by omega)]; omega

set_option maxHeartbeats 400000 in
theorem l1Run_any (kd : Int) (r : Nat) (s : ByteArray) (w : World) (hr : r < 2 ^ 32) (hs : s.size ≤ maxLen) :
    Calls Tryz.prog 88 #[.int .i64 kd, .int .i64 r, .string s] w fun e w' => e = .returned (.int .i64 (crc (polyN kd) r s.data.toList)) ∧ w = w' := by
  unfold maxLen at hs
  go_enter Tryz.func88, Tryz.ntmps88
  go_wp2
  go_loop [1, 7, 8] (fun x i _k => ∃ k : Nat, k ≤ s.size ∧ i = .int .i64 k ∧ x = .int .i64 (crc (polyN kd) r (s.data.toList.take k))) (fun _ i _ => s.size - (intOf i).toNat)
  case atStart => exact ⟨0, Nat.zero_le _, rfl, rfl⟩
  case round =>
    obtain ⟨k, hk, rfl, rfl⟩ := hrel
    by_cases hlt : k < s.size
    · have HS := Lib.hid (show crc (polyN kd) r (s.data.toList.take (k + 1)) = stpN (polyN kd) 8 (crc (polyN kd) r (s.data.toList.take k) ^^^ s[k].toNat) by rw [take_snoc s k hlt, crc_snoc])
      have hcl : crc (polyN kd) r (s.data.toList.take k) < 2 ^ 32 := crc_lt (polyN_lt kd) (by omega) _ hr
      have hbl := UInt8.toNat_lt s[k]
      have hxl : crc (polyN kd) r (s.data.toList.take k) ^^^ s[k].toNat < 2 ^ 32 := Nat.xor_lt_two_pow hcl (by omega)
      go_wp2_with fail
      go_loop [1, 8] (fun x j => ∃ m : Nat, m ≤ 8 ∧ j = .int .i64 m ∧ x = .int .i64 (stpN (polyN kd) m (crc (polyN kd) r (s.data.toList.take k) ^^^ s[k].toNat))) (fun _ j => 8 - (intOf j).toNat)
      case atStart => exact ⟨0, by omega, rfl, val_int (by rw [bits_xor_i64_nat _ _ (by omega) (by omega)]; rfl)⟩
      case round =>
        obtain ⟨m, hm, rfl, rfl⟩ := hrel
        have hml := stpN_lt (polyN_lt kd) hxl m
        have HN := Lib.hid (show stpN (polyN kd) (m + 1) (crc (polyN kd) r (s.data.toList.take k) ^^^ s[k].toNat) = stp (polyN kd) (stpN (polyN kd) m (crc (polyN kd) r (s.data.toList.take k) ^^^ s[k].toNat)) from rfl)
        by_cases hm8 : m < 8
        · go_wp2_with (go_at_call 115; refine (l1Poly_any _ _).mono ?_; rintro e w' ⟨rfl, rfl⟩)
          all_goals
            go_round
            case rel =>
              refine ⟨m + 1, by omega, by go_num, val_int ?_⟩
              rw [HN.out]
              generalize stpN (polyN kd) m (crc (polyN kd) r (s.data.toList.take k) ^^^ s[k].toNat) = x at *
              first | exact stp_odd _ _ ‹_› (by omega) | exact stp_evn _ _ ‹_›
            case measure => simp [intOf]; omega
        · go_wp2
          go_round
          case rel => exact ⟨k + 1, by omega, by go_num, val_int (by rw [HS.out, show m = 8 from by omega])⟩
          case measure => simp [intOf]; omega
    · go_wp2
      go_ret
      exact ⟨ret_int (by rw [List.take_of_length_le (by simp; omega)]), rfl⟩
end Go.Proofs.YtcegpcggdcgjbaaGreatDoor
/- Contracts of the program's register: halve, the table, take. -/
namespace Go.Proofs.YtcegpcggdcgjbaaGreatDoor
open Go.ChangeShapes Go.WideShapes Go.ChangeAt Go.RowKit

theorem halve_any (r p : Nat) (w : World) (hr : r < 2 ^ 32) (hp : p < 2 ^ 32) :
    Calls Tryz.prog 117 #[.int .u32 r, .int .u32 p] w fun e w' => e = .returned (.int .u32 (stp p r)) ∧ w = w' := by
  have ha : bits .and .u32 (r : Int) 1 = ((r % 2 : Nat) : Int) := by
    have := u32_and_nat r 1 (by omega) (by omega)
    rw [nat_mask1] at this
    exact this
  have HA := Lib.hid ha
  by_cases h2 : r % 2 = 0
  · have hb : (bits .and .u32 (r : Int) 1 == 0) = true := by rw [ha, h2]; rfl
    clear ha
    go_enter Tryz.func117, Tryz.ntmps117
    go_wp2
    go_ret
    exact ⟨ret_int (by rw [stp, if_neg (by omega)]; omega), rfl⟩
  · have hb : (bits .and .u32 (r : Int) 1 == 0) = false := by rw [ha]; simp; omega
    clear ha
    go_enter Tryz.func117, Tryz.ntmps117
    go_wp2
    go_ret
    exact ⟨ret_int (by rw [show ((r : Int) / 2) = ((r / 2 : Nat) : Int) by omega, u32_xor_nat _ _ (by omega) (by omega), stp, if_pos (by omega)]), rfl⟩

def tabF (p k : Nat) (i : Nat) : Value := .int .u32 ((if i < k then stpN p 8 i else 0 : Nat) : Int)
def tabCells (p k : Nat) : Array Value := ((List.range 256).map (tabF p k)).toArray
theorem tab_size (p k : Nat) : (tabCells p k).size = 256 := by simp [tabCells]
theorem tab_get (p k i : Nat) (h : i < 256) : (tabCells p k)[i]? = some (tabF p k i) := by
  simp [tabCells, List.getElem?_map, List.getElem?_range h]
theorem tab_step (p k : Nat) (h : k < 256) : (tabCells p k).setIfInBounds k (.int .u32 (stpN p 8 k)) = tabCells p (k + 1) := by
  apply Array.ext_getElem?
  intro i
  by_cases hi : i < 256
  · rw [Array.getElem?_setIfInBounds, tab_get p k i hi, tab_get p (k + 1) i hi, tab_size]
    by_cases e : k = i
    · subst e; simp [tabF, h]
    · rw [if_neg e]
      simp only [tabF]
      congr 3
      by_cases hk : i < k
      · rw [if_pos hk, if_pos (by omega)]
      · rw [if_neg hk, if_neg (by omega)]
  · rw [Array.getElem?_eq_none (by simp [tab_size]; omega), Array.getElem?_eq_none (by simp [tab_size]; omega)]

set_option maxHeartbeats 800000 in
set_option maxRecDepth 100000 in
theorem fill_deferred (a : Addr) (g p : Nat) (t : TypeId) (w : World) (hp : p < 2 ^ 32) (hne : ¬ a.block = g) (ha : w.cell? a = some (.int .u32 p)) (hg : w.heap[g]? = some (.cells (tabCells p 0) t (0, 0))) :
    CallsD Tryz.prog 116 #[.pointer (some a), .pointer (some ⟨g, 0, none⟩)] .returning w fun e u' w' => u' = .returning ∧ (e = .returned (.tuple #[]) ∧ w' = w.setRow g (tabCells p 256)) := by
  have HG := Lib.hid hg
  have HA := Lib.hid ha
  clear hg ha
  go_enter_d Tryz.func116, Tryz.ntmps116
  go_wp2
  go_loopw [2, 3, 4, 9] (fun _ _ i _ wr => ∃ k : Nat, k ≤ 256 ∧ i = .int .i64 k ∧ wr = w.setRow g (tabCells p k)) (fun _ _ i _ _ => 256 - (intOf i).toNat)
  case atStart => exact ⟨0, by omega, rfl, (setRow_self w g _ t _ HG.out).symm⟩
  case round =>
    obtain ⟨k, hk, rfl, hwr⟩ := hrel
    have HW := Lib.hid hwr
    by_cases hlt : k < 256
    · have hrow := setRow_heap w g _ (tabCells p k) t _ HG.out
      rw [← hwr] at hrow
      have hc : wr.cell? a = some (.int .u32 p) := by rw [hwr, cell_setRow_other _ _ _ _ hne]; exact HA.out
      have HC := Lib.hid (show wr.cell? ⟨g, k, none⟩ = some (tabF p k k) by rw [cell_of_row _ _ _ _ _ _ hrow, tab_get p k k hlt])
      have HF := Lib.hid (frozen_of_row wr g k _ t hrow)
      have HR := Lib.hid hrow
      clear hwr hrow
      have hB : decide ((k : Int) < 256) = true := by simp; omega
      go_wp2_with fail
      go_loop [3, 9] (fun x j => ∃ m : Nat, m ≤ 8 ∧ j = .int .i64 m ∧ x = .int .u32 (stpN p m k)) (fun _ j => 8 - (intOf j).toNat)
      case atStart => exact ⟨0, by omega, rfl, rfl⟩
      case round =>
        obtain ⟨m, hm, rfl, rfl⟩ := hrel
        have hxl : stpN p m k < 2 ^ 32 := stpN_lt hp (by omega) m
        by_cases hm8 : m < 8
        · go_wp2_with (go_at_call 117; refine (halve_any _ _ _ hxl hp).mono ?_; rintro e w' ⟨rfl, rfl⟩)
          go_round
          case rel => exact ⟨m + 1, by omega, by go_num, rfl⟩
          case measure => simp [intOf]; omega
        · have e8 : m = 8 := by omega
          subst e8
          have hcg := HC.out
          have hfg := HF.out
          go_wp2
          go_roundw
          case rel => exact ⟨k + 1, by omega, by go_num, by rw [setCell_eq_setRow _ _ _ _ _ _ _ HR.out, HW.out, setRow_setRow, tab_step p k hlt]⟩
          case measure => simp [intOf]; omega
    · go_wp2
      go_end0
      exact ⟨rfl, by rw [show k = 256 from by omega]⟩

theorem zero_table (p : Nat) (w : World) : (zeroValue 122).run Tryz.prog w = .ok (.agg (tabCells p 0)) w := by kernel_rfl
theorem info_table : (Tryz.prog.info? 122).map (·.size) = some 256 := by kernel_rfl
theorem tab_one (p k : Nat) : (tabCells p k).all (·.oneCell') = true := by
  rw [Array.all_eq_true_iff_forall_mem]
  intro v hv
  simp only [tabCells, List.mem_toArray, List.mem_map] at hv
  obtain ⟨i, _, rfl⟩ := hv
  rfl
/-- what the table makes: a box of the polynomial, a row -/
def tabW (p k : Nat) (w : World) : World := (w.alloc (.cells #[.int .u32 p] 103)).alloc (.cells (tabCells p k) 122)

set_option maxRecDepth 100000 in
set_option maxHeartbeats 800000 in
theorem table_any (p : Nat) (w : World) (hp : p < 2 ^ 32) :
    Calls Tryz.prog 94 #[.int .u32 p] w fun e w' => e = .returned (.agg (tabCells p 256)) ∧ Below w.heap.size w w' := by
  have hmf : ∀ (fn : Fn) (first cap : Array Value) (w : World), (Instr.makeFunc fn first cap).run Tryz.prog w = .ok (.func fn first cap) w := fun _ _ _ _ => rfl
  have hz := zero_table p
  have H2 := Lib.hid (heap_alloc2_new w (.cells #[.int .u32 p] 103) (.cells (tabCells p 0) 122))
  go_enter_defers Tryz.func94, Tryz.ntmps94
  go_wp2_with (first | (refine wpList_load_row rfl 122 _ rfl (w.heap.size + 1) rfl 122 (tabCells p 0) _ _ H2.out Tryz.underlying122 rfl info_table ?_) | (refine wpList_store_row rfl 122 _ _ rfl (w.heap.size + 1) (tabCells p 0) rfl rfl 122 (tabCells p 0) H2.out info_table rfl (tab_one p 0) ?_))
  rw [setRow_self _ _ _ _ _ H2.out]
  refine leaves_cons (f := 116) (args := #[.pointer (some ⟨w.heap.size, 0, none⟩), .pointer (some ⟨w.heap.size + 1, 0, none⟩)]) (by simp) (by simp [go_sem]) ?_
  refine (fill_deferred ⟨w.heap.size, 0, none⟩ (w.heap.size + 1) p 122 _ hp (by simp) ?_ H2.out).mono ?_
  · simp [go_sem]
  rintro e u' w'' ⟨rfl, rfl, rfl⟩
  refine ⟨_, results_cell_row (p := 2) (ty := 122) (by kernel_rfl) _ _ (w.heap.size + 1) 122 (tabCells p 256) _ _ rfl (setRow_heap _ _ _ _ _ _ H2.out) Tryz.underlying122 rfl info_table, rfl, ?_⟩
  have hb : Below w.heap.size w ((w.alloc (.cells #[.int .u32 p] 103)).alloc (.cells (tabCells p 0) 122)) :=
    ((Below.refl _ _).alloc (Nat.le_refl _) _).alloc (by simp) _
  exact below_setRow hb (by omega) _

theorem tab_at (p : Nat) (i : Nat) (h : i < 256) : (tabCells p 256)[i]? = some (.int .u32 (stpN p 8 i : Nat)) := by
  rw [tab_get p 256 i h, tabF, if_pos h]
set_option maxRecDepth 100000 in
theorem take_any (p r g : Nat) (b : UInt8) (t : TypeId) (w : World) (hr : r < 2 ^ 32) (hp : p < 2 ^ 32) (hg : w.heap[g]? = some (.cells (tabCells p 256) t (0, 0))) :
    Calls Tryz.prog 95 #[.int .u32 r, .pointer (some ⟨g, 0, none⟩), .int .u8 b.toNat] w fun e w' => e = .returned (.int .u32 (crcB p r b)) ∧ w = w' := by
  have hb : b.toNat < 256 := UInt8.toNat_lt b
  have hx : (r % 256) ^^^ b.toNat < 256 := Nat.xor_lt_two_pow (n := 8) (by omega) hb
  have hc : w.cell? ⟨g, (r % 256) ^^^ b.toNat, none⟩ = some (.int .u32 (stpN p 8 ((r % 256) ^^^ b.toNat) : Nat)) := by
    rw [cell_of_row _ _ _ _ _ _ hg, tab_at _ _ hx]
  have hX : bits .xor .u8 ((r : Int) % 256) (b.toNat : Int) = (((r % 256) ^^^ b.toNat : Nat) : Int) := by
    rw [← u8_xor_nat _ _ (by omega) hb]; rfl
  have hX0 : (0 : Int) ≤ (((r % 256) ^^^ b.toNat : Nat) : Int) := by omega
  clear hg
  go_enter Tryz.func95, Tryz.ntmps95
  go_wp2
  go_ret
  have hd : ((r : Int) / 256) = ((r / 256 : Nat) : Int) := by omega
  have hl : stpN p 8 ((r % 256) ^^^ b.toNat) < 2 ^ 32 := stpN_lt hp (by omega) 8
  exact ⟨ret_int (by rw [hd, u32_xor_nat _ _ (by omega) (by omega), crcB_table]), rfl⟩
end Go.Proofs.YtcegpcggdcgjbaaGreatDoor
/- Contracts of SumRun, SumOf in the program and in the model. -/
namespace Go.Proofs.YtcegpcggdcgjbaaGreatDoor
open Go.ChangeShapes Go.WideShapes Go.ChangeAt Go.RowKit

theorem kind_or {k : Int} (h : kindB k = true) : k = 2 ∨ k = 4 := by simpa [kindB] using h
theorem allOf_nat (k : Int) : ∃ n : Nat, allOf k = n ∧ n < 2 ^ 32 ∧ (k = 2 → n = 65535) ∧ (k ≠ 2 → n = 4294967295) := by
  unfold allOf
  by_cases h : k = 2
  · exact ⟨65535, by simp [h], by omega, fun _ => rfl, fun h' => absurd h h'⟩
  · exact ⟨4294967295, by simp [h], by omega, fun h' => absurd h' h, fun _ => rfl⟩

set_option maxRecDepth 100000 in
set_option maxHeartbeats 1000000 in
theorem implRun_yes (kd : Int) (r : Nat) (s : ByteArray) (w : World) (hk : kindB kd = true) (hr : (r : Int) ≤ allOf kd) (hs : s.size ≤ maxLen) :
    Calls Tryz.prog 69 #[.int .i64 kd, .int .i64 r, .string s] w fun e w' => e = .returned (.int .i64 (crc (polyN kd) r s.data.toList)) ∧ Below w.heap.size w w' := by
  unfold maxLen at hs
  obtain ⟨all, hall, hal, _, _⟩ := allOf_nat kd
  have hp := polyN_lt kd
  have hr' : (r : Int) ≤ all := by rw [← hall]; exact hr
  have hr32 : r < 2 ^ 32 := by omega
  have h0 : decide ((r : Int) < 0) = false := by simp
  have h1 : decide ((all : Int) < (r : Int)) = false := by simp; omega
  have h1' : decide (all < r) = false := by simp; omega
  have HALL := Lib.hid hall
  have HP := Lib.hid (polyI_eq kd)
  clear hall hr
  have hz := zero_table (polyN kd)
  go_enter Tryz.func69, Tryz.ntmps69
  go_wp2_with (first | (go_at_call 66; refine (polyOf_yes _ _ hk).mono ?_; rintro e w' ⟨rfl, rfl⟩; rw [HP.out]) | (go_at_call 68; refine (implStart_yes _ _ hk).mono ?_; rintro e w' ⟨rfl, rfl⟩; rw [HALL.out]))
  refine (table_any _ _ hp).mono ?_
  rintro e w1 ⟨rfl, hb1⟩
  have H2 := Lib.hid (heap_alloc_new w1 (.cells (tabCells (polyN kd) 0) 122))
  have HB := Lib.hid hb1
  have H3 := Lib.hid (setRow_heap _ _ _ (tabCells (polyN kd) 256) _ _ H2.out)
  clear hb1
  go_wp2_with (refine wpList_store_row rfl 122 _ _ rfl w1.heap.size (tabCells (polyN kd) 256) rfl rfl 122 (tabCells (polyN kd) 0) H2.out info_table ((tab_size _ _).trans (tab_size _ _).symm) (tab_one _ 256) ?_)
  have HBW := Lib.hid (below_setRow (HB.out.trans ((Below.refl w1.heap.size w1).alloc (Nat.le_refl _) (.cells (tabCells (polyN kd) 0) 122) |>.mono HB.out.size)) HB.out.size (tabCells (polyN kd) 256))
  generalize (w1.alloc (.cells (tabCells (polyN kd) 0) 122)).setRow w1.heap.size (tabCells (polyN kd) 256) = w2 at *
  clear hz
  go_loop [10, 11, 35] (fun x _ i => ∃ k : Nat, k ≤ s.size ∧ i = .int .i64 k ∧ x = .int .u32 (crc (polyN kd) r (s.data.toList.take k))) (fun _ _ i => s.size - (intOf i).toNat)
  case atStart => exact ⟨0, Nat.zero_le _, rfl, rfl⟩
  case round =>
    obtain ⟨k, hk, rfl, rfl⟩ := hrel
    have hcl : crc (polyN kd) r (s.data.toList.take k) < 2 ^ 32 := crc_lt hp (by omega) _ hr32
    by_cases hlt : k < s.size
    · have HS := Lib.hid (show crc (polyN kd) r (s.data.toList.take (k + 1)) = crcB (polyN kd) (crc (polyN kd) r (s.data.toList.take k)) s[k] by rw [take_snoc s k hlt, crc_snoc]; rfl)
      go_wp2_with (go_at_call 95; refine (take_any (polyN kd) _ w1.heap.size _ _ _ hcl hp H3.out).mono ?_; rintro e w' ⟨rfl, rfl⟩)
      go_round
      case rel => exact ⟨k + 1, by omega, by go_num, val_int (by rw [HS.out])⟩
      case measure => simp [intOf]; omega
    · go_wp2
      go_ret
      exact ⟨ret_int (by rw [List.take_of_length_le (by simp; omega)]), HBW.out⟩

def runOkB (kd sum : Int) : Bool := kindB kd && (decide (0 ≤ sum) && decide (sum ≤ allOf kd))
set_option maxRecDepth 100000 in
theorem implRun_no (kd sum : Int) (s : ByteArray) (w : World) (h : runOkB kd sum = false) :
    Calls Tryz.prog 69 #[.int .i64 kd, .int .i64 sum, .string s] w fun e w' => e = .returned (.int .i64 (-1)) ∧ w = w' := by
  cases hk : kindB kd with
  | false =>
    have HK := Lib.hid hk
    clear hk h
    go_enter Tryz.func69, Tryz.ntmps69
    go_wp2_with (go_at_call 66; refine (polyOf_no _ _ HK.out).mono ?_; rintro e w' ⟨rfl, rfl⟩)
    go_ret
    exact ⟨rfl, rfl⟩
  | true =>
    have h' : 0 ≤ sum → allOf kd < sum := by simpa [runOkB, hk] using h
    have HK := Lib.hid hk
    clear hk h
    by_cases h0 : sum < 0
    · clear h'
      go_enter Tryz.func69, Tryz.ntmps69
      go_wp2_with (go_at_call 66; refine (polyOf_yes _ _ HK.out).mono ?_; rintro e w' ⟨rfl, rfl⟩)
      go_ret
      exact ⟨rfl, rfl⟩
    · have h1 : allOf kd < sum := h' (by omega)
      clear h'
      go_enter Tryz.func69, Tryz.ntmps69
      go_wp2_with (first | (go_at_call 66; refine (polyOf_yes _ _ HK.out).mono ?_; rintro e w' ⟨rfl, rfl⟩) | (go_at_call 68; refine (implStart_yes _ _ HK.out).mono ?_; rintro e w' ⟨rfl, rfl⟩))
      go_ret
      exact ⟨rfl, rfl⟩

/-- the sum of bytes -/
def sumN (kd : Int) (l : List UInt8) : Nat := crc (polyN kd) (allOf kd).toNat l ^^^ (allOf kd).toNat
theorem sumN_lt (kd : Int) (l : List UInt8) : sumN kd l < 2 ^ 32 := by
  obtain ⟨all, hall, hal, _, _⟩ := allOf_nat kd
  unfold sumN
  rw [hall]
  exact Nat.xor_lt_two_pow (crc_lt (polyN_lt kd) (by omega) _ (by simpa using hal)) (by simpa using hal)
theorem sum_xor (kd : Int) (l : List UInt8) : bits .xor .i64 ((crc (polyN kd) (allOf kd).toNat l : Nat) : Int) (allOf kd) = (sumN kd l : Nat) := by
  obtain ⟨all, hall, hal, _, _⟩ := allOf_nat kd
  unfold sumN
  rw [hall, Int.toNat_natCast]
  have := crc_lt (polyN_lt kd) (by omega) l hal
  exact bits_xor_i64_nat _ _ (by omega) (by omega)
theorem runOk_iff {kd sum : Int} (h : runOkB kd sum = true) : kindB kd = true ∧ 0 ≤ sum ∧ sum ≤ allOf kd := by simpa [runOkB] using h
theorem runOk_all {kd : Int} (hk : kindB kd = true) : runOkB kd (allOf kd) = true := by
  obtain ⟨all, hall, _⟩ := allOf_nat kd
  simp [runOkB, hk]; omega
theorem implRun_ok (kd sum : Int) (s : ByteArray) (w : World) (h : runOkB kd sum = true) (hs : s.size ≤ maxLen) :
    Calls Tryz.prog 69 #[.int .i64 kd, .int .i64 sum, .string s] w fun e w' => e = .returned (.int .i64 (crc (polyN kd) sum.toNat s.data.toList)) ∧ Below w.heap.size w w' := by
  obtain ⟨hk, h0, h1⟩ := runOk_iff h
  obtain ⟨n, rfl⟩ := Int.eq_ofNat_of_zero_le h0
  rw [Int.toNat_natCast]
  exact implRun_yes kd n s w hk h1 hs
theorem l1Run_all (kd : Int) (s : ByteArray) (w : World) (hs : s.size ≤ maxLen) :
    Calls Tryz.prog 88 #[.int .i64 kd, .int .i64 (allOf kd), .string s] w fun e w' => e = .returned (.int .i64 (crc (polyN kd) (allOf kd).toNat s.data.toList)) ∧ w = w' := by
  obtain ⟨all, hall, hal, _⟩ := allOf_nat kd
  rw [hall, Int.toNat_natCast]
  exact l1Run_any kd all s w hal hs
theorem implOf_yes (kd : Int) (s : ByteArray) (w : World) (hk : kindB kd = true) (hs : s.size ≤ maxLen) :
    Calls Tryz.prog 38 #[.int .i64 kd, .string s] w fun e w' => e = .returned (.int .i64 (sumN kd s.data.toList)) ∧ Below w.heap.size w w' := by
  have HX := Lib.hid (sum_xor kd s.data.toList)
  have h0 : 0 ≤ allOf kd := by obtain ⟨all, hall, _⟩ := allOf_nat kd; omega
  go_enter Tryz.func38, Tryz.ntmps38
  go_wp2_with (go_at_call 68; refine (implStart_yes _ _ hk).mono ?_; rintro e w' ⟨rfl, rfl⟩)
  refine (implRun_ok _ _ _ _ (runOk_all hk) hs).mono ?_
  rintro e w1 ⟨rfl, hb1⟩
  go_wp2
  go_ret
  exact ⟨ret_int HX.out, hb1⟩
theorem implOf_no (kd : Int) (s : ByteArray) (w : World) (hk : kindB kd = false) :
    Calls Tryz.prog 38 #[.int .i64 kd, .string s] w fun e w' => e = .returned (.int .i64 (-1)) ∧ w = w' := by
  go_enter Tryz.func38, Tryz.ntmps38
  go_wp2_with (go_at_call 68; refine (implStart_no _ _ hk).mono ?_; rintro e w' ⟨rfl, rfl⟩)
  go_ret
  exact ⟨rfl, rfl⟩
theorem l1Of_any (kd : Int) (s : ByteArray) (w : World) (hs : s.size ≤ maxLen) :
    Calls Tryz.prog 62 #[.int .i64 kd, .string s] w fun e w' => e = .returned (.int .i64 (sumN kd s.data.toList)) ∧ w = w' := by
  have HX := Lib.hid (sum_xor kd s.data.toList)
  go_enter Tryz.func62, Tryz.ntmps62
  go_wp2_with (first | (go_at_call 89; refine (l1All_any _ _).mono ?_; rintro e w' ⟨rfl, rfl⟩) | (go_at_call 88; refine (l1Run_all _ _ _ hs).mono ?_; rintro e w' ⟨rfl, rfl⟩))
  go_ret
  exact ⟨ret_int HX.out, rfl⟩
end Go.Proofs.YtcegpcggdcgjbaaGreatDoor
/- Contracts of SumPut in the program and in the model. -/
namespace Go.Proofs.YtcegpcggdcgjbaaGreatDoor
open Go.ChangeShapes Go.WideShapes Go.ChangeAt Go.RowKit

/-- the k lowest bytes of a number, the lowest first -/
def leB (n k : Nat) : List UInt8 := (List.range k).map fun i => UInt8.ofNat (n / 256 ^ i % 256)
theorem leB_succ (n k : Nat) : leB n (k + 1) = leB n k ++ [UInt8.ofNat (n / 256 ^ k % 256)] := by
  simp [leB, List.range_succ]
theorem leB_length (n k : Nat) : (leB n k).length = k := by simp [leB]
theorem div_step (n k : Nat) : n / 256 ^ k / 256 = n / 256 ^ (k + 1) := by rw [Nat.div_div_eq_div_mul, Nat.pow_succ]
set_option maxRecDepth 100000 in
set_option maxHeartbeats 1000000 in
theorem l1Put_any (kd : Int) (s : ByteArray) (w : World) (hk : kindB kd = true) (hs : s.size ≤ 140737488355000) :
    Calls Tryz.prog 84 #[.int .i64 kd, .string s] w fun e w' => e = .returned (.string ⟨(s.data.toList ++ leB (sumN kd s.data.toList) kd.toNat).toArray⟩) ∧ Below w.heap.size w w' := by
  have hmax : s.size ≤ maxLen := by unfold maxLen; omega
  have hsl : s.data.toList.length = s.size := by simp
  obtain ⟨i0, hi, hz0, hz1, hz2⟩ := info_parts info_u8
  have HI := Lib.hid hi
  have HZ0 := Lib.hid hz0
  have HZ1 := Lib.hid hz1
  have HZ2 := Lib.hid hz2
  have HSL := Lib.hid hsl
  have hkk : 2 ≤ kd ∧ kd ≤ 4 := by rcases kind_or hk with rfl | rfl <;> omega
  obtain ⟨hk2, hk4⟩ := hkk
  clear hi hz0 hz1 hz2 hk hsl
  go_enter Tryz.func84, Tryz.ntmps84
  go_wp2_with (first | (refine wpList_bytes_of_string _ rfl 9 22 5 _ rfl s rfl Tryz.underlying9 Tryz.underlying22 Tryz.underlying5 hmax ?_; intro v1 w1 hown1 hb1) | (go_at_call 62; refine (l1Of_any _ _ _ hmax).mono ?_; rintro e w' ⟨rfl, rfl⟩))
  have hsum := sumN_lt kd s.data.toList
  generalize hsm : sumN kd s.data.toList = S at *
  have HSM := Lib.hid hsm
  clear hsm
  go_loopw [5, 6, 7] (fun v n i wr => ∃ k : Nat, (k : Int) ≤ kd ∧ i = .int .i64 k ∧ n = .int .i64 ((S / 256 ^ k : Nat) : Int) ∧ OB 5 wr w.heap.size v (s.data.toList ++ leB S k) ∧ Below w.heap.size w wr) (fun _ _ i _ => kd.toNat - (intOf i).toNat)
  case atStart => exact ⟨0, by omega, rfl, by simp, by simpa [leB] using hown1, hb1⟩
  case round =>
    obtain ⟨k, hk, rfl, rfl, hown, hb⟩ := hrel
    have hx : S / 256 ^ k < 2 ^ 32 := Nat.lt_of_le_of_lt (Nat.div_le_self _ _) hsum
    have HO := Lib.hid hown
    have HB := Lib.hid hb
    clear hown hb hown1 hb1
    by_cases hlt : (k : Int) < kd
    · have hl : (s.data.toList ++ leB S k).length + [UInt8.ofNat (S / 256 ^ k % 256)].length ≤ 140737488355328 := by rw [List.length_append, HSL.out, leB_length]; simp; omega
      have HL := Lib.hid hl
      clear hl
      generalize hX : S / 256 ^ k = X at *
      have HX := Lib.hid hX
      clear hX
      go_wp2_with (at_builtin; refine wpList_append_OB _ rfl _ _ 22 rfl w.heap.size 5 i0 Tryz.underlying22 HI.out HZ0.out HZ1.out HZ2.out _ (s.data.toList ++ leB S k) rfl (HO.out.alloc _) ⟨wr.heap.size, 0, none⟩ 1 1 [UInt8.ofNat (X % 256)] rfl rfl (one_new wr _ _ _ (byteV_of X)) HL.out (by have := HB.out.size; simp; omega) ?_; intro v2 w2 hown2 hg2)
      go_roundw
      case rel =>
        refine ⟨k + 1, by omega, by go_num, val_int (by rw [← div_step, HX.out]; omega), ?_, ?_⟩
        · rw [leB_succ, HX.out, ← List.append_assoc]; exact hown2
        · exact (HB.out.alloc HB.out.size _).grown hg2 (by have := HB.out.size; simp; omega) (fun k hk => (HO.out.lt k hk).1)
      case measure => simp [intOf]; omega
    · go_wp2_with (refine wpList_string_of_OB _ rfl 22 9 5 _ rfl w.heap.size _ _ rfl Tryz.underlying22 Tryz.underlying5 Tryz.underlying9 HO.out ?_)
      go_ret
      exact ⟨by rw [HSM.out, show k = kd.toNat from by omega]; rfl, HB.out⟩

set_option maxRecDepth 100000 in
set_option maxHeartbeats 1000000 in
theorem implPut_yes (kd : Int) (s : ByteArray) (w : World) (hk : kindB kd = true) (hs : s.size ≤ 140737488355000) :
    Calls Tryz.prog 23 #[.int .i64 kd, .string s] w fun e w' => e = .returned (.string ⟨(s.data.toList ++ leB (sumN kd s.data.toList) kd.toNat).toArray⟩) ∧ Below w.heap.size w w' := by
  have hmax : s.size ≤ maxLen := by unfold maxLen; omega
  have hsl : s.data.toList.length = s.size := by simp
  obtain ⟨i0, hi, hz0, hz1, hz2⟩ := info_parts info_u8
  have HI := Lib.hid hi
  have HZ0 := Lib.hid hz0
  have HZ1 := Lib.hid hz1
  have HZ2 := Lib.hid hz2
  have HSL := Lib.hid hsl
  have HK := Lib.hid hk
  have hkk : 2 ≤ kd ∧ kd ≤ 4 := by rcases kind_or hk with rfl | rfl <;> omega
  obtain ⟨hk2, hk4⟩ := hkk
  have hsum := sumN_lt kd s.data.toList
  have hn0 : decide (((sumN kd s.data.toList : Nat) : Int) < 0) = false := by simp
  clear hi hz0 hz1 hz2 hk hsl
  go_enter Tryz.func23, Tryz.ntmps23
  go_wp2_with (first | (go_at_call 38; refine (implOf_yes _ _ _ HK.out hmax).mono ?_; rintro e w0 ⟨rfl, hb0⟩) | (refine wpList_bytes_of_string _ rfl 9 22 5 _ rfl s rfl Tryz.underlying9 Tryz.underlying22 Tryz.underlying5 hmax ?_; intro v1 w1 hown1 hb1))
  generalize hsm : sumN kd s.data.toList = S at *
  have HSM := Lib.hid hsm
  clear hsm
  have hown1' := hown1.mono hb0.size
  have hb1' := hb0.trans (hb1.mono hb0.size)
  clear hown1 hb1 hb0
  go_loopw [5, 6, 15] (fun n v i wr => ∃ k : Nat, (k : Int) ≤ kd ∧ i = .int .i64 k ∧ n = .int .i64 ((S / 256 ^ k : Nat) : Int) ∧ OB 5 wr w.heap.size v (s.data.toList ++ leB S k) ∧ Below w.heap.size w wr) (fun _ _ i _ => kd.toNat - (intOf i).toNat)
  case atStart => exact ⟨0, by omega, rfl, by simp, by simpa [leB] using hown1', hb1'⟩
  case round =>
    obtain ⟨k, hk, rfl, rfl, hown, hb⟩ := hrel
    have hx : S / 256 ^ k < 2 ^ 32 := Nat.lt_of_le_of_lt (Nat.div_le_self _ _) hsum
    have HO := Lib.hid hown
    have HB := Lib.hid hb
    clear hown hb hown1' hb1'
    by_cases hlt : (k : Int) < kd
    · have hl : (s.data.toList ++ leB S k).length + [UInt8.ofNat (S / 256 ^ k % 256)].length ≤ 140737488355328 := by rw [List.length_append, HSL.out, leB_length]; simp; omega
      have HL := Lib.hid hl
      clear hl
      generalize hX : S / 256 ^ k = X at *
      have HX := Lib.hid hX
      clear hX
      go_wp2_with (at_builtin; refine wpList_append_OB _ rfl _ _ 22 rfl w.heap.size 5 i0 Tryz.underlying22 HI.out HZ0.out HZ1.out HZ2.out _ (s.data.toList ++ leB S k) rfl (HO.out.alloc _) ⟨wr.heap.size, 0, none⟩ 1 1 [UInt8.ofNat (X % 256)] rfl rfl (one_new wr _ _ _ (byteV_of X)) HL.out (by have := HB.out.size; simp; omega) ?_; intro v2 w2 hown2 hg2)
      go_roundw
      case rel =>
        refine ⟨k + 1, by omega, by go_num, val_int (by rw [← div_step, HX.out]; omega), ?_, ?_⟩
        · rw [leB_succ, HX.out, ← List.append_assoc]; exact hown2
        · exact (HB.out.alloc HB.out.size _).grown hg2 (by have := HB.out.size; simp; omega) (fun k hk => (HO.out.lt k hk).1)
      case measure => simp [intOf]; omega
    · go_wp2_with (refine wpList_string_of_OB _ rfl 22 9 5 _ rfl w.heap.size _ _ rfl Tryz.underlying22 Tryz.underlying5 Tryz.underlying9 HO.out ?_)
      go_ret
      exact ⟨by rw [HSM.out, show k = kd.toNat from by omega]; rfl, HB.out⟩
theorem implPut_no (kd : Int) (s : ByteArray) (w : World) (hk : kindB kd = false) :
    Calls Tryz.prog 23 #[.int .i64 kd, .string s] w fun e w' => e = .returned (.string ⟨#[]⟩) ∧ w = w' := by
  go_enter Tryz.func23, Tryz.ntmps23
  go_wp2_with (go_at_call 38; refine (implOf_no _ _ _ hk).mono ?_; rintro e w0 ⟨rfl, rfl⟩)
  go_ret
  exact ⟨rfl, rfl⟩
end Go.Proofs.YtcegpcggdcgjbaaGreatDoor
/- Contracts of SumGet, SumGood in the program and in the model. -/
namespace Go.Proofs.YtcegpcggdcgjbaaGreatDoor
open Go.ChangeShapes Go.WideShapes Go.ChangeAt Go.RowKit

def putL (kd : Int) (l : List UInt8) : List UInt8 := l ++ leB (sumN kd l) kd.toNat
/-- what SumGet reads: all but the last bytes, if the sum is theirs -/
def cutL (kd : Int) (l : List UInt8) : List UInt8 := l.take (l.length - kd.toNat)
def getB (kd : Int) (l : List UInt8) : Bool := kindB kd && decide (kd.toNat ≤ l.length) && (putL kd (cutL kd l) == l)

theorem ext_cut (kd : Int) (s : ByteArray) (h0 : 0 ≤ kd) (hl : kd.toNat ≤ s.size) : (s.extract 0 ((s.size : Int) - kd).toNat).data.toList = cutL kd s.data.toList := by
  rw [Lib.extract_data]
  simp [cutL]
  congr 1
  omega
set_option maxRecDepth 100000 in
theorem implGet_short (kd : Int) (s : ByteArray) (w : World) (h : (kindB kd && decide (kd.toNat ≤ s.size)) = false) :
    Calls Tryz.prog 147 #[.int .i64 kd, .string s] w fun e w' => e = .returned (.tuple #[.string ⟨#[]⟩, .bool false]) ∧ w = w' := by
  cases hk : kindB kd with
  | false =>
    have HK := Lib.hid hk
    clear h hk
    go_enter Tryz.func147, Tryz.ntmps147
    go_wp2_with (go_at_call 66; refine (polyOf_no _ _ HK.out).mono ?_; rintro e w' ⟨rfl, rfl⟩)
    go_ret2
    exact ⟨rfl, rfl⟩
  | true =>
    have h' : s.size < kd.toNat := by simpa [hk] using h
    have hlt : (s.size : Int) < kd := by omega
    have HK := Lib.hid hk
    clear h hk h'
    go_enter Tryz.func147, Tryz.ntmps147
    go_wp2_with (go_at_call 66; refine (polyOf_yes _ _ HK.out).mono ?_; rintro e w' ⟨rfl, rfl⟩)
    go_ret2
    exact ⟨rfl, rfl⟩

theorem getB_long {kd : Int} {s : ByteArray} (hk : kindB kd = true) (hl : kd.toNat ≤ s.size) : getB kd s.data.toList = (cutL kd s.data.toList ++ leB (sumN kd (cutL kd s.data.toList)) kd.toNat == s.toList) := by
  have hl' : kd.toNat ≤ s.data.toList.length := by rw [← Lib.size_eq]; exact hl
  rw [Lib.toList_data]
  simp only [getB, hk, putL, decide_eq_true hl', Bool.true_and]
theorem cut_mk {T : ByteArray} {l : List UInt8} (h : T.data.toList = l) : T = ⟨l.toArray⟩ := by rw [← h, Lib.mk_data]

set_option maxRecDepth 100000 in
theorem implGet_hit (kd : Int) (s : ByteArray) (w : World) (hs : s.size ≤ 140737488355000) (hg : getB kd s.data.toList = true) :
    Calls Tryz.prog 147 #[.int .i64 kd, .string s] w fun e w' => e = .returned (.tuple #[.string ⟨(cutL kd s.data.toList).toArray⟩, .bool true]) ∧ Below w.heap.size w w' := by
  have hk : kindB kd = true := by simp [getB] at hg; exact hg.1.1
  have hl : kd.toNat ≤ s.size := by simp [getB] at hg; omega
  have hkk : 2 ≤ kd ∧ kd ≤ 4 := by rcases kind_or hk with rfl | rfl <;> omega
  obtain ⟨hk2, hk4⟩ := hkk
  have hge : ¬ (s.size : Int) < kd := by omega
  have hge' : decide ((s.size : Int) < kd) = false := by simp; omega
  have HK := Lib.hid hk
  rw [getB_long hk hl] at hg
  have HG := Lib.hid hg
  clear hk hg
  go_enter Tryz.func147, Tryz.ntmps147
  go_wp2_with (first | (go_at_call 66; refine (polyOf_yes _ _ HK.out).mono ?_; rintro e w' ⟨rfl, rfl⟩))
  have HT := Lib.hid (ext_cut kd s (by omega) (by omega))
  have hT : (s.extract 0 ((s.size : Int) - kd).toNat).size ≤ s.size := by simp; omega
  generalize s.extract 0 ((s.size : Int) - kd).toNat = T at *
  refine (implPut_yes _ _ _ HK.out (by omega)).mono ?_
  rintro e w1 ⟨rfl, hb1⟩
  have hg := HG.out
  rw [← HT.out] at hg
  have HB1 := Lib.hid hb1
  clear hb1
  go_wp2_with (go_at_call 156; refine (clone_any _ _ (by omega)).mono ?_; rintro e w2 ⟨rfl, hb2⟩)
  go_ret2
  exact ⟨by rw [← HT.out, Lib.mk_data]; rfl, HB1.out.trans (hb2.mono HB1.out.size)⟩

set_option maxRecDepth 100000 in
theorem implGet_miss (kd : Int) (s : ByteArray) (w : World) (hs : s.size ≤ 140737488355000) (hg : getB kd s.data.toList = false) :
    Calls Tryz.prog 147 #[.int .i64 kd, .string s] w fun e w' => e = .returned (.tuple #[.string ⟨#[]⟩, .bool false]) ∧ Below w.heap.size w w' := by
  cases hc : (kindB kd && decide (kd.toNat ≤ s.size)) with
  | false =>
    refine (implGet_short kd s w hc).mono ?_
    rintro e w' ⟨rfl, rfl⟩
    exact ⟨rfl, Below.refl _ _⟩
  | true =>
    obtain ⟨hk, hl⟩ : kindB kd = true ∧ kd.toNat ≤ s.size := by simpa using hc
    clear hc
    have hkk : 2 ≤ kd ∧ kd ≤ 4 := by rcases kind_or hk with rfl | rfl <;> omega
    obtain ⟨hk2, hk4⟩ := hkk
    have hge : ¬ (s.size : Int) < kd := by omega
    have hge' : decide ((s.size : Int) < kd) = false := by simp; omega
    have HK := Lib.hid hk
    rw [getB_long hk hl] at hg
    have HG := Lib.hid hg
    clear hk hg
    go_enter Tryz.func147, Tryz.ntmps147
    go_wp2_with (first | (go_at_call 66; refine (polyOf_yes _ _ HK.out).mono ?_; rintro e w' ⟨rfl, rfl⟩))
    have HT := Lib.hid (ext_cut kd s (by omega) (by omega))
    have hT : (s.extract 0 ((s.size : Int) - kd).toNat).size ≤ s.size := by simp; omega
    generalize s.extract 0 ((s.size : Int) - kd).toNat = T at *
    refine (implPut_yes _ _ _ HK.out (by omega)).mono ?_
    rintro e w1 ⟨rfl, hb1⟩
    have hg := HG.out
    rw [← HT.out] at hg
    have HB1 := Lib.hid hb1
    clear hb1
    go_wp2
    go_ret2
    exact ⟨rfl, HB1.out⟩
theorem specGet_short (kd : Int) (s : ByteArray) (w : World) (h : (kindB kd && decide (kd.toNat ≤ s.size)) = false) :
    Calls Tryz.prog 141 #[.int .i64 kd, .string s] w fun e w' => e = .returned (.tuple #[.string ⟨#[]⟩, .bool false]) ∧ w = w' := by
  cases hk : kindB kd with
  | false =>
    clear h
    go_enter Tryz.func141, Tryz.ntmps141
    go_wp2_with (go_at_call 81; refine (l1Kind_any _ _).mono ?_; rintro e w' ⟨rfl, rfl⟩)
    go_ret2
    exact ⟨rfl, rfl⟩
  | true =>
    have h' : s.size < kd.toNat := by simpa [hk] using h
    have hlt : (s.size : Int) < kd := by omega
    clear h h'
    go_enter Tryz.func141, Tryz.ntmps141
    go_wp2_with (go_at_call 81; refine (l1Kind_any _ _).mono ?_; rintro e w' ⟨rfl, rfl⟩)
    go_ret2
    exact ⟨rfl, rfl⟩
set_option maxRecDepth 100000 in
theorem specGet_hit (kd : Int) (s : ByteArray) (w : World) (hs : s.size ≤ 140737488355000) (hg : getB kd s.data.toList = true) :
    Calls Tryz.prog 141 #[.int .i64 kd, .string s] w fun e w' => e = .returned (.tuple #[.string ⟨(cutL kd s.data.toList).toArray⟩, .bool true]) ∧ Below w.heap.size w w' := by
  have hk : kindB kd = true := by simp [getB] at hg; exact hg.1.1
  have hl : kd.toNat ≤ s.size := by simp [getB] at hg; omega
  have hkk : 2 ≤ kd ∧ kd ≤ 4 := by rcases kind_or hk with rfl | rfl <;> omega
  obtain ⟨hk2, hk4⟩ := hkk
  have hge : ¬ (s.size : Int) < kd := by omega
  have hge' : decide ((s.size : Int) < kd) = false := by simp; omega
  have HK := Lib.hid hk
  rw [getB_long hk hl] at hg
  have HG := Lib.hid hg
  clear hg
  go_enter Tryz.func141, Tryz.ntmps141
  go_wp2_with (first | (go_at_call 81; refine (l1Kind_any _ _).mono ?_; rintro e w' ⟨rfl, rfl⟩))
  have HT := Lib.hid (ext_cut kd s (by omega) (by omega))
  have hT : (s.extract 0 ((s.size : Int) - kd).toNat).size ≤ s.size := by simp; omega
  generalize s.extract 0 ((s.size : Int) - kd).toNat = T at *
  refine (l1Put_any _ _ _ HK.out (by omega)).mono ?_
  rintro e w1 ⟨rfl, hb1⟩
  have hg := HG.out
  rw [← HT.out] at hg
  have HB1 := Lib.hid hb1
  clear hb1
  go_wp2
  go_ret2
  exact ⟨by rw [← HT.out, Lib.mk_data]; rfl, HB1.out⟩
set_option maxRecDepth 100000 in
theorem specGet_miss (kd : Int) (s : ByteArray) (w : World) (hs : s.size ≤ 140737488355000) (hg : getB kd s.data.toList = false) :
    Calls Tryz.prog 141 #[.int .i64 kd, .string s] w fun e w' => e = .returned (.tuple #[.string ⟨#[]⟩, .bool false]) ∧ Below w.heap.size w w' := by
  cases hc : (kindB kd && decide (kd.toNat ≤ s.size)) with
  | false =>
    refine (specGet_short kd s w hc).mono ?_
    rintro e w' ⟨rfl, rfl⟩
    exact ⟨rfl, Below.refl _ _⟩
  | true =>
    obtain ⟨hk, hl⟩ : kindB kd = true ∧ kd.toNat ≤ s.size := by simpa using hc
    clear hc
    have hkk : 2 ≤ kd ∧ kd ≤ 4 := by rcases kind_or hk with rfl | rfl <;> omega
    obtain ⟨hk2, hk4⟩ := hkk
    have hge : ¬ (s.size : Int) < kd := by omega
    have hge' : decide ((s.size : Int) < kd) = false := by simp; omega
    have HK := Lib.hid hk
    rw [getB_long hk hl] at hg
    have HG := Lib.hid hg
    clear hg
    go_enter Tryz.func141, Tryz.ntmps141
    go_wp2_with (first | (go_at_call 81; refine (l1Kind_any _ _).mono ?_; rintro e w' ⟨rfl, rfl⟩))
    have HT := Lib.hid (ext_cut kd s (by omega) (by omega))
    have hT : (s.extract 0 ((s.size : Int) - kd).toNat).size ≤ s.size := by simp; omega
    generalize s.extract 0 ((s.size : Int) - kd).toNat = T at *
    refine (l1Put_any _ _ _ HK.out (by omega)).mono ?_
    rintro e w1 ⟨rfl, hb1⟩
    have hg := HG.out
    rw [← HT.out] at hg
    have HB1 := Lib.hid hb1
    clear hb1
    go_wp2
    go_ret2
    exact ⟨rfl, HB1.out⟩
end Go.Proofs.YtcegpcggdcgjbaaGreatDoor
/- Contracts of SumGood in the program and in the model. -/
namespace Go.Proofs.YtcegpcggdcgjbaaGreatDoor
open Go.ChangeShapes Go.WideShapes Go.ChangeAt Go.RowKit
def goodN (kd : Int) : Nat := crc (polyN kd) (allOf kd).toNat (putL kd [])
theorem put_nil_size (kd : Int) : (⟨(putL kd []).toArray⟩ : ByteArray).size = kd.toNat := by
  show (putL kd []).toArray.size = _
  simp [putL, leB_length]
end Go.Proofs.YtcegpcggdcgjbaaGreatDoor
/- Plain facts on the sums: they fit, they are the known ones. -/
namespace Go.Proofs.YtcegpcggdcgjbaaGreatDoor
open Go.ChangeShapes Go.WideShapes Go.ChangeAt Go.RowKit
theorem crc_le_all {kd : Int} (hk : kindB kd = true) {r : Nat} (hr : (r : Int) ≤ allOf kd) (l : List UInt8) : ((crc (polyN kd) r l : Nat) : Int) ≤ allOf kd := by
  rcases kind_or hk with rfl | rfl
  · have := crc_lt (p := polyN 2) (r := r) (n := 16) (by decide) (by omega) l (by simp [allOf] at hr; omega)
    simp [allOf]; omega
  · have := crc_lt (p := polyN 4) (r := r) (n := 32) (by decide) (by omega) l (by simp [allOf] at hr; omega)
    simp [allOf]; omega
theorem sumN_le_all {kd : Int} (hk : kindB kd = true) (l : List UInt8) : ((sumN kd l : Nat) : Int) ≤ allOf kd := by
  rcases kind_or hk with rfl | rfl
  · have := crc_lt (p := polyN 2) (r := 65535) (n := 16) (by decide) (by omega) l (by omega)
    have h2 : sumN 2 l < 2 ^ 16 := Nat.xor_lt_two_pow this (by decide)
    simp [allOf]; omega
  · have := crc_lt (p := polyN 4) (r := 4294967295) (n := 32) (by decide) (by omega) l (by omega)
    have h2 : sumN 4 l < 2 ^ 32 := Nat.xor_lt_two_pow this (by decide)
    simp [allOf]; omega
theorem known2 : sumN 2 [49, 50, 51, 52, 53, 54, 55, 56, 57] = 36974 := by decide +kernel
theorem known4 : sumN 4 [49, 50, 51, 52, 53, 54, 55, 56, 57] = 3421780262 := by decide +kernel
theorem good2 : goodN 2 = 61624 := by decide +kernel
theorem good4 : goodN 4 = 3736805603 := by decide +kernel
end Go.Proofs.YtcegpcggdcgjbaaGreatDoor
/- Plain mathematics of the checksums, second part: linearity in the bytes, the residue, single errors. -/
namespace Go.Proofs.YtcegpcggdcgjbaaGreatDoor

def xorL (l m : List UInt8) : List UInt8 := List.zipWith (· ^^^ ·) l m
theorem crcB_xor2 (p a b : Nat) (x y : UInt8) : crcB p (a ^^^ b) (x ^^^ y) = crcB p a x ^^^ crcB p b y := by
  unfold crcB
  rw [UInt8.toNat_xor, show a ^^^ b ^^^ (x.toNat ^^^ y.toNat) = (a ^^^ x.toNat) ^^^ (b ^^^ y.toNat) by
    rw [Nat.xor_assoc, Nat.xor_assoc, ← Nat.xor_assoc b, Nat.xor_comm b, Nat.xor_assoc], stpN_xor]
theorem crc_xor2 (p a b : Nat) (l m : List UInt8) (h : l.length = m.length) : crc p (a ^^^ b) (xorL l m) = crc p a l ^^^ crc p b m := by
  induction l generalizing a b m with
  | nil => cases m with | nil => rfl | cons y m => simp at h
  | cons x l ih =>
    cases m with
    | nil => simp at h
    | cons y m =>
      simp only [xorL, List.zipWith_cons_cons, crc, List.foldl_cons]
      rw [crcB_xor2]
      exact ih _ _ _ (by simpa using h)

/-- a step turns no register but nought into nought -/
theorem stp_ne {p n x : Nat} (hp : 2 ^ n ≤ p) (hx : x < 2 ^ (n + 1)) (h : stp p x = 0) : x = 0 := by
  unfold stp at h
  split at h
  · have h2 : x / 2 = p := by
      have := congrArg (· ^^^ p) h
      simpa [Nat.xor_assoc] using this
    rw [Nat.pow_succ] at hx
    omega
  · omega
theorem stpN_ne {p n : Nat} (hp : 2 ^ n ≤ p) (hp2 : p < 2 ^ (n + 1)) (k : Nat) {x : Nat} (hx : x < 2 ^ (n + 1)) (h : stpN p k x = 0) : x = 0 := by
  induction k with
  | zero => exact h
  | succ k ih => exact ih (stp_ne hp (stpN_lt hp2 hx k) h)
theorem stpN_add (p j k x : Nat) : stpN p (j + k) x = stpN p j (stpN p k x) := by
  induction j with
  | zero => simp [stpN]
  | succ j ih => rw [show j + 1 + k = (j + k) + 1 by omega, stpN, stpN, ih]
theorem crc_zeros (p r n : Nat) : crc p r (List.replicate n 0) = stpN p (8 * n) r := by
  induction n generalizing r with
  | zero => rfl
  | succ n ih =>
    have : crc p r (List.replicate (n + 1) 0) = crc p (crcB p r 0) (List.replicate n 0) := by simp [crc, List.replicate_succ]
    rw [this, ih, show 8 * (n + 1) = 8 * n + 8 by omega, stpN_add]
    unfold crcB
    rw [show (0 : UInt8).toNat = 0 from rfl, Nat.xor_zero]

theorem pow256 (i : Nat) : 256 ^ i = 2 ^ (8 * i) := by rw [show (256 : Nat) = 2 ^ 8 from rfl, ← Nat.pow_mul]
theorem leB_xor (x y k : Nat) : leB (x ^^^ y) k = xorL (leB x k) (leB y k) := by
  apply List.ext_getElem
  · simp [leB, xorL]
  · intro i h1 h2
    simp only [leB, xorL, List.getElem_map, List.getElem_range, List.getElem_zipWith]
    apply UInt8.toNat_inj.1
    rw [UInt8.toNat_xor]
    simp only [UInt8.toNat_ofNat']
    rw [pow256, ← Nat.shiftRight_eq_div_pow, ← Nat.shiftRight_eq_div_pow, ← Nat.shiftRight_eq_div_pow, Nat.shiftRight_xor_distrib, show (256 : Nat) = 2 ^ 8 from rfl, Nat.xor_mod_two_pow, Nat.xor_mod_two_pow]
theorem leB_cons (n k : Nat) : leB n (k + 1) = UInt8.ofNat (n % 256) :: leB (n / 256) k := by
  simp only [leB, List.range_succ_eq_map, List.map_cons, List.map_map, Nat.pow_zero, Nat.div_one]
  congr 1
  apply List.map_congr_left
  intro i _
  simp only [Function.comp]
  rw [Nat.pow_succ, Nat.mul_comm, Nat.div_div_eq_div_mul]
theorem crcB_low (p r : Nat) : crcB p r (UInt8.ofNat (r % 256)) = r / 256 := by
  unfold crcB
  have h : (UInt8.ofNat (r % 256)).toNat = r % 256 := by rw [UInt8.toNat_ofNat']; omega
  rw [h]
  have e : r ^^^ r % 256 = 2 ^ 8 * (r / 256) := by
    conv => lhs; lhs; rw [split8 r]
    rw [Nat.xor_assoc, Nat.xor_self, Nat.xor_zero]
  rw [e, stpN_shl]
/-- a register behind its own bytes is what is left of it -/
theorem crc_self (p r k : Nat) : crc p r (leB r k) = r / 256 ^ k := by
  induction k generalizing r with
  | zero => simp [leB, crc]
  | succ k ih =>
    rw [leB_cons]
    have : crc p r (UInt8.ofNat (r % 256) :: leB (r / 256) k) = crc p (crcB p r (UInt8.ofNat (r % 256))) (leB (r / 256) k) := rfl
    rw [this, crcB_low, ih, Nat.div_div_eq_div_mul, Nat.pow_succ, Nat.mul_comm]
theorem leB_zero (k : Nat) : leB 0 k = List.replicate k 0 := by
  apply List.ext_getElem
  · simp [leB]
  · intro i h1 h2
    simp [leB]
theorem crc_le {p r x k : Nat} (hr : r < 256 ^ k) : crc p r (leB x k) = crc p 0 (leB (r ^^^ x) k) := by
  have h := crc_xor2 p r 0 (leB r k) (leB (r ^^^ x) k) (by simp [leB])
  rw [← leB_xor, Nat.xor_zero, ← Nat.xor_assoc, Nat.xor_self, Nat.zero_xor, crc_self, Nat.div_eq_of_lt hr, Nat.zero_xor] at h
  exact h
/-- nothing but noughts leaves nought -/
theorem crc_le_ne {p n e k : Nat} (hp : 2 ^ n ≤ p) (hp2 : p < 2 ^ (n + 1)) (hk : 256 ^ k = 2 ^ (n + 1)) (he : e < 256 ^ k) (h : crc p 0 (leB e k) = 0) : e = 0 := by
  have h1 := crc_le (p := p) (r := e) (x := 0) (k := k) he
  rw [Nat.xor_zero, leB_zero, crc_zeros, h] at h1
  exact stpN_ne hp hp2 _ (by rw [← hk]; exact he) h1
theorem crc_le_inj {p n a b k : Nat} (hp : 2 ^ n ≤ p) (hp2 : p < 2 ^ (n + 1)) (hk : 256 ^ k = 2 ^ (n + 1)) (ha : a < 256 ^ k) (hb : b < 256 ^ k) (h : crc p 0 (leB a k) = crc p 0 (leB b k)) : a = b := by
  have h1 := crc_xor2 p 0 0 (leB a k) (leB b k) (by simp [leB])
  rw [← leB_xor, Nat.xor_self, h, Nat.xor_self] at h1
  have h2 : a ^^^ b < 256 ^ k := by rw [hk] at ha hb ⊢; exact Nat.xor_lt_two_pow ha hb
  have h3 := crc_le_ne hp hp2 hk h2 h1
  have := congrArg (· ^^^ b) h3
  simpa [Nat.xor_assoc] using this

/-- bytes as a number -/
def numB : List UInt8 → Nat
  | [] => 0
  | b :: l => b.toNat + 256 * numB l
theorem numB_lt (l : List UInt8) : numB l < 256 ^ l.length := by
  induction l with
  | nil => simp [numB]
  | cons b l ih =>
    have := UInt8.toNat_lt b
    simp only [numB, List.length_cons, Nat.pow_succ]
    omega
theorem leB_numB (l : List UInt8) : leB (numB l) l.length = l := by
  induction l with
  | nil => rfl
  | cons b l ih =>
    have hb := UInt8.toNat_lt b
    rw [List.length_cons, leB_cons, numB]
    congr 1
    · apply UInt8.toNat_inj.1
      rw [UInt8.toNat_ofNat']; omega
    · rw [show (b.toNat + 256 * numB l) / 256 = numB l by omega, ih]
theorem leB_inj {a b k : Nat} (ha : a < 256 ^ k) (hb : b < 256 ^ k) (h : leB a k = leB b k) : a = b := by
  induction k generalizing a b with
  | zero => simp at ha hb; omega
  | succ k ih =>
    rw [leB_cons, leB_cons] at h
    injection h with h1 h2
    have e1 : a % 256 = b % 256 := by
      have := congrArg UInt8.toNat h1
      rw [UInt8.toNat_ofNat', UInt8.toNat_ofNat'] at this
      omega
    rw [Nat.pow_succ] at ha hb
    have e2 := ih (a := a / 256) (b := b / 256) (by omega) (by omega) h2
    omega

theorem bend_pow : ∀ j, j < 8 → ((2 : Int) ^ j % 256 = ((2 ^ j : Nat) : Int) ∧ (UInt8.ofNat (2 ^ j)).toNat = 2 ^ j ∧ UInt8.ofNat (2 ^ j) ≠ 0) := by decide
theorem bend_byte (B : UInt8) (m : Nat) : bits .xor .u8 (B.toNat : Int) ((2 : Int) ^ (m % 8) % 256) = ((B ^^^ UInt8.ofNat (2 ^ (m % 8))).toNat : Int) := by
  obtain ⟨h1, h2, _⟩ := bend_pow (m % 8) (Nat.mod_lt _ (by omega))
  rw [h1, UInt8.toNat_xor, h2]
  refine u8_xor_nat _ _ (UInt8.toNat_lt B) ?_
  rw [← h2]; exact UInt8.toNat_lt _

/-- what is known of a kind: its polynomial has its highest bit, its registers just so many bytes -/
theorem kind_facts {kd : Int} (hk : kindB kd = true) : ∃ n, 256 ^ kd.toNat = 2 ^ (n + 1) ∧ 2 ^ n ≤ polyN kd ∧ polyN kd < 2 ^ (n + 1) ∧ (allOf kd).toNat < 2 ^ (n + 1) ∧ 8 ≤ n + 1 := by
  rcases kind_or hk with rfl | rfl
  · exact ⟨15, by decide, by decide, by decide, by decide, by omega⟩
  · exact ⟨31, by decide, by decide, by decide, by decide, by omega⟩
theorem good_eq {kd : Int} (hk : kindB kd = true) : goodN kd = crc (polyN kd) 0 (leB (allOf kd).toNat kd.toNat) := by
  obtain ⟨n, h1, h2, h3, h4, h5⟩ := kind_facts hk
  unfold goodN putL
  rw [List.nil_append, crc_le (by rw [h1]; exact h4)]
  unfold sumN
  rw [crc_nil, Nat.xor_self, Nat.xor_zero]
theorem residue {kd : Int} (hk : kindB kd = true) (l : List UInt8) : crc (polyN kd) (allOf kd).toNat (putL kd l) = goodN kd := by
  obtain ⟨n, h1, h2, h3, h4, h5⟩ := kind_facts hk
  unfold putL
  rw [crc_append, crc_le (by rw [h1]; exact crc_lt h3 h5 l h4), good_eq hk]
  unfold sumN
  rw [← Nat.xor_assoc, Nat.xor_self, Nat.zero_xor]
theorem cut_put {kd : Int} (l : List UInt8) : cutL kd (putL kd l) = l := by
  unfold cutL putL
  rw [List.length_append, leB_length, Nat.add_sub_cancel, List.take_left]
theorem sumN_lt256 {kd : Int} (hk : kindB kd = true) (l : List UInt8) : sumN kd l < 256 ^ kd.toNat := by
  obtain ⟨n, h1, h2, h3, h4, h5⟩ := kind_facts hk
  rw [h1]
  exact Nat.xor_lt_two_pow (crc_lt h3 h5 l h4) h4
/-- what is read is just what runs to the residue -/
theorem getB_iff {kd : Int} (hk : kindB kd = true) (l : List UInt8) : getB kd l = (decide (kd.toNat ≤ l.length) && (crc (polyN kd) (allOf kd).toNat l == goodN kd)) := by
  obtain ⟨n, h1, h2, h3, h4, h5⟩ := kind_facts hk
  unfold getB
  rw [hk, Bool.true_and]
  by_cases hl : kd.toNat ≤ l.length
  · rw [decide_eq_true hl, Bool.true_and, Bool.true_and, Bool.eq_iff_iff, beq_iff_eq, beq_iff_eq]
    constructor
    · intro h
      rw [← h]; exact residue hk _
    · intro h
      have hsp : l = cutL kd l ++ l.drop (l.length - kd.toNat) := (List.take_append_drop _ _).symm
      have hdl : (l.drop (l.length - kd.toNat)).length = kd.toNat := by simp; omega
      have hR : crc (polyN kd) (allOf kd).toNat (cutL kd l) < 2 ^ (n + 1) := crc_lt h3 h5 _ h4
      have hD : numB (l.drop (l.length - kd.toNat)) < 256 ^ kd.toNat := by have := numB_lt (l.drop (l.length - kd.toNat)); rwa [hdl] at this
      have hle : leB (numB (l.drop (l.length - kd.toNat))) kd.toNat = l.drop (l.length - kd.toNat) := by
        have := leB_numB (l.drop (l.length - kd.toNat)); rwa [hdl] at this
      rw [hsp, crc_append, ← hle, crc_le (by rw [h1]; exact hR), good_eq hk] at h
      have hx := crc_le_inj h2 h3 h1 (by rw [h1] at hD ⊢; exact Nat.xor_lt_two_pow hR hD) (by rw [h1]; exact h4) h
      have hnum : numB (l.drop (l.length - kd.toNat)) = sumN kd (cutL kd l) := by
        have hx3 : ∀ R D A : Nat, R ^^^ D = A → D = R ^^^ A := fun R D A h => by rw [← h, ← Nat.xor_assoc, Nat.xor_self, Nat.zero_xor]
        exact hx3 _ _ _ hx
      unfold putL
      rw [← hnum, hle]
      exact hsp.symm
  · rw [decide_eq_false hl]; rfl
theorem getB_put {kd : Int} (hk : kindB kd = true) (l : List UInt8) : getB kd (putL kd l) = true := by
  rw [getB_iff hk, residue hk]
  simp [putL, leB_length]
theorem xorL_zero (l : List UInt8) : xorL l (List.replicate l.length 0) = l := by
  apply List.ext_getElem
  · simp [xorL]
  · intro i h1 h2; simp [xorL]
/-- with one byte turned nothing is read -/
theorem getB_bent {kd : Int} (hk : kindB kd = true) (l : List UInt8) (h : crc (polyN kd) (allOf kd).toNat l = goodN kd) (i : Nat) (hi : i < l.length) (e : UInt8) (he : e ≠ 0) : getB kd (l.set i (l[i] ^^^ e)) = false := by
  obtain ⟨n, h1, h2, h3, h4, h5⟩ := kind_facts hk
  have hd : l.set i (l[i] ^^^ e) = xorL l (List.replicate i 0 ++ e :: List.replicate (l.length - 1 - i) 0) := by
    apply List.ext_getElem
    · simp [xorL]; omega
    · intro j a1 a2
      simp only [xorL, List.getElem_zipWith, List.getElem_set]
      by_cases hj : i = j
      · subst hj; simp
      · rw [if_neg hj]
        have : (List.replicate i 0 ++ e :: List.replicate (l.length - 1 - i) 0)[j]'(by simp [xorL] at a2; simp; omega) = (0 : UInt8) := by
          rw [List.getElem_append]
          split
          · simp
          · rw [List.getElem_cons]
            split
            · rename_i hnl h; simp at hnl h; omega
            · simp
        rw [this]; simp
  have hx := crc_xor2 (polyN kd) (allOf kd).toNat 0 l (List.replicate i 0 ++ e :: List.replicate (l.length - 1 - i) 0) (by simp; omega)
  rw [← hd, Nat.xor_zero, h] at hx
  rw [getB_iff hk, hx]
  have hne : crc (polyN kd) 0 (List.replicate i 0 ++ e :: List.replicate (l.length - 1 - i) 0) ≠ 0 := by
    rw [crc_append, crc_zero]
    have : crc (polyN kd) 0 (e :: List.replicate (l.length - 1 - i) 0) = crc (polyN kd) (crcB (polyN kd) 0 e) (List.replicate (l.length - 1 - i) 0) := rfl
    rw [this, crc_zeros]
    have he2 : e.toNat < 2 ^ (n + 1) := Nat.lt_of_lt_of_le (UInt8.toNat_lt e) (Nat.pow_le_pow_right (by omega) h5)
    have hcb : crcB (polyN kd) 0 e = stpN (polyN kd) 8 e.toNat := by unfold crcB; rw [Nat.zero_xor]
    intro h0
    have r1 := stpN_ne h2 h3 _ (by rw [hcb]; exact stpN_lt h3 he2 8) h0
    rw [hcb] at r1
    have r2 := stpN_ne h2 h3 _ he2 r1
    exact he (UInt8.toNat_inj.1 r2)
  have : (goodN kd ^^^ crc (polyN kd) 0 (List.replicate i 0 ++ e :: List.replicate (l.length - 1 - i) 0) == goodN kd) = false := by
    rw [beq_eq_false_iff_ne]
    intro h0
    have := congrArg (goodN kd ^^^ ·) h0
    simp only [← Nat.xor_assoc, Nat.xor_self, Nat.zero_xor] at this
    exact hne this
  rw [this, Bool.and_false]
end Go.Proofs.YtcegpcggdcgjbaaGreatDoor
