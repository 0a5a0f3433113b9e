/- Parts of a proof, 2: KitSum KitBits. -/
import Derived.Test.YtmggoiabcboaiaaGreatRows
import Derived.WalkKit
import Derived.ProofKit
import Derived.OpenShut
import Derived.IntWalk
import Derived.Lib.Hide
import Derived.Laws.BitsAllLaws
import Derived.Laws.BitsLemmas
import Derived.Defers
import Derived.Laws.Rows
import Derived.Laws.CopyRow
import Derived.Laws.Pointers
import Derived.Lib.Strings
import Derived.RegionTactic
import Derived.Laws.MakeOwn
import Derived.Test.YtmggoiabcboaiaaGreatZe1
namespace Go.Proofs.YtmggoiabcboaiaaGreat
def stp (p x : Nat) : Nat := if x % 2 = 1 then (x / 2) ^^^ p else x / 2
def stpN (p : Nat) : Nat → Nat → Nat
 | 0, x => x
 | n + 1, x => stp p (stpN p n x)
def crcB (p r : Nat) (b : UInt8) : Nat := stpN p 8 (r ^^^ b.toNat)
def crc (p r : Nat) (l : List UInt8) : Nat := l.foldl (crcB p) r
theorem crc_snoc (p r : Nat) (l : List UInt8) (b : UInt8) : crc p r (l ++ [b]) = stpN p 8 (crc p r l ^^^ b.toNat) := by
 simp [crc, crcB, List.foldl_append]
theorem stp_lt {p x n : Nat} (hp : p < 2 ^ n) (hx : x < 2 ^ n) : stp p x < 2 ^ n := by
 unfold stp
 split
 ·exact Nat.xor_lt_two_pow (by omega) hp
 ·omega
theorem stpN_lt {p x n : Nat} (hp : p < 2 ^ n) (hx : x < 2 ^ n) (k : Nat) : stpN p k x < 2 ^ n := by
 induction k with
 | zero => exact hx
 | succ k ih => exact stp_lt hp ih
theorem crc_lt {p r n : Nat} (hp : p < 2 ^ n) (hn : 8 ≤ n) (l : List UInt8) (hr : r < 2 ^ n) : crc p r l < 2 ^ n := by
 induction l generalizing r with
 | nil => exact hr
 | cons b l ih =>
  refine ih (stpN_lt hp (Nat.xor_lt_two_pow hr ?_) 8)
  have := UInt8.toNat_lt b
  exact Nat.lt_of_lt_of_le this (Nat.pow_le_pow_right (by omega) hn)
theorem mod2_xor (x y : Nat) : (x ^^^ y) % 2 = (x % 2 + y % 2) % 2 := by
 have h := Nat.xor_mod_two_pow (a := x) (b := y) (n := 1)
 rw [Nat.pow_one] at h
 rw [h]
 rcases Nat.mod_two_eq_zero_or_one x with hx | hx <;> rcases Nat.mod_two_eq_zero_or_one y with hy | hy <;> simp [hx, hy]
theorem div2_xor (x y : Nat) : (x ^^^ y) / 2 = x / 2 ^^^ y / 2 := by
 have := Nat.shiftRight_xor_distrib (a := x) (b := y) (i := 1)
 simpa [Nat.shiftRight_succ] using this
theorem stp_xor (p x y : Nat) : stp p (x ^^^ y) = stp p x ^^^ stp p y := by
 unfold stp
 rw [mod2_xor, div2_xor]
 rcases Nat.mod_two_eq_zero_or_one x with hx | hx <;> rcases Nat.mod_two_eq_zero_or_one y with hy | hy <;> simp only [hx, hy]
 ·simp
 ·simp only [ite_true, Nat.zero_ne_one, ite_false]; rw [Nat.xor_assoc]
 ·simp only [ite_true, Nat.zero_ne_one, ite_false]; rw [Nat.xor_assoc, Nat.xor_assoc, Nat.xor_comm (y / 2) p]
 ·simp only [Nat.reduceAdd, Nat.reduceMod, Nat.zero_ne_one, ite_false, ite_true]
  rw [Nat.xor_assoc, ← Nat.xor_assoc p, Nat.xor_comm p (y / 2), Nat.xor_assoc (y/2) p p, Nat.xor_self, Nat.xor_zero]
theorem stpN_xor (p k x y : Nat) : stpN p k (x ^^^ y) = stpN p k x ^^^ stpN p k y := by
 induction k with
 | zero => rfl
 | succ k ih => simp only [stpN, ih, stp_xor]
theorem stp_even (p h : Nat) : stp p (2 * h) = h := by
 unfold stp
 rw [if_neg (by omega)]; omega
theorem stpN_shl (p k h : Nat) : stpN p k (2 ^ k * h) = h := by
 induction k generalizing h with
 | zero => simp [stpN]
 | succ k ih => rw [stpN, show 2 ^ (k + 1) * h = 2 ^ k * (2 * h) from by rw [Nat.pow_succ, Nat.mul_assoc], ih, stp_even]
theorem split8 (x : Nat) : x = (2 ^ 8 * (x / 256)) ^^^ (x % 256) := by
 have h := Nat.two_pow_add_eq_or_of_lt (i := 8) (b := x % 256) (Nat.mod_lt _ (by omega)) (x / 256)
 have h2 : 2 ^ 8 * (x / 256) + x % 256 = x := by have := Nat.div_add_mod x 256; omega
 apply Nat.eq_of_testBit_eq
 intro i
 rw [Nat.testBit_xor, Nat.testBit_two_pow_mul, show (256 : Nat) = 2 ^ 8 from rfl, Nat.testBit_mod_two_pow, Nat.testBit_div_two_pow]
 by_cases hi : 8 ≤ i
 ·simp [hi, Nat.not_lt.2 hi]
 ·simp [hi, Nat.lt_of_not_le hi]
theorem stpN_table (p x : Nat) : stpN p 8 x = x / 256 ^^^ stpN p 8 (x % 256) := by
 conv => lhs; rw [split8 x]
 rw [stpN_xor, stpN_shl]
theorem div256_xor (r b : Nat) (hb : b < 256) : (r ^^^ b) / 256 = r / 256 := by
 apply Nat.eq_of_testBit_eq
 intro i
 rw [show (256 : Nat) = 2 ^ 8 from rfl, Nat.testBit_div_two_pow, Nat.testBit_div_two_pow, Nat.testBit_xor]
 have : b.testBit (i + 8) = false := Nat.testBit_lt_two_pow (Nat.lt_of_lt_of_le hb (by rw [show (256 : Nat) = 2 ^ 8 from rfl]; exact Nat.pow_le_pow_right (by omega) (by omega)))
 simp [this]
theorem mod256_xor (r b : Nat) (hb : b < 256) : (r ^^^ b) % 256 = (r % 256) ^^^ b := by
 rw [show (256 : Nat) = 2 ^ 8 from rfl, Nat.xor_mod_two_pow, Nat.mod_eq_of_lt (a := b) hb]
theorem crcB_table (p r : Nat) (b : UInt8) : crcB p r b = r / 256 ^^^ stpN p 8 ((r % 256) ^^^ b.toNat) := by
 have hb : b.toNat < 256 := UInt8.toNat_lt b
 unfold crcB
 rw [stpN_table, div256_xor _ _ hb, mod256_xor _ _ hb]
end Go.Proofs.YtmggoiabcboaiaaGreat
/- Contracts of the small functions of the checksum layer: kinds, polynomials, start registers. -/
namespace Go.Proofs.YtmggoiabcboaiaaGreat
open Go.ChangeShapes Go.WideShapes Go.ChangeAt Go.RowKit
def allOf (k : Int) : Int := if k = 2 then 65535 else 4294967295
def polyI (k : Int) : Int := if k = 2 then 33800 else 3988292384
def kindB (k : Int) : Bool := k == 2 || k == 4
theorem l1Kind_any (k : Int) (w : World) :
  Calls Tryz.prog 73 #[.int .i64 k] w fun e w' => e = .returned (.bool (kindB k)) ∧ w = w' := by
 by_cases h2 : k = 2
 ·subst h2
  go_enter Tryz.func73, Tryz.ntmps73
  go_wp2
  go_ret
  exact ⟨rfl, rfl⟩
 ·have hb : ((k : Int) == 2) = false := by simpa using h2
  by_cases h4 : k = 4
  ·subst h4
   go_enter Tryz.func73, Tryz.ntmps73
   go_wp2
   go_ret
   exact ⟨rfl, rfl⟩
  ·have hb4 : ((k : Int) == 4) = false := by simpa using h4
   go_enter Tryz.func73, Tryz.ntmps73
   go_wp2
   go_ret
   exact ⟨by simp [kindB, hb, hb4], rfl⟩
theorem l1All_any (k : Int) (w : World) :
  Calls Tryz.prog 120 #[.int .i64 k] w fun e w' => e = .returned (.int .i64 (allOf k)) ∧ w = w' := by
 by_cases h2 : k = 2
 ·subst h2
  go_enter Tryz.func120, Tryz.ntmps120
  go_wp2
  go_ret
  exact ⟨rfl, rfl⟩
 ·have hb : ((k : Int) == 2) = false := by simpa using h2
  go_enter Tryz.func120, Tryz.ntmps120
  go_wp2
  go_ret
  exact ⟨by simp [allOf, h2], rfl⟩
theorem l1Poly_any (k : Int) (w : World) :
  Calls Tryz.prog 128 #[.int .i64 k] w fun e w' => e = .returned (.int .i64 (polyI k)) ∧ w = w' := by
 by_cases h2 : k = 2
 ·subst h2
  go_enter Tryz.func128, Tryz.ntmps128
  go_wp2
  go_ret
  exact ⟨rfl, rfl⟩
 ·have hb : ((k : Int) == 2) = false := by simpa using h2
  go_enter Tryz.func128, Tryz.ntmps128
  go_wp2
  go_ret
  exact ⟨by simp [polyI, h2], rfl⟩
def inB (n lo hi : Int) : Bool := decide (lo ≤ n) && decide (n ≤ hi)
theorem l1In_any (n lo hi : Int) (w : World) :
  Calls Tryz.prog 51 #[.int .i64 n, .int .i64 lo, .int .i64 hi] w fun e w' => e = .returned (.bool (inB n lo hi)) ∧ w = w' := by
 by_cases h1 : lo ≤ n
 ·by_cases h2 : n ≤ hi
  ·go_enter Tryz.func51, Tryz.ntmps51
   go_wp2
   go_ret
   exact ⟨by simp [inB, h1, h2], rfl⟩
  ·go_enter Tryz.func51, Tryz.ntmps51
   go_wp2
   go_ret
   exact ⟨by simp [inB, h1, h2], rfl⟩
 ·go_enter Tryz.func51, Tryz.ntmps51
  go_wp2
  go_ret
  exact ⟨by simp [inB]; omega, rfl⟩
theorem polyOf_yes (k : Int) (w : World) (hk : kindB k = true) :
  Calls Tryz.prog 104 #[.int .i64 k] w fun e w' => e = .returned (.tuple #[.int .u32 (polyI k), .bool true]) ∧ w = w' := by
 have h : k = 2 ∨ k = 4 := by simpa [kindB] using hk
 clear hk
 rcases h with rfl | rfl
 all_goals
  go_enter Tryz.func104, Tryz.ntmps104
  go_wp2
  go_ret2
  exact ⟨rfl, rfl⟩
theorem polyOf_no (k : Int) (w : World) (hk : kindB k = false) :
  Calls Tryz.prog 104 #[.int .i64 k] w fun e w' => e = .returned (.tuple #[.int .u32 0, .bool false]) ∧ w = w' := by
 have h : ((k : Int) == 2) = false ∧ ((k : Int) == 4) = false := by simpa [kindB] using hk
 clear hk
 obtain ⟨h2, h4⟩ := h
 go_enter Tryz.func104, Tryz.ntmps104
 go_wp2
 go_ret2
 exact ⟨rfl, rfl⟩
theorem implStart_yes (k : Int) (w : World) (hk : kindB k = true) :
  Calls Tryz.prog 121 #[.int .i64 k] w fun e w' => e = .returned (.int .i64 (allOf k)) ∧ w = w' := by
 have h : k = 2 ∨ k = 4 := by simpa [kindB] using hk
 clear hk
 rcases h with rfl | rfl
 all_goals
  go_enter Tryz.func121, Tryz.ntmps121
  go_wp2_with (go_at_call 104; refine (polyOf_yes _ _ rfl).mono ?_; rintro e w' ⟨rfl, rfl⟩)
  go_ret
  exact ⟨rfl, rfl⟩
end Go.Proofs.YtmggoiabcboaiaaGreat
/- Contract of the model's l1Run. -/
namespace Go.Proofs.YtmggoiabcboaiaaGreat
open Go.ChangeShapes Go.WideShapes Go.ChangeAt Go.RowKit
def polyN (k : Int) : Nat := if k = 2 then 33800 else 3988292384
theorem polyN_lt (k : Int) : polyN k < 2 ^ 32 := by unfold polyN; split <;> decide
theorem polyI_eq (k : Int) : polyI k = (polyN k : Int) := by unfold polyI polyN; split <;> rfl
theorem take_snoc (s : ByteArray) (k : Nat) (h : k < s.size) : s.data.toList.take (k + 1) = s.data.toList.take k ++ [s[k]] := by
 rw [List.take_succ_eq_append_getElem (by simpa using h)]; rfl
theorem stp_odd (kd : Int) (x : Nat) (h : ((x : Int) % 2 == 1) = true) (hx : x < 2 ^ 32) : bits .xor .i64 ((x : Int) / 2) (polyI kd) = (stp (polyN kd) x : Nat) := by
 have h' : (x : Int) % 2 = 1 := by simpa using h
 have hp := polyN_lt kd
 rw [polyI_eq, show ((x : Int) / 2) = ((x / 2 : Nat) : Int) by omega, bits_xor_i64_nat _ _ (by omega) (by omega), stp, if_pos (by omega)]
theorem stp_evn (p x : Nat) (h : ((x : Int) % 2 == 1) = false) : ((x : Int) / 2) = (stp p x : Nat) := by
 have h' : ¬ (x : Int) % 2 = 1 := by simpa using h
 rw [stp, if_neg (by omega)]; omega
set_option maxHeartbeats 400000 in
theorem l1Run_any (kd : Int) (r : Nat) (s : ByteArray) (w : World) (hr : r < 2 ^ 32) (hs : s.size ≤ maxLen) :
  Calls Tryz.prog 119 #[.int .i64 kd, .int .i64 r, .string s] w fun e w' => e = .returned (.int .i64 (crc (polyN kd) r s.data.toList)) ∧ w = w' := by
 unfold maxLen at hs
 go_enter Tryz.func119, Tryz.ntmps119
 go_wp2
 go_loop [1, 7, 8] (fun x i _k => ∃ k : Nat, k ≤ s.size ∧ i = .int .i64 k ∧ x = .int .i64 (crc (polyN kd) r (s.data.toList.take k))) (fun _ i _ => s.size - (intOf i).toNat)
 case atStart => exact ⟨0, Nat.zero_le _, rfl, rfl⟩
 case round =>
  obtain ⟨k, hk, rfl, rfl⟩ := hrel
  by_cases hlt : k < s.size
  ·have HS := Lib.hid (show crc (polyN kd) r (s.data.toList.take (k + 1)) = stpN (polyN kd) 8 (crc (polyN kd) r (s.data.toList.take k) ^^^ s[k].toNat) by rw [take_snoc s k hlt, crc_snoc])
   have hcl : crc (polyN kd) r (s.data.toList.take k) < 2 ^ 32 := crc_lt (polyN_lt kd) (by omega) _ hr
   have hbl := UInt8.toNat_lt s[k]
   have hxl : crc (polyN kd) r (s.data.toList.take k) ^^^ s[k].toNat < 2 ^ 32 := Nat.xor_lt_two_pow hcl (by omega)
   go_wp2_with fail
   go_loop [1, 8] (fun x j => ∃ m : Nat, m ≤ 8 ∧ j = .int .i64 m ∧ x = .int .i64 (stpN (polyN kd) m (crc (polyN kd) r (s.data.toList.take k) ^^^ s[k].toNat))) (fun _ j => 8 - (intOf j).toNat)
   case atStart => exact ⟨0, by omega, rfl, val_int (by rw [bits_xor_i64_nat _ _ (by omega) (by omega)]; rfl)⟩
   case round =>
    obtain ⟨m, hm, rfl, rfl⟩ := hrel
    have hml := stpN_lt (polyN_lt kd) hxl m
    have HN := Lib.hid (show stpN (polyN kd) (m + 1) (crc (polyN kd) r (s.data.toList.take k) ^^^ s[k].toNat) = stp (polyN kd) (stpN (polyN kd) m (crc (polyN kd) r (s.data.toList.take k) ^^^ s[k].toNat)) from rfl)
    by_cases hm8 : m < 8
    ·go_wp2_with (go_at_call 128; refine (l1Poly_any _ _).mono ?_; rintro e w' ⟨rfl, rfl⟩)
     all_goals
      go_round
      case rel =>
       refine ⟨m + 1, by omega, by go_num, val_int ?_⟩
       rw [HN.out]
       generalize stpN (polyN kd) m (crc (polyN kd) r (s.data.toList.take k) ^^^ s[k].toNat) = x at *
       first | exact stp_odd _ _ ‹_› (by omega) | exact stp_evn _ _ ‹_›
      case measure => simp [intOf]; omega
    ·go_wp2
     go_round
     case rel => exact ⟨k + 1, by omega, by go_num, val_int (by rw [HS.out, show m = 8 from by omega])⟩
     case measure => simp [intOf]; omega
  ·go_wp2
   go_ret
   exact ⟨ret_int (by rw [List.take_of_length_le (by simp; omega)]), rfl⟩
end Go.Proofs.YtmggoiabcboaiaaGreat
/- Contracts of the program's register: halve, the table, take. -/
namespace Go.Proofs.YtmggoiabcboaiaaGreat
open Go.ChangeShapes Go.WideShapes Go.ChangeAt Go.RowKit
theorem halve_any (r p : Nat) (w : World) (hr : r < 2 ^ 32) (hp : p < 2 ^ 32) :
  Calls Tryz.prog 132 #[.int .u32 r, .int .u32 p] w fun e w' => e = .returned (.int .u32 (stp p r)) ∧ w = w' := by
 have ha : bits .and .u32 (r : Int) 1 = ((r % 2 : Nat) : Int) := by
  have := u32_and_nat r 1 (by omega) (by omega)
  rw [nat_mask1] at this
  exact this
 have HA := Lib.hid ha
 by_cases h2 : r % 2 = 0
 ·have hb : (bits .and .u32 (r : Int) 1 == 0) = true := by rw [ha, h2]; rfl
  clear ha
  go_enter Tryz.func132, Tryz.ntmps132
  go_wp2
  go_ret
  exact ⟨ret_int (by rw [stp, if_neg (by omega)]; omega), rfl⟩
 ·have hb : (bits .and .u32 (r : Int) 1 == 0) = false := by rw [ha]; simp; omega
  clear ha
  go_enter Tryz.func132, Tryz.ntmps132
  go_wp2
  go_ret
  exact ⟨ret_int (by rw [show ((r : Int) / 2) = ((r / 2 : Nat) : Int) by omega, u32_xor_nat _ _ (by omega) (by omega), stp, if_pos (by omega)]), rfl⟩
def tabF (p k : Nat) (i : Nat) : Value := .int .u32 ((if i < k then stpN p 8 i else 0 : Nat) : Int)
def tabCells (p k : Nat) : Array Value := ((List.range 256).map (tabF p k)).toArray
theorem tab_size (p k : Nat) : (tabCells p k).size = 256 := by simp [tabCells]
theorem tab_get (p k i : Nat) (h : i < 256) : (tabCells p k)[i]? = some (tabF p k i) := by
 simp [tabCells, List.getElem?_map, List.getElem?_range h]
theorem tab_step (p k : Nat) (h : k < 256) : (tabCells p k).setIfInBounds k (.int .u32 (stpN p 8 k)) = tabCells p (k + 1) := by
 apply Array.ext_getElem?
 intro i
 by_cases hi : i < 256
 ·rw [Array.getElem?_setIfInBounds, tab_get p k i hi, tab_get p (k + 1) i hi, tab_size]
  by_cases e : k = i
  ·subst e; simp [tabF, h]
  ·rw [if_neg e]
   simp only [tabF]
   congr 3
   by_cases hk : i < k
   ·rw [if_pos hk, if_pos (by omega)]
   ·rw [if_neg hk, if_neg (by omega)]
 ·rw [Array.getElem?_eq_none (by simp [tab_size]; omega), Array.getElem?_eq_none (by simp [tab_size]; omega)]
set_option maxHeartbeats 800000 in
set_option maxRecDepth 100000 in
theorem fill_deferred (a : Addr) (g p : Nat) (t : TypeId) (w : World) (hp : p < 2 ^ 32) (hne : ¬ a.block = g) (ha : w.cell? a = some (.int .u32 p)) (hg : w.heap[g]? = some (.cells (tabCells p 0) t (0, 0))) :
  CallsD Tryz.prog 131 #[.pointer (some a), .pointer (some ⟨g, 0, none⟩)] .returning w fun e u' w' => u' = .returning ∧ (e = .returned (.tuple #[]) ∧ w' = w.setRow g (tabCells p 256)) := by
 have HG := Lib.hid hg
 have HA := Lib.hid ha
 clear hg ha
 go_enter_d Tryz.func131, Tryz.ntmps131
 go_wp2
 go_loopw [2, 3, 4, 9] (fun _ _ i _ wr => ∃ k : Nat, k ≤ 256 ∧ i = .int .i64 k ∧ wr = w.setRow g (tabCells p k)) (fun _ _ i _ _ => 256 - (intOf i).toNat)
 case atStart => exact ⟨0, by omega, rfl, (setRow_self w g _ t _ HG.out).symm⟩
 case round =>
  obtain ⟨k, hk, rfl, hwr⟩ := hrel
  have HW := Lib.hid hwr
  by_cases hlt : k < 256
  ·have hrow := setRow_heap w g _ (tabCells p k) t _ HG.out
   rw [← hwr] at hrow
   have hc : wr.cell? a = some (.int .u32 p) := by rw [hwr, cell_setRow_other _ _ _ _ hne]; exact HA.out
   have HC := Lib.hid (show wr.cell? ⟨g, k, none⟩ = some (tabF p k k) by rw [cell_of_row _ _ _ _ _ _ hrow, tab_get p k k hlt])
   have HF := Lib.hid (frozen_of_row wr g k _ t hrow)
   have HR := Lib.hid hrow
   clear hwr hrow
   have hB : decide ((k : Int) < 256) = true := by simp; omega
   go_wp2_with fail
   go_loop [3, 9] (fun x j => ∃ m : Nat, m ≤ 8 ∧ j = .int .i64 m ∧ x = .int .u32 (stpN p m k)) (fun _ j => 8 - (intOf j).toNat)
   case atStart => exact ⟨0, by omega, rfl, rfl⟩
   case round =>
    obtain ⟨m, hm, rfl, rfl⟩ := hrel
    have hxl : stpN p m k < 2 ^ 32 := stpN_lt hp (by omega) m
    by_cases hm8 : m < 8
    ·go_wp2_with (go_at_call 132; refine (halve_any _ _ _ hxl hp).mono ?_; rintro e w' ⟨rfl, rfl⟩)
     go_round
     case rel => exact ⟨m + 1, by omega, by go_num, rfl⟩
     case measure => simp [intOf]; omega
    ·have e8 : m = 8 := by omega
     subst e8
     have hcg := HC.out
     have hfg := HF.out
     go_wp2
     go_roundw
     case rel => exact ⟨k + 1, by omega, by go_num, by rw [setCell_eq_setRow _ _ _ _ _ _ _ HR.out, HW.out, setRow_setRow, tab_step p k hlt]⟩
     case measure => simp [intOf]; omega
  ·go_wp2
   go_end0
   exact ⟨rfl, by rw [show k = 256 from by omega]⟩
theorem zero_table (p : Nat) (w : World) : (zeroValue 155).run Tryz.prog w = .ok (.agg (tabCells p 0)) w := by kernel_rfl
theorem info_table : (Tryz.prog.info? 155).map (·.size) = some 256 := by kernel_rfl
theorem tab_one (p k : Nat) : (tabCells p k).all (·.oneCell') = true := by
 rw [Array.all_eq_true_iff_forall_mem]
 intro v hv
 simp only [tabCells, List.mem_toArray, List.mem_map] at hv
 obtain ⟨i, _, rfl⟩ := hv
 rfl
set_option maxRecDepth 100000 in
set_option maxHeartbeats 800000 in
theorem table_any (p : Nat) (w : World) (hp : p < 2 ^ 32) :
  Calls Tryz.prog 129 #[.int .u32 p] w fun e w' => e = .returned (.agg (tabCells p 256)) ∧ Below w.heap.size w w' := by
 have hmf : ∀ (fn : Fn) (first cap : Array Value) (w : World), (Instr.makeFunc fn first cap).run Tryz.prog w = .ok (.func fn first cap) w := fun _ _ _ _ => rfl
 have hz := zero_table p
 have H2 := Lib.hid (heap_alloc2_new w (.cells #[.int .u32 p] 137) (.cells (tabCells p 0) 155))
 go_enter_defers Tryz.func129, Tryz.ntmps129
 go_wp2_with (first | (refine wpList_load_row rfl 155 _ rfl (w.heap.size + 1) rfl 155 (tabCells p 0) _ _ H2.out Tryz.underlying155 rfl info_table ?_) | (refine wpList_store_row rfl 155 _ _ rfl (w.heap.size + 1) (tabCells p 0) rfl rfl 155 (tabCells p 0) H2.out info_table rfl (tab_one p 0) ?_))
 rw [setRow_self _ _ _ _ _ H2.out]
 refine leaves_cons (f := 131) (args := #[.pointer (some ⟨w.heap.size, 0, none⟩), .pointer (some ⟨w.heap.size + 1, 0, none⟩)]) (by simp) (by simp [go_sem]) ?_
 refine (fill_deferred ⟨w.heap.size, 0, none⟩ (w.heap.size + 1) p 155 _ hp (by simp) ?_ H2.out).mono ?_
 ·simp [go_sem]
 rintro e u' w'' ⟨rfl, rfl, rfl⟩
 refine ⟨_, results_cell_row (p := 2) (ty := 155) (by kernel_rfl) _ _ (w.heap.size + 1) 155 (tabCells p 256) _ _ rfl (setRow_heap _ _ _ _ _ _ H2.out) Tryz.underlying155 rfl info_table, rfl, ?_⟩
 have hb : Below w.heap.size w ((w.alloc (.cells #[.int .u32 p] 137)).alloc (.cells (tabCells p 0) 155)) :=
  ((Below.refl _ _).alloc (Nat.le_refl _) _).alloc (by simp) _
 exact below_setRow hb (by omega) _
theorem tab_at (p : Nat) (i : Nat) (h : i < 256) : (tabCells p 256)[i]? = some (.int .u32 (stpN p 8 i : Nat)) := by
 rw [tab_get p 256 i h, tabF, if_pos h]
set_option maxRecDepth 100000 in
theorem take_any (p r g : Nat) (b : UInt8) (t : TypeId) (w : World) (hr : r < 2 ^ 32) (hp : p < 2 ^ 32) (hg : w.heap[g]? = some (.cells (tabCells p 256) t (0, 0))) :
  Calls Tryz.prog 130 #[.int .u32 r, .pointer (some ⟨g, 0, none⟩), .int .u8 b.toNat] w fun e w' => e = .returned (.int .u32 (crcB p r b)) ∧ w = w' := by
 have hb : b.toNat < 256 := UInt8.toNat_lt b
 have hx : (r % 256) ^^^ b.toNat < 256 := Nat.xor_lt_two_pow (n := 8) (by omega) hb
 have hc : w.cell? ⟨g, (r % 256) ^^^ b.toNat, none⟩ = some (.int .u32 (stpN p 8 ((r % 256) ^^^ b.toNat) : Nat)) := by
  rw [cell_of_row _ _ _ _ _ _ hg, tab_at _ _ hx]
 have hX : bits .xor .u8 ((r : Int) % 256) (b.toNat : Int) = (((r % 256) ^^^ b.toNat : Nat) : Int) := by
  rw [← u8_xor_nat _ _ (by omega) hb]; rfl
 have hX0 : (0 : Int) ≤ (((r % 256) ^^^ b.toNat : Nat) : Int) := by omega
 clear hg
 go_enter Tryz.func130, Tryz.ntmps130
 go_wp2
 go_ret
 have hd : ((r : Int) / 256) = ((r / 256 : Nat) : Int) := by omega
 have hl : stpN p 8 ((r % 256) ^^^ b.toNat) < 2 ^ 32 := stpN_lt hp (by omega) 8
 exact ⟨ret_int (by rw [hd, u32_xor_nat _ _ (by omega) (by omega), crcB_table]), rfl⟩
end Go.Proofs.YtmggoiabcboaiaaGreat
/- Contracts of SumRun, SumOf in the program and in the model. -/
namespace Go.Proofs.YtmggoiabcboaiaaGreat
open Go.ChangeShapes Go.WideShapes Go.ChangeAt Go.RowKit
theorem kind_or {k : Int} (h : kindB k = true) : k = 2 ∨ k = 4 := by simpa [kindB] using h
theorem allOf_nat (k : Int) : ∃ n : Nat, allOf k = n ∧ n < 2 ^ 32 ∧ (k = 2 → n = 65535) ∧ (k ≠ 2 → n = 4294967295) := by
 unfold allOf
 by_cases h : k = 2
 ·exact ⟨65535, by simp [h], by omega, fun _ => rfl, fun h' => absurd h h'⟩
 ·exact ⟨4294967295, by simp [h], by omega, fun h' => absurd h' h, fun _ => rfl⟩
set_option maxRecDepth 100000 in
set_option maxHeartbeats 1000000 in
theorem implRun_yes (kd : Int) (r : Nat) (s : ByteArray) (w : World) (hk : kindB kd = true) (hr : (r : Int) ≤ allOf kd) (hs : s.size ≤ maxLen) :
  Calls Tryz.prog 122 #[.int .i64 kd, .int .i64 r, .string s] w fun e w' => e = .returned (.int .i64 (crc (polyN kd) r s.data.toList)) ∧ Below w.heap.size w w' := by
 unfold maxLen at hs
 obtain ⟨all, hall, hal, _, _⟩ := allOf_nat kd
 have hp := polyN_lt kd
 have hr' : (r : Int) ≤ all := by rw [← hall]; exact hr
 have hr32 : r < 2 ^ 32 := by omega
 have h0 : decide ((r : Int) < 0) = false := by simp
 have h1 : decide ((all : Int) < (r : Int)) = false := by simp; omega
 have h1' : decide (all < r) = false := by simp; omega
 have HALL := Lib.hid hall
 have HP := Lib.hid (polyI_eq kd)
 clear hall hr
 have hz := zero_table (polyN kd)
 go_enter Tryz.func122, Tryz.ntmps122
 go_wp2_with (first | (go_at_call 104; refine (polyOf_yes _ _ hk).mono ?_; rintro e w' ⟨rfl, rfl⟩; rw [HP.out]) | (go_at_call 121; refine (implStart_yes _ _ hk).mono ?_; rintro e w' ⟨rfl, rfl⟩; rw [HALL.out]))
 refine (table_any _ _ hp).mono ?_
 rintro e w1 ⟨rfl, hb1⟩
 have H2 := Lib.hid (heap_alloc_new w1 (.cells (tabCells (polyN kd) 0) 155))
 have HB := Lib.hid hb1
 have H3 := Lib.hid (setRow_heap _ _ _ (tabCells (polyN kd) 256) _ _ H2.out)
 clear hb1
 go_wp2_with (refine wpList_store_row rfl 155 _ _ rfl w1.heap.size (tabCells (polyN kd) 256) rfl rfl 155 (tabCells (polyN kd) 0) H2.out info_table ((tab_size _ _).trans (tab_size _ _).symm) (tab_one _ 256) ?_)
 have HBW := Lib.hid (below_setRow (HB.out.trans ((Below.refl w1.heap.size w1).alloc (Nat.le_refl _) (.cells (tabCells (polyN kd) 0) 155) |>.mono HB.out.size)) HB.out.size (tabCells (polyN kd) 256))
 generalize (w1.alloc (.cells (tabCells (polyN kd) 0) 155)).setRow w1.heap.size (tabCells (polyN kd) 256) = w2 at *
 clear hz
 go_loop [10, 11, 35] (fun x _ i => ∃ k : Nat, k ≤ s.size ∧ i = .int .i64 k ∧ x = .int .u32 (crc (polyN kd) r (s.data.toList.take k))) (fun _ _ i => s.size - (intOf i).toNat)
 case atStart => exact ⟨0, Nat.zero_le _, rfl, rfl⟩
 case round =>
  obtain ⟨k, hk, rfl, rfl⟩ := hrel
  have hcl : crc (polyN kd) r (s.data.toList.take k) < 2 ^ 32 := crc_lt hp (by omega) _ hr32
  by_cases hlt : k < s.size
  ·have HS := Lib.hid (show crc (polyN kd) r (s.data.toList.take (k + 1)) = crcB (polyN kd) (crc (polyN kd) r (s.data.toList.take k)) s[k] by rw [take_snoc s k hlt, crc_snoc]; rfl)
   go_wp2_with (go_at_call 130; refine (take_any (polyN kd) _ w1.heap.size _ _ _ hcl hp H3.out).mono ?_; rintro e w' ⟨rfl, rfl⟩)
   go_round
   case rel => exact ⟨k + 1, by omega, by go_num, val_int (by rw [HS.out])⟩
   case measure => simp [intOf]; omega
  ·go_wp2
   go_ret
   exact ⟨ret_int (by rw [List.take_of_length_le (by simp; omega)]), HBW.out⟩
def runOkB (kd sum : Int) : Bool := kindB kd && (decide (0 ≤ sum) && decide (sum ≤ allOf kd))
def sumN (kd : Int) (l : List UInt8) : Nat := crc (polyN kd) (allOf kd).toNat l ^^^ (allOf kd).toNat
theorem sumN_lt (kd : Int) (l : List UInt8) : sumN kd l < 2 ^ 32 := by
 obtain ⟨all, hall, hal, _, _⟩ := allOf_nat kd
 unfold sumN
 rw [hall]
 exact Nat.xor_lt_two_pow (crc_lt (polyN_lt kd) (by omega) _ (by simpa using hal)) (by simpa using hal)
theorem sum_xor (kd : Int) (l : List UInt8) : bits .xor .i64 ((crc (polyN kd) (allOf kd).toNat l : Nat) : Int) (allOf kd) = (sumN kd l : Nat) := by
 obtain ⟨all, hall, hal, _, _⟩ := allOf_nat kd
 unfold sumN
 rw [hall, Int.toNat_natCast]
 have := crc_lt (polyN_lt kd) (by omega) l hal
 exact bits_xor_i64_nat _ _ (by omega) (by omega)
theorem runOk_iff {kd sum : Int} (h : runOkB kd sum = true) : kindB kd = true ∧ 0 ≤ sum ∧ sum ≤ allOf kd := by simpa [runOkB] using h
theorem runOk_all {kd : Int} (hk : kindB kd = true) : runOkB kd (allOf kd) = true := by
 obtain ⟨all, hall, _⟩ := allOf_nat kd
 simp [runOkB, hk]; omega
theorem implRun_ok (kd sum : Int) (s : ByteArray) (w : World) (h : runOkB kd sum = true) (hs : s.size ≤ maxLen) :
  Calls Tryz.prog 122 #[.int .i64 kd, .int .i64 sum, .string s] w fun e w' => e = .returned (.int .i64 (crc (polyN kd) sum.toNat s.data.toList)) ∧ Below w.heap.size w w' := by
 obtain ⟨hk, h0, h1⟩ := runOk_iff h
 obtain ⟨n, rfl⟩ := Int.eq_ofNat_of_zero_le h0
 rw [Int.toNat_natCast]
 exact implRun_yes kd n s w hk h1 hs
theorem l1Run_all (kd : Int) (s : ByteArray) (w : World) (hs : s.size ≤ maxLen) :
  Calls Tryz.prog 119 #[.int .i64 kd, .int .i64 (allOf kd), .string s] w fun e w' => e = .returned (.int .i64 (crc (polyN kd) (allOf kd).toNat s.data.toList)) ∧ w = w' := by
 obtain ⟨all, hall, hal, _⟩ := allOf_nat kd
 rw [hall, Int.toNat_natCast]
 exact l1Run_any kd all s w hal hs
theorem implOf_yes (kd : Int) (s : ByteArray) (w : World) (hk : kindB kd = true) (hs : s.size ≤ maxLen) :
  Calls Tryz.prog 112 #[.int .i64 kd, .string s] w fun e w' => e = .returned (.int .i64 (sumN kd s.data.toList)) ∧ Below w.heap.size w w' := by
 have HX := Lib.hid (sum_xor kd s.data.toList)
 have h0 : 0 ≤ allOf kd := by obtain ⟨all, hall, _⟩ := allOf_nat kd; omega
 go_enter Tryz.func112, Tryz.ntmps112
 go_wp2_with (go_at_call 121; refine (implStart_yes _ _ hk).mono ?_; rintro e w' ⟨rfl, rfl⟩)
 refine (implRun_ok _ _ _ _ (runOk_all hk) hs).mono ?_
 rintro e w1 ⟨rfl, hb1⟩
 go_wp2
 go_ret
 exact ⟨ret_int HX.out, hb1⟩
theorem l1Of_any (kd : Int) (s : ByteArray) (w : World) (hs : s.size ≤ maxLen) :
  Calls Tryz.prog 111 #[.int .i64 kd, .string s] w fun e w' => e = .returned (.int .i64 (sumN kd s.data.toList)) ∧ w = w' := by
 have HX := Lib.hid (sum_xor kd s.data.toList)
 go_enter Tryz.func111, Tryz.ntmps111
 go_wp2_with (first | (go_at_call 120; refine (l1All_any _ _).mono ?_; rintro e w' ⟨rfl, rfl⟩) | (go_at_call 119; refine (l1Run_all _ _ _ hs).mono ?_; rintro e w' ⟨rfl, rfl⟩))
 go_ret
 exact ⟨ret_int HX.out, rfl⟩
end Go.Proofs.YtmggoiabcboaiaaGreat
/- Contracts of SumPut in the program and in the model. -/
namespace Go.Proofs.YtmggoiabcboaiaaGreat
open Go.ChangeShapes Go.WideShapes Go.ChangeAt Go.RowKit
def leB (n k : Nat) : List UInt8 := (List.range k).map fun i => UInt8.ofNat (n / 256 ^ i % 256)
theorem leB_succ (n k : Nat) : leB n (k + 1) = leB n k ++ [UInt8.ofNat (n / 256 ^ k % 256)] := by
 simp [leB, List.range_succ]
theorem leB_length (n k : Nat) : (leB n k).length = k := by simp [leB]
theorem div_step (n k : Nat) : n / 256 ^ k / 256 = n / 256 ^ (k + 1) := by rw [Nat.div_div_eq_div_mul, Nat.pow_succ]
set_option maxRecDepth 100000 in
set_option maxHeartbeats 1000000 in
theorem l1Put_any (kd : Int) (s : ByteArray) (w : World) (hk : kindB kd = true) (hs : s.size ≤ 140737488355000) :
  Calls Tryz.prog 101 #[.int .i64 kd, .string s] w fun e w' => e = .returned (.string ⟨(s.data.toList ++ leB (sumN kd s.data.toList) kd.toNat).toArray⟩) ∧ Below w.heap.size w w' := by
 have hmax : s.size ≤ maxLen := by unfold maxLen; omega
 have hsl : s.data.toList.length = s.size := by simp
 obtain ⟨i0, hi, hz0, hz1, hz2⟩ := info_parts info_u8
 have HI := Lib.hid hi
 have HZ0 := Lib.hid hz0
 have HZ1 := Lib.hid hz1
 have HZ2 := Lib.hid hz2
 have HSL := Lib.hid hsl
 have hkk : 2 ≤ kd ∧ kd ≤ 4 := by rcases kind_or hk with rfl | rfl <;> omega
 obtain ⟨hk2, hk4⟩ := hkk
 clear hi hz0 hz1 hz2 hk hsl
 go_enter Tryz.func101, Tryz.ntmps101
 go_wp2_with (first | (refine wpList_bytes_of_string _ rfl 9 22 5 _ rfl s rfl Tryz.underlying9 Tryz.underlying22 Tryz.underlying5 hmax ?_; intro v1 w1 hown1 hb1) | (go_at_call 111; refine (l1Of_any _ _ _ hmax).mono ?_; rintro e w' ⟨rfl, rfl⟩))
 have hsum := sumN_lt kd s.data.toList
 generalize hsm : sumN kd s.data.toList = S at *
 have HSM := Lib.hid hsm
 clear hsm
 go_loopw [5, 6, 7] (fun v n i wr => ∃ k : Nat, (k : Int) ≤ kd ∧ i = .int .i64 k ∧ n = .int .i64 ((S / 256 ^ k : Nat) : Int) ∧ OB 5 wr w.heap.size v (s.data.toList ++ leB S k) ∧ Below w.heap.size w wr) (fun _ _ i _ => kd.toNat - (intOf i).toNat)
 case atStart => exact ⟨0, by omega, rfl, by simp, by simpa [leB] using hown1, hb1⟩
 case round =>
  obtain ⟨k, hk, rfl, rfl, hown, hb⟩ := hrel
  have hx : S / 256 ^ k < 2 ^ 32 := Nat.lt_of_le_of_lt (Nat.div_le_self _ _) hsum
  have HO := Lib.hid hown
  have HB := Lib.hid hb
  clear hown hb hown1 hb1
  by_cases hlt : (k : Int) < kd
  ·have hl : (s.data.toList ++ leB S k).length + [UInt8.ofNat (S / 256 ^ k % 256)].length ≤ 140737488355328 := by rw [List.length_append, HSL.out, leB_length]; simp; omega
   have HL := Lib.hid hl
   clear hl
   generalize hX : S / 256 ^ k = X at *
   have HX := Lib.hid hX
   clear hX
   go_wp2_with (at_builtin; refine wpList_append_OB _ rfl _ _ 22 rfl w.heap.size 5 i0 Tryz.underlying22 HI.out HZ0.out HZ1.out HZ2.out _ (s.data.toList ++ leB S k) rfl (HO.out.alloc _) ⟨wr.heap.size, 0, none⟩ 1 1 [UInt8.ofNat (X % 256)] rfl rfl (one_new wr _ _ _ (byteV_of X)) HL.out (by have := HB.out.size; simp; omega) ?_; intro v2 w2 hown2 hg2)
   go_roundw
   case rel =>
    refine ⟨k + 1, by omega, by go_num, val_int (by rw [← div_step, HX.out]; omega), ?_, ?_⟩
    ·rw [leB_succ, HX.out, ← List.append_assoc]; exact hown2
    ·exact (HB.out.alloc HB.out.size _).grown hg2 (by have := HB.out.size; simp; omega) (fun k hk => (HO.out.lt k hk).1)
   case measure => simp [intOf]; omega
  ·go_wp2_with (refine wpList_string_of_OB _ rfl 22 9 5 _ rfl w.heap.size _ _ rfl Tryz.underlying22 Tryz.underlying5 Tryz.underlying9 HO.out ?_)
   go_ret
   exact ⟨by rw [HSM.out, show k = kd.toNat from by omega]; rfl, HB.out⟩
set_option maxRecDepth 100000 in
set_option maxHeartbeats 1000000 in
theorem implPut_yes (kd : Int) (s : ByteArray) (w : World) (hk : kindB kd = true) (hs : s.size ≤ 140737488355000) :
  Calls Tryz.prog 102 #[.int .i64 kd, .string s] w fun e w' => e = .returned (.string ⟨(s.data.toList ++ leB (sumN kd s.data.toList) kd.toNat).toArray⟩) ∧ Below w.heap.size w w' := by
 have hmax : s.size ≤ maxLen := by unfold maxLen; omega
 have hsl : s.data.toList.length = s.size := by simp
 obtain ⟨i0, hi, hz0, hz1, hz2⟩ := info_parts info_u8
 have HI := Lib.hid hi
 have HZ0 := Lib.hid hz0
 have HZ1 := Lib.hid hz1
 have HZ2 := Lib.hid hz2
 have HSL := Lib.hid hsl
 have HK := Lib.hid hk
 have hkk : 2 ≤ kd ∧ kd ≤ 4 := by rcases kind_or hk with rfl | rfl <;> omega
 obtain ⟨hk2, hk4⟩ := hkk
 have hsum := sumN_lt kd s.data.toList
 have hn0 : decide (((sumN kd s.data.toList : Nat) : Int) < 0) = false := by simp
 clear hi hz0 hz1 hz2 hk hsl
 go_enter Tryz.func102, Tryz.ntmps102
 go_wp2_with (first | (go_at_call 112; refine (implOf_yes _ _ _ HK.out hmax).mono ?_; rintro e w0 ⟨rfl, hb0⟩) | (refine wpList_bytes_of_string _ rfl 9 22 5 _ rfl s rfl Tryz.underlying9 Tryz.underlying22 Tryz.underlying5 hmax ?_; intro v1 w1 hown1 hb1))
 generalize hsm : sumN kd s.data.toList = S at *
 have HSM := Lib.hid hsm
 clear hsm
 have hown1' := hown1.mono hb0.size
 have hb1' := hb0.trans (hb1.mono hb0.size)
 clear hown1 hb1 hb0
 go_loopw [5, 6, 15] (fun n v i wr => ∃ k : Nat, (k : Int) ≤ kd ∧ i = .int .i64 k ∧ n = .int .i64 ((S / 256 ^ k : Nat) : Int) ∧ OB 5 wr w.heap.size v (s.data.toList ++ leB S k) ∧ Below w.heap.size w wr) (fun _ _ i _ => kd.toNat - (intOf i).toNat)
 case atStart => exact ⟨0, by omega, rfl, by simp, by simpa [leB] using hown1', hb1'⟩
 case round =>
  obtain ⟨k, hk, rfl, rfl, hown, hb⟩ := hrel
  have hx : S / 256 ^ k < 2 ^ 32 := Nat.lt_of_le_of_lt (Nat.div_le_self _ _) hsum
  have HO := Lib.hid hown
  have HB := Lib.hid hb
  clear hown hb hown1' hb1'
  by_cases hlt : (k : Int) < kd
  ·have hl : (s.data.toList ++ leB S k).length + [UInt8.ofNat (S / 256 ^ k % 256)].length ≤ 140737488355328 := by rw [List.length_append, HSL.out, leB_length]; simp; omega
   have HL := Lib.hid hl
   clear hl
   generalize hX : S / 256 ^ k = X at *
   have HX := Lib.hid hX
   clear hX
   go_wp2_with (at_builtin; refine wpList_append_OB _ rfl _ _ 22 rfl w.heap.size 5 i0 Tryz.underlying22 HI.out HZ0.out HZ1.out HZ2.out _ (s.data.toList ++ leB S k) rfl (HO.out.alloc _) ⟨wr.heap.size, 0, none⟩ 1 1 [UInt8.ofNat (X % 256)] rfl rfl (one_new wr _ _ _ (byteV_of X)) HL.out (by have := HB.out.size; simp; omega) ?_; intro v2 w2 hown2 hg2)
   go_roundw
   case rel =>
    refine ⟨k + 1, by omega, by go_num, val_int (by rw [← div_step, HX.out]; omega), ?_, ?_⟩
    ·rw [leB_succ, HX.out, ← List.append_assoc]; exact hown2
    ·exact (HB.out.alloc HB.out.size _).grown hg2 (by have := HB.out.size; simp; omega) (fun k hk => (HO.out.lt k hk).1)
   case measure => simp [intOf]; omega
  ·go_wp2_with (refine wpList_string_of_OB _ rfl 22 9 5 _ rfl w.heap.size _ _ rfl Tryz.underlying22 Tryz.underlying5 Tryz.underlying9 HO.out ?_)
   go_ret
   exact ⟨by rw [HSM.out, show k = kd.toNat from by omega]; rfl, HB.out⟩
end Go.Proofs.YtmggoiabcboaiaaGreat
/- Contracts of SumGet, SumGood in the program and in the model. -/
namespace Go.Proofs.YtmggoiabcboaiaaGreat
open Go.ChangeShapes Go.WideShapes Go.ChangeAt Go.RowKit
def putL (kd : Int) (l : List UInt8) : List UInt8 := l ++ leB (sumN kd l) kd.toNat
def cutL (kd : Int) (l : List UInt8) : List UInt8 := l.take (l.length - kd.toNat)
def getB (kd : Int) (l : List UInt8) : Bool := kindB kd && decide (kd.toNat ≤ l.length) && (putL kd (cutL kd l) == l)
theorem ext_cut (kd : Int) (s : ByteArray) (h0 : 0 ≤ kd) (hl : kd.toNat ≤ s.size) : (s.extract 0 ((s.size : Int) - kd).toNat).data.toList = cutL kd s.data.toList := by
 rw [Lib.extract_data]
 simp [cutL]
 congr 1
 omega
set_option maxRecDepth 100000 in
theorem implGet_short (kd : Int) (s : ByteArray) (w : World) (h : (kindB kd && decide (kd.toNat ≤ s.size)) = false) :
  Calls Tryz.prog 123 #[.int .i64 kd, .string s] w fun e w' => e = .returned (.tuple #[.string ⟨#[]⟩, .bool false]) ∧ w = w' := by
 cases hk : kindB kd with
 | false =>
  have HK := Lib.hid hk
  clear h hk
  go_enter Tryz.func123, Tryz.ntmps123
  go_wp2_with (go_at_call 104; refine (polyOf_no _ _ HK.out).mono ?_; rintro e w' ⟨rfl, rfl⟩)
  go_ret2
  exact ⟨rfl, rfl⟩
 | true =>
  have h' : s.size < kd.toNat := by simpa [hk] using h
  have hlt : (s.size : Int) < kd := by omega
  have HK := Lib.hid hk
  clear h hk h'
  go_enter Tryz.func123, Tryz.ntmps123
  go_wp2_with (go_at_call 104; refine (polyOf_yes _ _ HK.out).mono ?_; rintro e w' ⟨rfl, rfl⟩)
  go_ret2
  exact ⟨rfl, rfl⟩
theorem getB_long {kd : Int} {s : ByteArray} (hk : kindB kd = true) (hl : kd.toNat ≤ s.size) : getB kd s.data.toList = (cutL kd s.data.toList ++ leB (sumN kd (cutL kd s.data.toList)) kd.toNat == s.toList) := by
 have hl' : kd.toNat ≤ s.data.toList.length := by rw [← Lib.size_eq]; exact hl
 rw [Lib.toList_data]
 simp only [getB, hk, putL, decide_eq_true hl', Bool.true_and]
set_option maxRecDepth 100000 in
theorem implGet_hit (kd : Int) (s : ByteArray) (w : World) (hs : s.size ≤ 140737488355000) (hg : getB kd s.data.toList = true) :
  Calls Tryz.prog 123 #[.int .i64 kd, .string s] w fun e w' => e = .returned (.tuple #[.string ⟨(cutL kd s.data.toList).toArray⟩, .bool true]) ∧ Below w.heap.size w w' := by
 have hk : kindB kd = true := by simp [getB] at hg; exact hg.1.1
 have hl : kd.toNat ≤ s.size := by simp [getB] at hg; omega
 have hkk : 2 ≤ kd ∧ kd ≤ 4 := by rcases kind_or hk with rfl | rfl <;> omega
 obtain ⟨hk2, hk4⟩ := hkk
 have hge : ¬ (s.size : Int) < kd := by omega
 have hge' : decide ((s.size : Int) < kd) = false := by simp; omega
 have HK := Lib.hid hk
 rw [getB_long hk hl] at hg
 have HG := Lib.hid hg
 clear hk hg
 go_enter Tryz.func123, Tryz.ntmps123
 go_wp2_with (first | (go_at_call 104; refine (polyOf_yes _ _ HK.out).mono ?_; rintro e w' ⟨rfl, rfl⟩))
 have HT := Lib.hid (ext_cut kd s (by omega) (by omega))
 have hT : (s.extract 0 ((s.size : Int) - kd).toNat).size ≤ s.size := by simp; omega
 generalize s.extract 0 ((s.size : Int) - kd).toNat = T at *
 refine (implPut_yes _ _ _ HK.out (by omega)).mono ?_
 rintro e w1 ⟨rfl, hb1⟩
 have hg := HG.out
 rw [← HT.out] at hg
 have HB1 := Lib.hid hb1
 clear hb1
 go_wp2_with (go_at_call 79; refine (clone_any _ _ (by omega)).mono ?_; rintro e w2 ⟨rfl, hb2⟩)
 go_ret2
 exact ⟨by rw [← HT.out, Lib.mk_data]; rfl, HB1.out.trans (hb2.mono HB1.out.size)⟩
set_option maxRecDepth 100000 in
theorem implGet_miss (kd : Int) (s : ByteArray) (w : World) (hs : s.size ≤ 140737488355000) (hg : getB kd s.data.toList = false) :
  Calls Tryz.prog 123 #[.int .i64 kd, .string s] w fun e w' => e = .returned (.tuple #[.string ⟨#[]⟩, .bool false]) ∧ Below w.heap.size w w' := by
 cases hc : (kindB kd && decide (kd.toNat ≤ s.size)) with
 | false =>
  refine (implGet_short kd s w hc).mono ?_
  rintro e w' ⟨rfl, rfl⟩
  exact ⟨rfl, Below.refl _ _⟩
 | true =>
  obtain ⟨hk, hl⟩ : kindB kd = true ∧ kd.toNat ≤ s.size := by simpa using hc
  clear hc
  have hkk : 2 ≤ kd ∧ kd ≤ 4 := by rcases kind_or hk with rfl | rfl <;> omega
  obtain ⟨hk2, hk4⟩ := hkk
  have hge : ¬ (s.size : Int) < kd := by omega
  have hge' : decide ((s.size : Int) < kd) = false := by simp; omega
  have HK := Lib.hid hk
  rw [getB_long hk hl] at hg
  have HG := Lib.hid hg
  clear hk hg
  go_enter Tryz.func123, Tryz.ntmps123
  go_wp2_with (first | (go_at_call 104; refine (polyOf_yes _ _ HK.out).mono ?_; rintro e w' ⟨rfl, rfl⟩))
  have HT := Lib.hid (ext_cut kd s (by omega) (by omega))
  have hT : (s.extract 0 ((s.size : Int) - kd).toNat).size ≤ s.size := by simp; omega
  generalize s.extract 0 ((s.size : Int) - kd).toNat = T at *
  refine (implPut_yes _ _ _ HK.out (by omega)).mono ?_
  rintro e w1 ⟨rfl, hb1⟩
  have hg := HG.out
  rw [← HT.out] at hg
  have HB1 := Lib.hid hb1
  clear hb1
  go_wp2
  go_ret2
  exact ⟨rfl, HB1.out⟩
theorem specGet_short (kd : Int) (s : ByteArray) (w : World) (h : (kindB kd && decide (kd.toNat ≤ s.size)) = false) :
  Calls Tryz.prog 116 #[.int .i64 kd, .string s] w fun e w' => e = .returned (.tuple #[.string ⟨#[]⟩, .bool false]) ∧ w = w' := by
 cases hk : kindB kd with
 | false =>
  clear h
  go_enter Tryz.func116, Tryz.ntmps116
  go_wp2_with (go_at_call 73; refine (l1Kind_any _ _).mono ?_; rintro e w' ⟨rfl, rfl⟩)
  go_ret2
  exact ⟨rfl, rfl⟩
 | true =>
  have h' : s.size < kd.toNat := by simpa [hk] using h
  have hlt : (s.size : Int) < kd := by omega
  clear h h'
  go_enter Tryz.func116, Tryz.ntmps116
  go_wp2_with (go_at_call 73; refine (l1Kind_any _ _).mono ?_; rintro e w' ⟨rfl, rfl⟩)
  go_ret2
  exact ⟨rfl, rfl⟩
set_option maxRecDepth 100000 in
theorem specGet_hit (kd : Int) (s : ByteArray) (w : World) (hs : s.size ≤ 140737488355000) (hg : getB kd s.data.toList = true) :
  Calls Tryz.prog 116 #[.int .i64 kd, .string s] w fun e w' => e = .returned (.tuple #[.string ⟨(cutL kd s.data.toList).toArray⟩, .bool true]) ∧ Below w.heap.size w w' := by
 have hk : kindB kd = true := by simp [getB] at hg; exact hg.1.1
 have hl : kd.toNat ≤ s.size := by simp [getB] at hg; omega
 have hkk : 2 ≤ kd ∧ kd ≤ 4 := by rcases kind_or hk with rfl | rfl <;> omega
 obtain ⟨hk2, hk4⟩ := hkk
 have hge : ¬ (s.size : Int) < kd := by omega
 have hge' : decide ((s.size : Int) < kd) = false := by simp; omega
 have HK := Lib.hid hk
 rw [getB_long hk hl] at hg
 have HG := Lib.hid hg
 clear hg
 go_enter Tryz.func116, Tryz.ntmps116
 go_wp2_with (first | (go_at_call 73; refine (l1Kind_any _ _).mono ?_; rintro e w' ⟨rfl, rfl⟩))
 have HT := Lib.hid (ext_cut kd s (by omega) (by omega))
 have hT : (s.extract 0 ((s.size : Int) - kd).toNat).size ≤ s.size := by simp; omega
 generalize s.extract 0 ((s.size : Int) - kd).toNat = T at *
 refine (l1Put_any _ _ _ HK.out (by omega)).mono ?_
 rintro e w1 ⟨rfl, hb1⟩
 have hg := HG.out
 rw [← HT.out] at hg
 have HB1 := Lib.hid hb1
 clear hb1
 go_wp2
 go_ret2
 exact ⟨by rw [← HT.out, Lib.mk_data]; rfl, HB1.out⟩
set_option maxRecDepth 100000 in
theorem specGet_miss (kd : Int) (s : ByteArray) (w : World) (hs : s.size ≤ 140737488355000) (hg : getB kd s.data.toList = false) :
  Calls Tryz.prog 116 #[.int .i64 kd, .string s] w fun e w' => e = .returned (.tuple #[.string ⟨#[]⟩, .bool false]) ∧ Below w.heap.size w w' := by
 cases hc : (kindB kd && decide (kd.toNat ≤ s.size)) with
 | false =>
  refine (specGet_short kd s w hc).mono ?_
  rintro e w' ⟨rfl, rfl⟩
  exact ⟨rfl, Below.refl _ _⟩
 | true =>
  obtain ⟨hk, hl⟩ : kindB kd = true ∧ kd.toNat ≤ s.size := by simpa using hc
  clear hc
  have hkk : 2 ≤ kd ∧ kd ≤ 4 := by rcases kind_or hk with rfl | rfl <;> omega
  obtain ⟨hk2, hk4⟩ := hkk
  have hge : ¬ (s.size : Int) < kd := by omega
  have hge' : decide ((s.size : Int) < kd) = false := by simp; omega
  have HK := Lib.hid hk
  rw [getB_long hk hl] at hg
  have HG := Lib.hid hg
  clear hg
  go_enter Tryz.func116, Tryz.ntmps116
  go_wp2_with (first | (go_at_call 73; refine (l1Kind_any _ _).mono ?_; rintro e w' ⟨rfl, rfl⟩))
  have HT := Lib.hid (ext_cut kd s (by omega) (by omega))
  have hT : (s.extract 0 ((s.size : Int) - kd).toNat).size ≤ s.size := by simp; omega
  generalize s.extract 0 ((s.size : Int) - kd).toNat = T at *
  refine (l1Put_any _ _ _ HK.out (by omega)).mono ?_
  rintro e w1 ⟨rfl, hb1⟩
  have hg := HG.out
  rw [← HT.out] at hg
  have HB1 := Lib.hid hb1
  clear hb1
  go_wp2
  go_ret2
  exact ⟨rfl, HB1.out⟩
end Go.Proofs.YtmggoiabcboaiaaGreat
/- Contracts of SumGood in the program and in the model. -/
namespace Go.Proofs.YtmggoiabcboaiaaGreat
open Go.ChangeShapes Go.WideShapes Go.ChangeAt Go.RowKit
end Go.Proofs.YtmggoiabcboaiaaGreat
/- Plain facts on the sums: they fit, they are the known ones. -/
namespace Go.Proofs.YtmggoiabcboaiaaGreat
open Go.ChangeShapes Go.WideShapes Go.ChangeAt Go.RowKit
end Go.Proofs.YtmggoiabcboaiaaGreat
/- Plain mathematics of the checksums, second part: linearity in the bytes, the residue, single errors. -/
namespace Go.Proofs.YtmggoiabcboaiaaGreat
end Go.Proofs.YtmggoiabcboaiaaGreat
namespace Go.Proofs.YtmggoiabcboaiaaGreat
open Go.ChangeShapes Go.WideShapes Go.ChangeAt Go.RowKit
theorem snoc_take (s : ByteArray) (k : Nat) (h : k < s.size) : s.data.toList.take (k + 1) = s.data.toList.take k ++ [s[k]] := by
 rw [List.take_succ_eq_append_getElem (by simpa using h)]; rfl
theorem take_all (s : ByteArray) (k : Nat) (h : s.size ≤ k) : s.data.toList.take k = s.data.toList := by
 rw [List.take_of_length_le (by simpa using h)]
theorem size_list (s : ByteArray) : s.data.toList.length = s.size := by simp
end Go.Proofs.YtmggoiabcboaiaaGreat
/- Contracts of BitsRun in the program and in the model. -/
namespace Go.Proofs.YtmggoiabcboaiaaGreat
open Go.ChangeShapes Go.WideShapes Go.ChangeAt Go.RowKit
end Go.Proofs.YtmggoiabcboaiaaGreat
/- Contracts of BitsFill in the program and in the model. -/
namespace Go.Proofs.YtmggoiabcboaiaaGreat
open Go.ChangeShapes Go.WideShapes Go.ChangeAt Go.RowKit
end Go.Proofs.YtmggoiabcboaiaaGreat
/- Contracts of BitsTo in the program and in the model. -/
namespace Go.Proofs.YtmggoiabcboaiaaGreat
open Go.ChangeShapes Go.WideShapes Go.ChangeAt Go.RowKit
end Go.Proofs.YtmggoiabcboaiaaGreat
/- Contract of BitsTo in the program. -/
namespace Go.Proofs.YtmggoiabcboaiaaGreat
open Go.ChangeShapes Go.WideShapes Go.ChangeAt Go.RowKit
end Go.Proofs.YtmggoiabcboaiaaGreat
/- Plain facts on runs of ones, filling, pieces of bits. -/
namespace Go.Proofs.YtmggoiabcboaiaaGreat
open Go.ChangeShapes Go.WideShapes Go.ChangeAt Go.RowKit
end Go.Proofs.YtmggoiabcboaiaaGreat
