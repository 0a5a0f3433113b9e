/- Contracts of the program's register: halve, the table, take. -/
import Derived.Test.YthggbcpphoknfaaSumB
import Derived.Test.YthggbcpphoknfaaOwn
import Derived.Defers
import Derived.Laws.Rows
import Derived.Laws.CopyRow
import Derived.Laws.Pointers
namespace Go.Proofs.Ythggbcpphoknfaa
open Go.ChangeShapes Go.WideShapes Go.ChangeAt Go.RowKit

theorem halve_any (r p : Nat) (w : World) (hr : r < 2 ^ 32) (hp : p < 2 ^ 32) :
    Calls Try.prog 50 #[.int .u32 r, .int .u32 p] w fun e w' => e = .returned (.int .u32 (stp p r)) ∧ w = w' := by
  have ha : bits .and .u32 (r : Int) 1 = ((r % 2 : Nat) : Int) := by
    have := u32_and_nat r 1 (by omega) (by omega)
    rw [nat_mask1] at this
    exact this
  have HA := Lib.hid ha
  by_cases h2 : r % 2 = 0
  · have hb : (bits .and .u32 (r : Int) 1 == 0) = true := by rw [ha, h2]; rfl
    clear ha
    go_enter Try.func50, Try.ntmps50
    go_wp2
    go_ret
    exact ⟨ret_int (by rw [stp, if_neg (by omega)]; omega), rfl⟩
  · have hb : (bits .and .u32 (r : Int) 1 == 0) = false := by rw [ha]; simp; omega
    clear ha
    go_enter Try.func50, Try.ntmps50
    go_wp2
    go_ret
    exact ⟨ret_int (by rw [show ((r : Int) / 2) = ((r / 2 : Nat) : Int) by omega, u32_xor_nat _ _ (by omega) (by omega), stp, if_pos (by omega)]), rfl⟩

def tabF (p k : Nat) (i : Nat) : Value := .int .u32 ((if i < k then stpN p 8 i else 0 : Nat) : Int)
def tabCells (p k : Nat) : Array Value := ((List.range 256).map (tabF p k)).toArray
theorem tab_size (p k : Nat) : (tabCells p k).size = 256 := by simp [tabCells]
theorem tab_get (p k i : Nat) (h : i < 256) : (tabCells p k)[i]? = some (tabF p k i) := by
  simp [tabCells, List.getElem?_map, List.getElem?_range h]
theorem tab_step (p k : Nat) (h : k < 256) : (tabCells p k).setIfInBounds k (.int .u32 (stpN p 8 k)) = tabCells p (k + 1) := by
  apply Array.ext_getElem?
  intro i
  by_cases hi : i < 256
  · rw [Array.getElem?_setIfInBounds, tab_get p k i hi, tab_get p (k + 1) i hi, tab_size]
    by_cases e : k = i
    · subst e; simp [tabF, h]
    · rw [if_neg e]
      simp only [tabF]
      congr 3
      by_cases hk : i < k
      · rw [if_pos hk, if_pos (by omega)]
      · rw [if_neg hk, if_neg (by omega)]
  · rw [Array.getElem?_eq_none (by simp [tab_size]; omega), Array.getElem?_eq_none (by simp [tab_size]; omega)]

set_option maxHeartbeats 800000 in
set_option maxRecDepth 100000 in
theorem fill_deferred (a : Addr) (g p : Nat) (t : TypeId) (w : World) (hp : p < 2 ^ 32) (hne : ¬ a.block = g) (ha : w.cell? a = some (.int .u32 p)) (hg : w.heap[g]? = some (.cells (tabCells p 0) t (0, 0))) :
    CallsD Try.prog 49 #[.pointer (some a), .pointer (some ⟨g, 0, none⟩)] .returning w fun e u' w' => u' = .returning ∧ (e = .returned (.tuple #[]) ∧ w' = w.setRow g (tabCells p 256)) := by
  have HG := Lib.hid hg
  have HA := Lib.hid ha
  clear hg ha
  go_enter_d Try.func49, Try.ntmps49
  go_wp2
  go_loopw [2, 3, 4, 9] (fun _ _ i _ wr => ∃ k : Nat, k ≤ 256 ∧ i = .int .i64 k ∧ wr = w.setRow g (tabCells p k)) (fun _ _ i _ _ => 256 - (intOf i).toNat)
  case atStart => exact ⟨0, by omega, rfl, (setRow_self w g _ t _ HG.out).symm⟩
  case round =>
    obtain ⟨k, hk, rfl, hwr⟩ := hrel
    have HW := Lib.hid hwr
    by_cases hlt : k < 256
    · have hrow := setRow_heap w g _ (tabCells p k) t _ HG.out
      rw [← hwr] at hrow
      have hc : wr.cell? a = some (.int .u32 p) := by rw [hwr, cell_setRow_other _ _ _ _ hne]; exact HA.out
      have HC := Lib.hid (show wr.cell? ⟨g, k, none⟩ = some (tabF p k k) by rw [cell_of_row _ _ _ _ _ _ hrow, tab_get p k k hlt])
      have HF := Lib.hid (frozen_of_row wr g k _ t hrow)
      have HR := Lib.hid hrow
      clear hwr hrow
      have hB : decide ((k : Int) < 256) = true := by simp; omega
      go_wp2_with fail
      go_loop [3, 9] (fun x j => ∃ m : Nat, m ≤ 8 ∧ j = .int .i64 m ∧ x = .int .u32 (stpN p m k)) (fun _ j => 8 - (intOf j).toNat)
      case atStart => exact ⟨0, by omega, rfl, rfl⟩
      case round =>
        obtain ⟨m, hm, rfl, rfl⟩ := hrel
        have hxl : stpN p m k < 2 ^ 32 := stpN_lt hp (by omega) m
        by_cases hm8 : m < 8
        · go_wp2_with (go_at_call 50; refine (halve_any _ _ _ hxl hp).mono ?_; rintro e w' ⟨rfl, rfl⟩)
          go_round
          case rel => exact ⟨m + 1, by omega, by go_num, rfl⟩
          case measure => simp [intOf]; omega
        · have e8 : m = 8 := by omega
          subst e8
          have hcg := HC.out
          have hfg := HF.out
          go_wp2
          go_roundw
          case rel => exact ⟨k + 1, by omega, by go_num, by rw [setCell_eq_setRow _ _ _ _ _ _ _ HR.out, HW.out, setRow_setRow, tab_step p k hlt]⟩
          case measure => simp [intOf]; omega
    · go_wp2
      go_end0
      exact ⟨rfl, by rw [show k = 256 from by omega]⟩

theorem zero_table (p : Nat) (w : World) : (zeroValue 48).run Try.prog w = .ok (.agg (tabCells p 0)) w := by kernel_rfl
theorem info_table : (Try.prog.info? 48).map (·.size) = some 256 := by kernel_rfl
theorem tab_one (p k : Nat) : (tabCells p k).all (·.oneCell') = true := by
  rw [Array.all_eq_true_iff_forall_mem]
  intro v hv
  simp only [tabCells, List.mem_toArray, List.mem_map] at hv
  obtain ⟨i, _, rfl⟩ := hv
  rfl
/-- what the table makes: a box of the polynomial, a row -/
def tabW (p k : Nat) (w : World) : World := (w.alloc (.cells #[.int .u32 p] 44)).alloc (.cells (tabCells p k) 48)

set_option maxRecDepth 100000 in
set_option maxHeartbeats 800000 in
theorem table_any (p : Nat) (w : World) (hp : p < 2 ^ 32) :
    Calls Try.prog 38 #[.int .u32 p] w fun e w' => e = .returned (.agg (tabCells p 256)) ∧ Below w.heap.size w w' := by
  have hmf : ∀ (fn : Fn) (first cap : Array Value) (w : World), (Instr.makeFunc fn first cap).run Try.prog w = .ok (.func fn first cap) w := fun _ _ _ _ => rfl
  have hz := zero_table p
  have H2 := Lib.hid (heap_alloc2_new w (.cells #[.int .u32 p] 44) (.cells (tabCells p 0) 48))
  go_enter_defers Try.func38, Try.ntmps38
  go_wp2_with (first | (refine wpList_load_row rfl 48 _ rfl (w.heap.size + 1) rfl 48 (tabCells p 0) _ _ H2.out Try.underlying48 rfl info_table ?_) | (refine wpList_store_row rfl 48 _ _ rfl (w.heap.size + 1) (tabCells p 0) rfl rfl 48 (tabCells p 0) H2.out info_table rfl (tab_one p 0) ?_))
  rw [setRow_self _ _ _ _ _ H2.out]
  refine leaves_cons (f := 49) (args := #[.pointer (some ⟨w.heap.size, 0, none⟩), .pointer (some ⟨w.heap.size + 1, 0, none⟩)]) (by simp) (by simp [go_sem]) ?_
  refine (fill_deferred ⟨w.heap.size, 0, none⟩ (w.heap.size + 1) p 48 _ hp (by simp) ?_ H2.out).mono ?_
  · simp [go_sem]
  rintro e u' w'' ⟨rfl, rfl, rfl⟩
  refine ⟨_, results_cell_row (p := 2) (ty := 48) (by kernel_rfl) _ _ (w.heap.size + 1) 48 (tabCells p 256) _ _ rfl (setRow_heap _ _ _ _ _ _ H2.out) Try.underlying48 rfl info_table, rfl, ?_⟩
  have hb : Below w.heap.size w ((w.alloc (.cells #[.int .u32 p] 44)).alloc (.cells (tabCells p 0) 48)) :=
    ((Below.refl _ _).alloc (Nat.le_refl _) _).alloc (by simp) _
  exact below_setRow hb (by omega) _

theorem tab_at (p : Nat) (i : Nat) (h : i < 256) : (tabCells p 256)[i]? = some (.int .u32 (stpN p 8 i : Nat)) := by
  rw [tab_get p 256 i h, tabF, if_pos h]
set_option maxRecDepth 100000 in
theorem take_any (p r g : Nat) (b : UInt8) (t : TypeId) (w : World) (hr : r < 2 ^ 32) (hp : p < 2 ^ 32) (hg : w.heap[g]? = some (.cells (tabCells p 256) t (0, 0))) :
    Calls Try.prog 39 #[.int .u32 r, .pointer (some ⟨g, 0, none⟩), .int .u8 b.toNat] w fun e w' => e = .returned (.int .u32 (crcB p r b)) ∧ w = w' := by
  have hb : b.toNat < 256 := UInt8.toNat_lt b
  have hx : (r % 256) ^^^ b.toNat < 256 := Nat.xor_lt_two_pow (n := 8) (by omega) hb
  have hc : w.cell? ⟨g, (r % 256) ^^^ b.toNat, none⟩ = some (.int .u32 (stpN p 8 ((r % 256) ^^^ b.toNat) : Nat)) := by
    rw [cell_of_row _ _ _ _ _ _ hg, tab_at _ _ hx]
  have hX : bits .xor .u8 ((r : Int) % 256) (b.toNat : Int) = (((r % 256) ^^^ b.toNat : Nat) : Int) := by
    rw [← u8_xor_nat _ _ (by omega) hb]; rfl
  have hX0 : (0 : Int) ≤ (((r % 256) ^^^ b.toNat : Nat) : Int) := by omega
  clear hg
  go_enter Try.func39, Try.ntmps39
  go_wp2
  go_ret
  have hd : ((r : Int) / 256) = ((r / 256 : Nat) : Int) := by omega
  have hl : stpN p 8 ((r % 256) ^^^ b.toNat) < 2 ^ 32 := stpN_lt hp (by omega) 8
  exact ⟨ret_int (by rw [hd, u32_xor_nat _ _ (by omega) (by omega), crcB_table]), rfl⟩
end Go.Proofs.Ythggbcpphoknfaa
