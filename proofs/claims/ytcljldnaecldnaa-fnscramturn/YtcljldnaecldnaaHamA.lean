/- A bit turned, in the program and in the model. -/
import Derived.Test.YtcljldnaecldnaaHamP
import Derived.Test.YtcljldnaecldnaaApb
namespace Go.Proofs.Ytcljldnaecldnaa
open Go.ChangeShapes Go.WideShapes Go.ChangeAt Go.RowKit
theorem hbit_any (b : Bool) (w : World) :
    Calls Try.prog 32 #[.bool b] w fun e w' => e = .returned (.int .u8 ((bitC b).toNat : Int)) ∧ w = w' := by
  cases b
  · go_enter Try.func32, Try.ntmps32
    go_wp2
    go_ret
    exact ⟨rfl, rfl⟩
  · go_enter Try.func32, Try.ntmps32
    go_wp2
    go_ret
    exact ⟨rfl, rfl⟩
def turnOkB (l : List UInt8) (k : Int) : Bool := okB l && decide (0 ≤ k) && decide (k < l.length)
theorem turnOk_parts {s : ByteArray} {k : Int} (h : turnOkB s.data.toList k = true) : okB s.data.toList = true ∧ ∃ j : Nat, k = (j : Int) ∧ j < s.size := by
  unfold turnOkB at h
  rw [Bool.and_eq_true, Bool.and_eq_true, decide_eq_true_iff, decide_eq_true_iff, size_list] at h
  exact ⟨h.1.1, k.toNat, by omega, by omega⟩
theorem xor1_flip {b : UInt8} (h : b = 48 ∨ b = 49) : bits .xor .u8 (b.toNat : Int) 1 = ((flipB b).toNat : Int) := by
  rcases h with rfl | rfl <;> rfl
theorem turnL_eq (s : ByteArray) (j : Nat) (h : j < s.size) : turnL s.data.toList j = s.data.toList.set j (flipB s[j]) := by
  unfold turnL
  congr 2
  rw [List.getD_eq_getElem?_getD, List.getElem?_eq_getElem (by simpa using h)]; rfl
set_option maxRecDepth 100000 in
set_option maxHeartbeats 4000000 in
theorem implTurn_yes (s : ByteArray) (j : Nat) (w : World) (h : okB s.data.toList = true) (hj : j < s.size) :
    Calls Try.prog 16 #[.string s, .int .i64 j] w fun e w' => e = .returned (.tuple #[.string ⟨(turnL s.data.toList j).toArray⟩, .bool true]) ∧ Below w.heap.size w w' := by
  have hsz := ok_size h
  have hmax : s.size ≤ maxLen := by unfold maxLen; omega
  have HE := Lib.hid (turnL_eq s j hj)
  have HF := Lib.hid (show flipB s[j] = bitC ((s[j].toNat : Int) == 48) by rcases ok_bit h hj with hb | hb <;> rw [hb] <;> rfl)
  have hjl : decide ((j : Int) ≥ (s.size : Int)) = false := decide_eq_false (by omega)
  have hjl2 : decide (s.size ≤ j) = false := decide_eq_false (by omega)
  have hji : (j : Int) < (s.size : Int) := by omega
  go_enter Try.func16, Try.ntmps16
  have HJ3 := Lib.hid (show j < s.data.toList.length by rw [size_list]; exact hj)
  have HSL := Lib.hid (size_list s)
  go_wp2_with (first | (go_at_call 31; refine (implOk_any _ _ hmax).mono ?_; rintro e w' ⟨rfl, rfl⟩) | (refine wpList_bytes_of_string _ rfl 9 22 5 _ rfl s rfl Try.underlying9 Try.underlying22 Try.underlying5 hmax ?_; intro v1 w1 hown1 hb1; obtain ⟨g, cap, hv, hcap, _, hgb, _⟩ := hown1.pos (by rw [size_list]; omega); rw [HSL.out] at hv hcap; subst hv; have c0 := hown1.cellAt HJ3.out; have f0 := hown1.frozenAt HJ3.out; rw [show s.data.toList[j]'(HJ3.out) = s[j] from rfl] at c0; unfold byteV at c0; have HO := Lib.hid hown1; have HB := Lib.hid hb1; clear hown1 hb1) | (go_at_call 32; refine (hbit_any _ _).mono ?_; rintro e w' ⟨rfl, rfl⟩) | (refine wpList_string_of_OB _ rfl 22 9 5 _ rfl w.heap.size _ (s.data.toList.set j (bitC ((s[j].toNat : Int) == 48))) rfl Try.underlying22 Try.underlying5 Try.underlying9 (HO.out.stored j (bitC ((s[j].toNat : Int) == 48))) ?_))
  go_ret2
  refine ⟨?_, HB.out.setCell (p := ⟨g, j, none⟩) hgb _⟩
  rw [HE.out, HF.out]
  rfl
theorem implTurn_no (s : ByteArray) (k : Int) (w : World) (hs : s.size ≤ maxLen) (h : turnOkB s.data.toList k = false) :
    Calls Try.prog 16 #[.string s, .int .i64 k] w fun e w' => e = .returned (.tuple #[.string ⟨#[]⟩, .bool false]) ∧ w = w' := by
  have hs0 := hs
  unfold maxLen at hs0
  cases h1 : okB s.data.toList with
  | false =>
    clear h
    go_enter Try.func16, Try.ntmps16
    go_wp2_with (go_at_call 31; refine (implOk_any _ _ hs).mono ?_; rintro e w' ⟨rfl, rfl⟩)
    go_ret2
    exact ⟨rfl, rfl⟩
  | true =>
    by_cases h0 : k < 0
    · clear h
      go_enter Try.func16, Try.ntmps16
      go_wp2_with (go_at_call 31; refine (implOk_any _ _ hs).mono ?_; rintro e w' ⟨rfl, rfl⟩)
      go_ret2
      exact ⟨rfl, rfl⟩
    · have h2 : (s.size : Int) ≤ k := by
        unfold turnOkB at h
        rw [h1, Bool.true_and, decide_eq_true (show 0 ≤ k by omega), Bool.true_and, decide_eq_false_iff_not, size_list] at h
        omega
      clear h
      go_enter Try.func16, Try.ntmps16
      go_wp2_with (go_at_call 31; refine (implOk_any _ _ hs).mono ?_; rintro e w' ⟨rfl, rfl⟩)
      go_ret2
      exact ⟨rfl, rfl⟩
theorem set_bytes (s : ByteArray) (j j1 : Nat) (b : UInt8) (h : j < s.size) (h1 : j1 = j + 1) : (s.extract 0 j ++ ⟨#[b]⟩) ++ s.extract j1 s.size = ⟨(s.data.toList.set j b).toArray⟩ := by
  subst h1
  rw [← Lib.mk_data ((s.extract 0 j ++ ⟨#[b]⟩) ++ s.extract (j + 1) s.size)]
  congr 2
  rw [ByteArray.data_append, ByteArray.data_append, Array.toList_append, Array.toList_append, ext_take, ext_drop, List.set_eq_take_append_cons_drop, if_pos (by rw [size_list]; exact h)]
  simp
theorem run_str_one (u : World) (b : UInt8) : (convert 22 9 (.slice (some ⟨u.heap.size, 0, none⟩) 1 1)).run Try.prog (u.alloc (.cells #[.int .u8 (b.toNat : Int)] 5)).drew = .ok (.string ⟨#[b]⟩) (u.alloc (.cells #[.int .u8 (b.toNat : Int)] 5)).drew :=
  run_string_of_OB (P := Try.prog) _ 22 9 5 u.heap.size _ [b] Try.underlying22 Try.underlying5 Try.underlying9
    (.inr ⟨u.heap.size, 1, #[.int .u8 (b.toNat : Int)], (0, 0), rfl, Nat.le_refl _, heap_alloc_new u _, .inl rfl, Nat.le_refl _, by unfold maxLen; omega, rfl, rfl⟩)
theorem l1In_any (x a b : Int) (w : World) :
    Calls Try.prog 35 #[.int .i64 x, .int .i64 a, .int .i64 b] w fun e w' => e = .returned (.bool (decide (a ≤ x) && decide (x ≤ b))) ∧ w = w' := by
  by_cases h1 : a ≤ x
  · go_enter Try.func35, Try.ntmps35
    go_wp2
    go_ret
    exact ⟨by rw [decide_eq_true h1]; rfl, rfl⟩
  · go_enter Try.func35, Try.ntmps35
    go_wp2
    go_ret
    exact ⟨by rw [decide_eq_false (show ¬ a ≤ x by omega)]; rfl, rfl⟩
end Go.Proofs.Ytcljldnaecldnaa
