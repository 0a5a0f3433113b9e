/- A bit turned, in the program and in the model. -/
import Derived.Test.YtjnehfbeokpgpaaDoorHamP
import Derived.Test.YtjnehfbeokpgpaaDoorApb
namespace Go.Proofs.YtjnehfbeokpgpaaDoor
open Go.ChangeShapes Go.WideShapes Go.ChangeAt Go.RowKit
theorem hbit_any (b : Bool) (w : World) :
    Calls Tryd.prog 27 #[.bool b] w fun e w' => e = .returned (.int .u8 ((bitC b).toNat : Int)) ∧ w = w' := by
  cases b
  · go_enter Tryd.func27, Tryd.ntmps27
    go_wp2
    go_ret
    exact ⟨rfl, rfl⟩
  · go_enter Tryd.func27, Tryd.ntmps27
    go_wp2
    go_ret
    exact ⟨rfl, rfl⟩
def turnOkB (l : List UInt8) (k : Int) : Bool := okB l && decide (0 ≤ k) && decide (k < l.length)
theorem turnOk_parts {s : ByteArray} {k : Int} (h : turnOkB s.data.toList k = true) : okB s.data.toList = true ∧ ∃ j : Nat, k = (j : Int) ∧ j < s.size := by
  unfold turnOkB at h
  rw [Bool.and_eq_true, Bool.and_eq_true, decide_eq_true_iff, decide_eq_true_iff, size_list] at h
  exact ⟨h.1.1, k.toNat, by omega, by omega⟩
theorem xor1_flip {b : UInt8} (h : b = 48 ∨ b = 49) : bits .xor .u8 (b.toNat : Int) 1 = ((flipB b).toNat : Int) := by
  rcases h with rfl | rfl <;> rfl
theorem turnL_eq (s : ByteArray) (j : Nat) (h : j < s.size) : turnL s.data.toList j = s.data.toList.set j (flipB s[j]) := by
  unfold turnL
  congr 2
  rw [List.getD_eq_getElem?_getD, List.getElem?_eq_getElem (by simpa using h)]; rfl
set_option maxRecDepth 100000 in
set_option maxHeartbeats 4000000 in
theorem implTurn_yes (s : ByteArray) (j : Nat) (w : World) (h : okB s.data.toList = true) (hj : j < s.size) :
    Calls Tryd.prog 12 #[.string s, .int .i64 j] w fun e w' => e = .returned (.tuple #[.string ⟨(turnL s.data.toList j).toArray⟩, .bool true]) ∧ Below w.heap.size w w' := by
  have hsz := ok_size h
  have hmax : s.size ≤ maxLen := by unfold maxLen; omega
  have HE := Lib.hid (turnL_eq s j hj)
  have HF := Lib.hid (show flipB s[j] = bitC ((s[j].toNat : Int) == 48) by rcases ok_bit h hj with hb | hb <;> rw [hb] <;> rfl)
  have hjl : decide ((j : Int) ≥ (s.size : Int)) = false := decide_eq_false (by omega)
  have hjl2 : decide (s.size ≤ j) = false := decide_eq_false (by omega)
  have hji : (j : Int) < (s.size : Int) := by omega
  go_enter Tryd.func12, Tryd.ntmps12
  have HJ3 := Lib.hid (show j < s.data.toList.length by rw [size_list]; exact hj)
  have HSL := Lib.hid (size_list s)
  go_wp2_with (first | (go_at_call 19; refine (implOk_any _ _ hmax).mono ?_; rintro e w' ⟨rfl, rfl⟩) | (refine wpList_bytes_of_string _ rfl 9 22 5 _ rfl s rfl Tryd.underlying9 Tryd.underlying22 Tryd.underlying5 hmax ?_; intro v1 w1 hown1 hb1; obtain ⟨g, cap, hv, hcap, _, hgb, _⟩ := hown1.pos (by rw [size_list]; omega); rw [HSL.out] at hv hcap; subst hv; have c0 := hown1.cellAt HJ3.out; have f0 := hown1.frozenAt HJ3.out; rw [show s.data.toList[j]'(HJ3.out) = s[j] from rfl] at c0; unfold byteV at c0; have HO := Lib.hid hown1; have HB := Lib.hid hb1; clear hown1 hb1) | (go_at_call 27; refine (hbit_any _ _).mono ?_; rintro e w' ⟨rfl, rfl⟩) | (refine wpList_string_of_OB _ rfl 22 9 5 _ rfl w.heap.size _ (s.data.toList.set j (bitC ((s[j].toNat : Int) == 48))) rfl Tryd.underlying22 Tryd.underlying5 Tryd.underlying9 (HO.out.stored j (bitC ((s[j].toNat : Int) == 48))) ?_))
  go_ret2
  refine ⟨?_, HB.out.setCell (p := ⟨g, j, none⟩) hgb _⟩
  rw [HE.out, HF.out]
  rfl
theorem implTurn_no (s : ByteArray) (k : Int) (w : World) (hs : s.size ≤ maxLen) (h : turnOkB s.data.toList k = false) :
    Calls Tryd.prog 12 #[.string s, .int .i64 k] w fun e w' => e = .returned (.tuple #[.string ⟨#[]⟩, .bool false]) ∧ w = w' := by
  have hs0 := hs
  unfold maxLen at hs0
  cases h1 : okB s.data.toList with
  | false =>
    clear h
    go_enter Tryd.func12, Tryd.ntmps12
    go_wp2_with (go_at_call 19; refine (implOk_any _ _ hs).mono ?_; rintro e w' ⟨rfl, rfl⟩)
    go_ret2
    exact ⟨rfl, rfl⟩
  | true =>
    by_cases h0 : k < 0
    · clear h
      go_enter Tryd.func12, Tryd.ntmps12
      go_wp2_with (go_at_call 19; refine (implOk_any _ _ hs).mono ?_; rintro e w' ⟨rfl, rfl⟩)
      go_ret2
      exact ⟨rfl, rfl⟩
    · have h2 : (s.size : Int) ≤ k := by
        unfold turnOkB at h
        rw [h1, Bool.true_and, decide_eq_true (show 0 ≤ k by omega), Bool.true_and, decide_eq_false_iff_not, size_list] at h
        omega
      clear h
      go_enter Tryd.func12, Tryd.ntmps12
      go_wp2_with (go_at_call 19; refine (implOk_any _ _ hs).mono ?_; rintro e w' ⟨rfl, rfl⟩)
      go_ret2
      exact ⟨rfl, rfl⟩
theorem set_bytes (s : ByteArray) (j j1 : Nat) (b : UInt8) (h : j < s.size) (h1 : j1 = j + 1) : (s.extract 0 j ++ ⟨#[b]⟩) ++ s.extract j1 s.size = ⟨(s.data.toList.set j b).toArray⟩ := by
  subst h1
  rw [← Lib.mk_data ((s.extract 0 j ++ ⟨#[b]⟩) ++ s.extract (j + 1) s.size)]
  congr 2
  rw [ByteArray.data_append, ByteArray.data_append, Array.toList_append, Array.toList_append, ext_take, ext_drop, List.set_eq_take_append_cons_drop, if_pos (by rw [size_list]; exact h)]
  simp
theorem run_str_one (u : World) (b : UInt8) : (convert 22 9 (.slice (some ⟨u.heap.size, 0, none⟩) 1 1)).run Tryd.prog (u.alloc (.cells #[.int .u8 (b.toNat : Int)] 5)).drew = .ok (.string ⟨#[b]⟩) (u.alloc (.cells #[.int .u8 (b.toNat : Int)] 5)).drew :=
  run_string_of_OB (P := Tryd.prog) _ 22 9 5 u.heap.size _ [b] Tryd.underlying22 Tryd.underlying5 Tryd.underlying9
    (.inr ⟨u.heap.size, 1, #[.int .u8 (b.toNat : Int)], (0, 0), rfl, Nat.le_refl _, heap_alloc_new u _, .inl rfl, Nat.le_refl _, by unfold maxLen; omega, rfl, rfl⟩)
set_option maxRecDepth 100000 in
set_option maxHeartbeats 4000000 in
theorem l12Turn_any (s : ByteArray) (j : Nat) (w : World) (hs : s.size ≤ 100000) (hj : j < s.size) (hb : s[j] = 48 ∨ s[j] = 49) :
    Calls Tryd.prog 31 #[.string s, .int .i64 j] w fun e w' => e = .returned (.string ⟨(turnL s.data.toList j).toArray⟩) ∧ Below w.heap.size w w' := by
  have HE := Lib.hid (turnL_eq s j hj)
  have hx := xor1_flip hb
  obtain ⟨j1, hj1, hj1s⟩ : ∃ j1 : Nat, (j : Int) + 1 = (j1 : Int) ∧ j1 ≤ s.size := ⟨j + 1, by omega, by omega⟩
  have HS := Lib.hid (set_bytes s j j1 (flipB s[j]) hj (by omega))
  have hji : (j : Int) < (s.size : Int) := by omega
  have hji2 : (j : Int) ≤ (s.size : Int) := by omega
  have hj1i : (j1 : Int) ≤ (s.size : Int) := by omega
  have hw1 : IntKind.i64.wrap ((j : Int) + 1) = (j1 : Int) := by rw [hj1, IntKind.wrap_i64]; omega
  have hw2 : IntKind.i64.wrap (j1 : Int) = (j1 : Int) := by rw [IntKind.wrap_i64]; omega
  have hsl2 : ∀ u : World, (Instr.slice 9 (.string s) (some (.int .i64 (j1 : Int))) none none).run Tryd.prog u = .ok (.string (s.extract j1 s.size)) u := fun u => by
    rw [run_slice_string_from_if u 9 s .i64 (j1 : Int) Tryd.underlying9]
    simp [hj1i]
  have hsl1 : ∀ u : World, (Instr.slice 9 (.string s) none (some (.int .i64 (j : Int))) none).run Tryd.prog u = .ok (.string (s.extract 0 j)) u := fun u => by
    rw [run_slice_string_to_if u 9 s .i64 (j : Int) Tryd.underlying9]
    simp [hji2]
  have hcv := run_str_one w (flipB s[j])
  have hz1 : (s.extract 0 j).size = j := by rw [ByteArray.size_extract]; omega
  have hz2 : (s.extract j1 s.size).size = s.size - j1 := by rw [ByteArray.size_extract]; omega
  have hone : (⟨#[flipB s[j]]⟩ : ByteArray).size = 1 := rfl
  have hadd1 : ∀ u : World, (Op.stringOp .add (s.extract 0 j) ⟨#[flipB s[j]]⟩).run Tryd.prog u = .ok (.string (s.extract 0 j ++ ⟨#[flipB s[j]]⟩)) u := fun u => run_string_add_sum u _ _ (by rw [hz1, hone]; omega)
  have hadd2 : ∀ u : World, (Op.stringOp .add (s.extract 0 j ++ ⟨#[flipB s[j]]⟩) (s.extract j1 s.size)).run Tryd.prog u = .ok (.string ⟨(s.data.toList.set j (flipB s[j])).toArray⟩) u := fun u => by
    rw [run_string_add_sum u _ _ (by rw [ByteArray.size_append, hz1, hone, hz2]; omega), HS.out]
  clear hz1 hz2 hone hb
  go_enter Tryd.func31, Tryd.ntmps31
  go_wp2_with fail
  have hS : True := trivial
  refine wp_region_held_drew (S := (fun _ => True)) (by kernel_rfl) hS (fun hHeld => ?_)
  refine wpAnyH_take (i := 0) (v := ?_) rfl (by kernel_rfl) (by kernel_rfl) (by kernel_rfl) (fun _ _ _ h => h) (Or.inl ⟨by rfl, ?_⟩) (by assumption) ?_
  rotate_left
  · intro wq hSw
    (try dsimp only at hSw)
    (try simp only [List.getElem_toArray, List.getElem_cons_zero])
    go_simp
    (try with_reducible rfl)
  simp only [Act.put, List.getElem_toArray, List.getElem_cons_zero, List.setIfInBounds_toArray, List.set_cons_zero, List.set_cons_succ]
  refine wpAnyH_take (i := 1) (v := ?_) rfl (by kernel_rfl) (by kernel_rfl) (by kernel_rfl) (fun _ _ _ h => h) (Or.inl ⟨by rfl, ?_⟩) (by assumption) ?_
  rotate_left
  · intro wq hSw
    (try dsimp only at hSw)
    (try simp only [List.getElem_toArray, List.getElem_cons_succ, List.getElem_cons_zero])
    go_simp
    (try with_reducible rfl)
  simp only [Act.put, List.getElem_toArray, List.getElem_cons_succ, List.getElem_cons_zero, List.setIfInBounds_toArray, List.set_cons_zero, List.set_cons_succ]
  refine wpAnyH_take (i := 2) (v := ?_) rfl (by kernel_rfl) (by kernel_rfl) (by kernel_rfl) (fun _ _ _ h => h) (Or.inl ⟨by rfl, ?_⟩) (by assumption) ?_
  rotate_left
  · intro wq hSw
    (try dsimp only at hSw)
    (try simp only [List.getElem_toArray, List.getElem_cons_succ, List.getElem_cons_zero])
    go_simp
    (try with_reducible rfl)
  simp only [Act.put, List.getElem_toArray, List.getElem_cons_succ, List.getElem_cons_zero, List.setIfInBounds_toArray, List.set_cons_zero, List.set_cons_succ]
  refine wpAnyH_take (i := 3) (v := ?_) rfl (by kernel_rfl) (by kernel_rfl) (by kernel_rfl) (fun _ _ _ h => h) (Or.inl ⟨by rfl, ?_⟩) (by assumption) ?_
  rotate_left
  · intro wq hSw
    (try dsimp only at hSw)
    (try simp only [List.getElem_toArray, List.getElem_cons_succ, List.getElem_cons_zero])
    go_simp
    (try with_reducible rfl)
  simp only [Act.put, List.getElem_toArray, List.getElem_cons_succ, List.getElem_cons_zero, List.setIfInBounds_toArray, List.set_cons_zero, List.set_cons_succ]
  refine wpAnyH_take (i := 4) (v := ?_) rfl (by kernel_rfl) (by kernel_rfl) (by kernel_rfl) (fun _ _ _ h => h) (Or.inl ⟨by rfl, ?_⟩) (by assumption) ?_
  rotate_left
  · intro wq hSw
    (try dsimp only at hSw)
    (try simp only [List.getElem_toArray, List.getElem_cons_succ, List.getElem_cons_zero])
    go_simp
    (try with_reducible rfl)
  simp only [Act.put, List.getElem_toArray, List.getElem_cons_succ, List.getElem_cons_zero, List.setIfInBounds_toArray, List.set_cons_zero, List.set_cons_succ]
  refine wpAnyH_take (i := 5) (v := ?_) rfl (by kernel_rfl) (by kernel_rfl) (by kernel_rfl) (fun _ _ _ h => h) (Or.inl ⟨by rfl, ?_⟩) (by assumption) ?_
  rotate_left
  · intro wq hSw
    (try dsimp only at hSw)
    (try simp only [List.getElem_toArray, List.getElem_cons_succ, List.getElem_cons_zero])
    go_simp
    (try with_reducible rfl)
  simp only [Act.put, List.getElem_toArray, List.getElem_cons_succ, List.getElem_cons_zero, List.setIfInBounds_toArray, List.set_cons_zero, List.set_cons_succ]
  refine wpAnyH_take (i := 6) (v := ?_) rfl (by kernel_rfl) (by kernel_rfl) (by kernel_rfl) (fun _ _ _ h => h) (Or.inl ⟨by rfl, ?_⟩) (by assumption) ?_
  rotate_left
  · intro wq hSw
    (try dsimp only at hSw)
    (try simp only [List.getElem_toArray, List.getElem_cons_succ, List.getElem_cons_zero])
    go_simp
    (try with_reducible rfl)
  simp only [Act.put, List.getElem_toArray, List.getElem_cons_succ, List.getElem_cons_zero, List.setIfInBounds_toArray, List.set_cons_zero, List.set_cons_succ]
  refine wpAnyH_take (i := 10) (v := ?_) rfl (by kernel_rfl) (by kernel_rfl) (by kernel_rfl) (fun _ _ _ h => h) (Or.inl ⟨by rfl, ?_⟩) (by assumption) ?_
  rotate_left
  · intro wq hSw
    (try dsimp only at hSw)
    (try simp only [List.getElem_toArray, List.getElem_cons_succ, List.getElem_cons_zero])
    go_simp
    (try with_reducible rfl)
  simp only [Act.put, List.getElem_toArray, List.getElem_cons_succ, List.getElem_cons_zero, List.setIfInBounds_toArray, List.set_cons_zero, List.set_cons_succ]
  refine wpAnyH_take (i := 11) (v := ?_) rfl (by kernel_rfl) (by kernel_rfl) (by kernel_rfl) (fun _ _ _ h => h) (Or.inl ⟨by rfl, ?_⟩) (by assumption) ?_
  rotate_left
  · intro wq hSw
    (try dsimp only at hSw)
    (try simp only [List.getElem_toArray, List.getElem_cons_succ, List.getElem_cons_zero])
    go_simp
    (try with_reducible rfl)
  simp only [Act.put, List.getElem_toArray, List.getElem_cons_succ, List.getElem_cons_zero, List.setIfInBounds_toArray, List.set_cons_zero, List.set_cons_succ]
  refine wpAnyH_take (i := 12) (v := ?_) rfl (by kernel_rfl) (by kernel_rfl) (by kernel_rfl) (fun _ _ _ h => h) (Or.inl ⟨by rfl, ?_⟩) (by assumption) ?_
  rotate_left
  · intro wq hSw
    (try dsimp only at hSw)
    (try simp only [List.getElem_toArray, List.getElem_cons_succ, List.getElem_cons_zero])
    go_simp
    (try with_reducible rfl)
  simp only [Act.put, List.getElem_toArray, List.getElem_cons_succ, List.getElem_cons_zero, List.setIfInBounds_toArray, List.set_cons_zero, List.set_cons_succ]
  refine wpAnyH_take (i := 13) (v := ?_) rfl (by kernel_rfl) (by kernel_rfl) (by kernel_rfl) (fun _ _ _ h => h) (Or.inl ⟨by rfl, ?_⟩) (by assumption) ?_
  rotate_left
  · intro wq hSw
    (try dsimp only at hSw)
    (try simp only [List.getElem_toArray, List.getElem_cons_succ, List.getElem_cons_zero])
    go_simp
    (try with_reducible rfl)
  simp only [Act.put, List.getElem_toArray, List.getElem_cons_succ, List.getElem_cons_zero, List.setIfInBounds_toArray, List.set_cons_zero, List.set_cons_succ]
  refine wpAnyH_ready (rs := [7]) (by kernel_rfl) (by simp) ?_
  refine AllReadyH.cons rfl (fun K hK => ?_) AllReadyH.nil
  (try simp only [List.getElem_toArray, List.getElem_cons_succ, List.getElem_cons_zero])
  skip
  go_simp
  skip
  refine hK.out _ _ hS (fun hHeld => ?_)
  clear hK K
  refine wpAnyH_ready (rs := [8]) (by kernel_rfl) (by simp) ?_
  refine AllReadyH.cons rfl (fun K hK => ?_) AllReadyH.nil
  (try simp only [List.getElem_toArray, List.getElem_cons_succ, List.getElem_cons_zero])
  skip
  go_simp
  skip
  refine hK.out _ _ hS (fun hHeld => ?_)
  clear hK K
  refine wpAnyH_take (i := 9) (v := ?_) rfl (by kernel_rfl) (by kernel_rfl) (by kernel_rfl) (fun _ _ _ h => h) (Or.inl ⟨by rfl, ?_⟩) (by assumption) ?_
  rotate_left
  · intro wq hSw
    (try dsimp only at hSw)
    (try simp only [List.getElem_toArray, List.getElem_cons_succ, List.getElem_cons_zero])
    go_simp
    (try with_reducible rfl)
  simp only [Act.put, List.getElem_toArray, List.getElem_cons_succ, List.getElem_cons_zero, List.setIfInBounds_toArray, List.set_cons_zero, List.set_cons_succ]
  refine wpAnyH_take (i := 14) (v := ?_) rfl (by kernel_rfl) (by kernel_rfl) (by kernel_rfl) (fun _ _ _ h => h) (Or.inl ⟨by rfl, ?_⟩) (by assumption) ?_
  rotate_left
  · intro wq hSw
    (try dsimp only at hSw)
    (try simp only [List.getElem_toArray, List.getElem_cons_succ, List.getElem_cons_zero])
    go_simp
    (try with_reducible rfl)
  simp only [Act.put, List.getElem_toArray, List.getElem_cons_succ, List.getElem_cons_zero, List.setIfInBounds_toArray, List.set_cons_zero, List.set_cons_succ]
  refine wpAnyH_take (i := 15) (v := ?_) rfl (by kernel_rfl) (by kernel_rfl) (by kernel_rfl) (fun _ _ _ h => h) (Or.inl ⟨by rfl, ?_⟩) (by assumption) ?_
  rotate_left
  · intro wq hSw
    (try dsimp only at hSw)
    (try simp only [List.getElem_toArray, List.getElem_cons_succ, List.getElem_cons_zero])
    go_simp
    (try with_reducible rfl)
  simp only [Act.put, List.getElem_toArray, List.getElem_cons_succ, List.getElem_cons_zero, List.setIfInBounds_toArray, List.set_cons_zero, List.set_cons_succ]
  refine wpAnyH_done (by kernel_rfl) ?_ _
  go_wp2
  go_ret
  exact ⟨by rw [HE.out]; rfl, ((Below.refl _ w).drew).alloc (Nat.le_refl _) _⟩
theorem l1In_any (x a b : Int) (w : World) :
    Calls Tryd.prog 35 #[.int .i64 x, .int .i64 a, .int .i64 b] w fun e w' => e = .returned (.bool (decide (a ≤ x) && decide (x ≤ b))) ∧ w = w' := by
  by_cases h1 : a ≤ x
  · go_enter Tryd.func35, Tryd.ntmps35
    go_wp2
    go_ret
    exact ⟨by rw [decide_eq_true h1]; rfl, rfl⟩
  · go_enter Tryd.func35, Tryd.ntmps35
    go_wp2
    go_ret
    exact ⟨by rw [decide_eq_false (show ¬ a ≤ x by omega)]; rfl, rfl⟩
theorem specTurn_no (s : ByteArray) (k : Int) (w : World) (hs : s.size ≤ maxLen) (h : turnOkB s.data.toList k = false) :
    Calls Tryd.prog 29 #[.string s, .int .i64 k] w fun e w' => e = .returned (.tuple #[.string ⟨#[]⟩, .bool false]) ∧ w = w' := by
  have hs0 := hs
  unfold maxLen at hs0
  cases h1 : okB s.data.toList with
  | false =>
    clear h
    go_enter Tryd.func29, Tryd.ntmps29
    go_wp2_with (go_at_call 22; refine (l2Ok_any _ _ hs).mono ?_; rintro e w' ⟨rfl, rfl⟩)
    go_ret2
    exact ⟨rfl, rfl⟩
  | true =>
    have h2 : (decide (0 ≤ k) && decide (k ≤ (s.size : Int) - 1)) = false := by
      unfold turnOkB at h
      rw [h1, Bool.true_and, size_list] at h
      rw [← h]; congr 1; rw [decide_eq_decide]; omega
    have H2 := Lib.hid h2
    clear h h2
    go_enter Tryd.func29, Tryd.ntmps29
    go_wp2_with (first | (go_at_call 22; refine (l2Ok_any _ _ hs).mono ?_; rintro e w' ⟨rfl, rfl⟩) | (go_at_call 35; refine (l1In_any _ _ _ _).mono ?_; rintro e w' ⟨rfl, rfl⟩; rw [H2.out]))
    go_ret2
    exact ⟨rfl, rfl⟩
theorem specTurn_yes (s : ByteArray) (j : Nat) (w : World) (h : okB s.data.toList = true) (hj : j < s.size) :
    Calls Tryd.prog 29 #[.string s, .int .i64 j] w fun e w' => e = .returned (.tuple #[.string ⟨(turnL s.data.toList j).toArray⟩, .bool true]) ∧ Below w.heap.size w w' := by
  have hsz := ok_size h
  have hmax : s.size ≤ maxLen := by unfold maxLen; omega
  have hb := Lib.hid (ok_bit h hj)
  have H2 := Lib.hid (show (decide ((0 : Int) ≤ (j : Int)) && decide ((j : Int) ≤ (s.size : Int) - 1)) = true by
    rw [decide_eq_true (by omega), decide_eq_true (by omega)]; rfl)
  go_enter Tryd.func29, Tryd.ntmps29
  go_wp2_with (first | (go_at_call 22; refine (l2Ok_any _ _ hmax).mono ?_; rintro e w' ⟨rfl, rfl⟩) | (go_at_call 35; refine (l1In_any _ _ _ _).mono ?_; rintro e w' ⟨rfl, rfl⟩; rw [H2.out]))
  refine (l12Turn_any s j _ (by omega) hj hb.out).mono ?_
  rintro e w1 ⟨rfl, hb1⟩
  have HB1 := Lib.hid hb1
  clear hb1
  go_wp2
  go_ret2
  exact ⟨rfl, HB1.out⟩
end Go.Proofs.YtjnehfbeokpgpaaDoor
