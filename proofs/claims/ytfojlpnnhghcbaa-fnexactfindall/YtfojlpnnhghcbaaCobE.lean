/- CobsPut of the model. -/
import Derived.Test.YtfojlpnnhghcbaaCobD
import Derived.Test.YtfojlpnnhghcbaaDrawD
namespace Go.Proofs.Ytfojlpnnhghcbaa
open Go.ChangeShapes Go.WideShapes Go.ChangeAt Go.RowKit
theorem blk_at {l : List UInt8} {k : Nat} (hk : k ≤ blkN l) (h4 : k < 254) (hl : k < l.length) : (l[k] ≠ 0 ↔ k < blkN l) := by
  have hi := idx_blk l
  have hg : (l.take 254)[k]? = some l[k] := by rw [List.getElem?_take_of_lt h4, List.getElem?_eq_getElem hl]
  by_cases hz : blkN l < 254 ∧ blkN l < l.length
  · rw [if_pos hz] at hi
    obtain ⟨h1, h2⟩ := Lib.indexByte_some hi
    constructor
    · intro hne
      rcases Nat.lt_or_ge k (blkN l) with h | h
      · exact h
      · have e : k = blkN l := by omega
        rw [← e, hg] at h1
        simp at h1
        exact absurd h1 hne
    · intro h e
      apply h2 k h
      rw [hg, e]
  · rw [if_neg hz] at hi
    have h3 := Lib.indexByte_none hi k
    rw [hg] at h3
    have hb := blkN_le l
    exact ⟨fun _ => by omega, fun _ e => h3 (by rw [e])⟩
set_option maxRecDepth 100000 in
set_option maxHeartbeats 1000000 in
theorem l6Block_any (s : ByteArray) (w : World) :
    Calls Try.prog 94 #[.string s] w fun e w' => e = .returned (.int .i64 (blkN s.data.toList)) ∧ w = w' := by
  have HSL := Lib.hid (size_list s)
  have hb := blkN_le s.data.toList
  rw [HSL.out] at hb
  have HA := Lib.hid (fun k h1 h2 h3 => blk_at (l := s.data.toList) (k := k) h1 h2 h3)
  go_enter Try.func94, Try.ntmps94
  go_wp2
  go_loopw [3] (fun i wr => ∃ k : Nat, k ≤ blkN s.data.toList ∧ i = .int .i64 k ∧ wr = w) (fun i _ => s.size - (intOf i).toNat)
  case atStart => exact ⟨0, Nat.zero_le _, rfl, rfl⟩
  case round =>
    obtain ⟨k, hk, rfl, rfl⟩ := hrel
    have HBN := Lib.hid (show ∀ n, blkN s.data.toList = n → k = n → k = blkN s.data.toList from fun n h1 h2 => h2.trans h1.symm)
    obtain ⟨n, hn⟩ : ∃ n, n = blkN s.data.toList := ⟨_, rfl⟩
    rw [← hn] at hk hb
    have HN := Lib.hid hn
    clear HBN
    by_cases hl : k < s.size
    · by_cases h4 : k < 254
      · have hat := HA.out k (by omega) h4 (by rw [HSL.out]; exact hl)
        rw [← hn] at hat
        have hat2 : s[k] ≠ 0 ↔ k < n := hat
        clear hn hat
        by_cases hz : s[k] = 0
        · have hkn : k = n := by
            have : ¬ k < n := fun h => (hat2.2 h) hz
            omega
          have hb0 : ((s[k].toNat : Int) != 0) = false := by rw [hz]; rfl
          have HKN := Lib.hid hkn
          clear hat2 hz hkn
          go_wp2
          go_ret
          exact ⟨by rw [← HN.out, ← HKN.out]; rfl, rfl⟩
        · have hkn := hat2.1 hz
          have hb0 : ((s[k].toNat : Int) != 0) = true := by
            have : s[k].toNat ≠ 0 := fun e => hz (by apply UInt8.toNat_inj.1; exact e)
            simp; omega
          clear hat2 hz
          go_wp2
          go_roundw
          case rel => exact ⟨k + 1, by rw [← HN.out]; omega, by go_num, by trivial⟩
          case measure => simp [intOf]; omega
      · have HKN := Lib.hid (show k = n by omega)
        clear hn
        go_wp2
        go_ret
        exact ⟨by rw [← HN.out, ← HKN.out]; rfl, rfl⟩
    · have HKN := Lib.hid (show k = n by omega)
      clear hn
      go_wp2
      go_ret
      exact ⟨by rw [← HN.out, ← HKN.out]; rfl, rfl⟩
theorem string_one (n : Nat) (hn : n ≤ 254) (u : World) : (convert 22 9 (.slice (some ⟨u.heap.size, 0, none⟩) 1 1)).run Try.prog (u.alloc (.cells #[.int .u8 ((n : Int) + 1)] 5)) = .ok (.string ⟨#[UInt8.ofNat (n + 1)]⟩) (u.alloc (.cells #[.int .u8 ((n : Int) + 1)] 5)) := by
  have h := run_string_one u (UInt8.ofNat (n + 1))
  have e : ((UInt8.ofNat (n + 1)).toNat : Int) = (n : Int) + 1 := by rw [UInt8.toNat_ofNat']; omega
  rw [e] at h
  exact h
theorem string_oneD (n : Nat) (hn : n ≤ 254) (u : World) : (convert 22 9 (.slice (some ⟨u.heap.size, 0, none⟩) 1 1)).run Try.prog (u.alloc (.cells #[.int .u8 ((n : Int) + 1)] 5)).drew = .ok (.string ⟨#[UInt8.ofNat (n + 1)]⟩) (u.alloc (.cells #[.int .u8 ((n : Int) + 1)] 5)).drew := by
  have e : ((UInt8.ofNat (n + 1)).toNat : Int) = (n : Int) + 1 := by rw [UInt8.toNat_ofNat']; omega
  have h := run_string_of_OB (P := Try.prog) (u.alloc (.cells #[.int .u8 ((UInt8.ofNat (n + 1)).toNat : Int)] 5)).drew 22 9 5 u.heap.size (.slice (some ⟨u.heap.size, 0, none⟩) 1 1) [UInt8.ofNat (n + 1)] Try.underlying22 Try.underlying5 Try.underlying9
    (OB.drew (.inr ⟨u.heap.size, 1, #[.int .u8 ((UInt8.ofNat (n + 1)).toNat : Int)], (0, 0), rfl, Nat.le_refl _, heap_alloc_new u _, .inl rfl, Nat.le_refl _, by unfold maxLen; omega, rfl, rfl⟩))
  rw [e] at h
  exact h
theorem string_c1 (u : World) : (convert 22 9 (.slice (some ⟨u.heap.size, 0, none⟩) 1 1)).run Try.prog (u.alloc (.cells #[.int .u8 1] 5)) = .ok (.string ⟨#[1]⟩) (u.alloc (.cells #[.int .u8 1] 5)) := run_string_one u 1
theorem string_c1D (u : World) (x : Int) : (convert 22 9 (.slice (some ⟨u.heap.size + 1, 0, none⟩) 1 1)).run Try.prog ((u.alloc (.cells #[.int .u8 x] 5)).alloc (.cells #[.int .u8 1] 5)).drew = .ok (.string ⟨#[1]⟩) ((u.alloc (.cells #[.int .u8 x] 5)).alloc (.cells #[.int .u8 1] 5)).drew := by
  have h := heap_alloc_new (u.alloc (.cells #[.int .u8 x] 5)) (.cells #[.int .u8 1] 5)
  rw [World.size_alloc] at h
  exact run_string_of_OB (P := Try.prog) _ 22 9 5 u.heap.size (.slice (some ⟨u.heap.size + 1, 0, none⟩) 1 1) [1] Try.underlying22 Try.underlying5 Try.underlying9
    (OB.drew (.inr ⟨u.heap.size + 1, 1, #[.int .u8 1], (0, 0), rfl, by omega, h, .inl rfl, Nat.le_refl _, by unfold maxLen; omega, rfl, rfl⟩))
theorem emp_iff (s : ByteArray) : s.toList.isEmpty = decide (s.size = 0) := by
  rw [ByteArray.toList_eq, Bool.eq_iff_iff, List.isEmpty_iff, decide_eq_true_iff, ← size_list, List.length_eq_zero_iff]
theorem cob_nil : cob [] = [1] := by rw [cob_last (by simp)]; rfl
theorem cob_len (l : List UInt8) : (cob l).length ≤ 2 * l.length + 1 := by
  induction hn : l.length using Nat.strongRecOn generalizing l with
  | _ n ih =>
    have hb := blkN_le l
    have hst := stepN_pos l
    have hsb : blkN l ≤ stepN l := by unfold stepN; split <;> omega
    by_cases h : blkN l < l.length
    · rw [cob_more h, List.length_append, putB_len, List.length_take]
      have h2 := ih (l.drop (stepN l)).length (by rw [List.length_drop]; omega) _ rfl
      rw [List.length_drop] at h2
      omega
    · rw [cob_last (by omega), putB_len]; omega
set_option maxRecDepth 100000 in
set_option maxHeartbeats 4000000 in
theorem l6Put_any (s : ByteArray) (w : World) (hs : s.size ≤ 600) :
    Calls Try.prog 83 #[.string s] w fun e w' => e = .returned (.string ⟨(cob s.data.toList).toArray⟩) ∧ Below w.heap.size w w' := by
  have HSL := Lib.hid (size_list s)
  go_enter Try.func83, Try.ntmps83
  go_wp2
  go_loopw [0, 3, 4] (fun r o _ wr => ∃ (R O : ByteArray), r = .string R ∧ o = .string O ∧ O.size + 2 * R.size ≤ 2 * s.size ∧ O.data.toList ++ cob R.data.toList = cob s.data.toList ∧ Below w.heap.size w wr) (fun r _ _ _ => match r with | .string R => R.size | _ => 0)
  case atStart => exact ⟨s, ⟨#[]⟩, rfl, rfl, by show 0 + 2 * s.size ≤ 2 * s.size; omega, rfl, Below.refl _ _⟩
  case round =>
    obtain ⟨R, O, rfl, rfl, hlen, hcob, hbel⟩ := hrel
    have HB := Lib.hid hbel
    have HC := Lib.hid hcob
    have HRL := Lib.hid (size_list R)
    have hbn := blkN_le R.data.toList
    have hst := stepN_pos R.data.toList
    rw [HRL.out] at hbn
    clear hbel hcob
    go_wp2_with fail
    refine (l6Block_any R wr).mono ?_
    rintro e w1 ⟨rfl, rfl⟩
    obtain ⟨n, hn⟩ : ∃ n, n = blkN R.data.toList := ⟨_, rfl⟩
    rw [← hn] at hbn ⊢
    have HN := Lib.hid hn
    have hcv := string_one n hbn.1
    have hcvd := string_oneD n hbn.1
    obtain ⟨b, hbe⟩ : ∃ b : UInt8, b = UInt8.ofNat (n + 1) := ⟨_, rfl⟩
    obtain ⟨R2, hR2⟩ : ∃ R2 : ByteArray, R2 = R.extract n R.size := ⟨_, rfl⟩
    simp only [← hbe] at hcv hcvd
    have hw1 : IntKind.i64.wrap ((n : Int) + 1) = (n : Int) + 1 := by rw [IntKind.wrap_i64]; omega
    have hw2 : IntKind.u8.wrap ((n : Int) + 1) = (n : Int) + 1 := by rw [IntKind.wrap_u8]; omega
    have s1 := slice_to R n hbn.2
    have s2 := slice_from R n hbn.2
    have hadd1 : ∀ u : World, (Op.stringOp .add O ⟨#[b]⟩).run Try.prog u = .ok (.string (O ++ ⟨#[b]⟩)) u := fun u => run_string_add_sum u _ _ (by have : (⟨#[b]⟩ : ByteArray).size = 1 := rfl; omega)
    have hadd2 : ∀ u : World, (Op.stringOp .add (O ++ ⟨#[b]⟩) (R.extract 0 n)).run Try.prog u = .ok (.string (O ++ ⟨#[b]⟩ ++ R.extract 0 n)) u := fun u => run_string_add_sum u _ _ (by have : (⟨#[b]⟩ : ByteArray).size = 1 := rfl; rw [ByteArray.size_append, ByteArray.size_extract]; omega)
    rw [← hR2] at s2
    have HPut := Lib.hid (show (O ++ ⟨#[b]⟩ ++ R.extract 0 n).data.toList = O.data.toList ++ putB (R.data.toList.take n) by
      rw [ext_to, putB, List.length_take, HRL.out, Nat.min_eq_left hbn.2, ← hbe]; simp)
    have hOs : (O ++ ⟨#[b]⟩ ++ R.extract 0 n).size = O.size + 1 + n := by
      rw [ByteArray.size_append, ByteArray.size_append, ByteArray.size_extract]; have : (⟨#[b]⟩ : ByteArray).size = 1 := rfl; omega
    have HR2 := Lib.hid (show R2.data.toList = R.data.toList.drop n by rw [hR2, ext_from])
    have hR2s : R2.size = R.size - n := by rw [← size_list, HR2.out, List.length_drop, HRL.out]
    have HST := Lib.hid (show stepN R.data.toList = if n < 254 then n + 1 else n by rw [stepN, ← hn])
    clear hn hR2 hbe
    have hbe1 : Below w.heap.size w (wr.alloc (.cells #[.int .u8 ((n : Int) + 1)] 5)).drew := (HB.out.alloc HB.out.size _).drew
    have HB1 := Lib.hid hbe1
    clear hbe1
    by_cases hend : n < R.size
    · have HCM := Lib.hid (cob_more (l := R.data.toList) (by rw [← HN.out, HRL.out]; exact hend))
      have hemp : R2.toList.isEmpty = false := by rw [emp_iff]; exact decide_eq_false (by omega)
      by_cases h4 : n < 254
      · obtain ⟨R3, hR3⟩ : ∃ R3 : ByteArray, R3 = R2.extract 1 R2.size := ⟨_, rfl⟩
        have s3 : ∀ u : World, (Instr.slice 9 (.string R2) (some (.int .i64 1)) none none).run Try.prog u = .ok (.string R3) u := fun u => by rw [hR3]; exact slice_from R2 1 (by omega) u
        have HR3 := Lib.hid (show R3.data.toList = R.data.toList.drop (n + 1) by rw [hR3, ext_from, HR2.out, List.drop_drop, Nat.add_comm])
        have hR3s : R3.size = R.size - (n + 1) := by rw [← size_list, HR3.out, List.length_drop, HRL.out]
        have HCN := Lib.hid (show cob s.data.toList = (O ++ ⟨#[b]⟩ ++ R.extract 0 n).data.toList ++ cob R3.data.toList by
          rw [HPut.out, HR3.out, ← HC.out, HCM.out, HST.out, if_pos h4, ← HN.out, List.append_assoc])
        have HR3s := Lib.hid hR3s
        have HR2s := Lib.hid hR2s
        have HOs := Lib.hid hOs
        clear hR3
        generalize O ++ ⟨#[b]⟩ ++ R.extract 0 n = O2 at *
        by_cases h3 : R3.size = 0
        · clear hR2s
          have hemp3 : R3.toList.isEmpty = true := by rw [emp_iff]; exact decide_eq_true (by omega)
          have hc1 := string_c1D wr ((n : Int) + 1)
          have hadd3 : ∀ u : World, (Op.stringOp .add O2 ⟨#[1]⟩).run Try.prog u = .ok (.string (O2 ++ ⟨#[1]⟩)) u := fun u => run_string_add_sum u _ _ (by have : (⟨#[1]⟩ : ByteArray).size = 1 := rfl; omega)
          have h3' := h3
          clear hR3s h3
          have HE := Lib.hid (show (O2 ++ ⟨#[1]⟩ : ByteArray) = ⟨(cob s.data.toList).toArray⟩ by
            have e3 : R3.data.toList = [] := List.length_eq_zero_iff.1 (by rw [size_list]; exact h3')
            rw [HCN.out, e3, cob_nil, ← Lib.mk_data (O2 ++ ⟨#[1]⟩)]; congr 2)
          clear h3'
          go_wp2
          go_region
          go_wp2
          go_ret
          exact ⟨by rw [← HE.out]; rfl, HB1.out.alloc HB1.out.size _⟩
        · have hemp3 : R3.toList.isEmpty = false := by rw [emp_iff]; exact decide_eq_false (by omega)
          clear hR2s hR3s
          go_wp2
          go_region
          go_wp2
          go_roundw
          case rel => exact ⟨R3, O2, rfl, rfl, by have := HR3s.out; omega, HCN.out.symm, HB1.out⟩
          case measure => have := HR3s.out; simp only []; omega
      · have HCN := Lib.hid (show cob s.data.toList = (O ++ ⟨#[b]⟩ ++ R.extract 0 n).data.toList ++ cob R2.data.toList by
          rw [HPut.out, HR2.out, ← HC.out, HCM.out, HST.out, if_neg h4, ← HN.out, List.append_assoc])
        have HR2s := Lib.hid hR2s
        clear hR2s
        generalize O ++ ⟨#[b]⟩ ++ R.extract 0 n = O2 at *
        go_wp2
        go_region
        go_wp2
        go_roundw
        case rel => exact ⟨R2, O2, rfl, rfl, by have := HR2s.out; omega, HCN.out.symm, HB1.out⟩
        case measure => have := HR2s.out; simp only []; omega
    · have hemp : R2.toList.isEmpty = true := by rw [emp_iff]; exact decide_eq_true (by omega)
      have HE := Lib.hid (show (O ++ ⟨#[b]⟩ ++ R.extract 0 n : ByteArray) = ⟨(cob s.data.toList).toArray⟩ by
        rw [← Lib.mk_data (O ++ ⟨#[b]⟩ ++ R.extract 0 n), HPut.out, ← HC.out, cob_last (l := R.data.toList) (by rw [← HN.out, HRL.out]; omega), List.take_of_length_le (by rw [HRL.out]; omega)])
      generalize O ++ ⟨#[b]⟩ ++ R.extract 0 n = O2 at *
      go_wp2
      go_region
      go_wp2
      go_ret
      exact ⟨by rw [← HE.out]; rfl, HB1.out⟩
end Go.Proofs.Ytfojlpnnhghcbaa
