/- CobsPut of the model. -/
import Derived.Test.YtcegpcggdcgjbaaGreatDoorKitCob
import Derived.Test.YtcegpcggdcgjbaaGreatDoorDrawD
namespace Go.Proofs.YtcegpcggdcgjbaaGreatDoor
open Go.ChangeShapes Go.WideShapes Go.ChangeAt Go.RowKit
theorem blk_at {l : List UInt8} {k : Nat} (hk : k ≤ blkN l) (h4 : k < 254) (hl : k < l.length) : (l[k] ≠ 0 ↔ k < blkN l) := by
  have hi := idx_blk l
  have hg : (l.take 254)[k]? = some l[k] := by rw [List.getElem?_take_of_lt h4, List.getElem?_eq_getElem hl]
  by_cases hz : blkN l < 254 ∧ blkN l < l.length
  · rw [if_pos hz] at hi
    obtain ⟨h1, h2⟩ := Lib.indexByte_some hi
    constructor
    · intro hne
      rcases Nat.lt_or_ge k (blkN l) with h | h
      · exact h
      · have e : k = blkN l := by omega
        rw [← e, hg] at h1
        simp at h1
        exact absurd h1 hne
    · intro h e
      apply h2 k h
      rw [hg, e]
  · rw [if_neg hz] at hi
    have h3 := Lib.indexByte_none hi k
    rw [hg] at h3
    have hb := blkN_le l
    exact ⟨fun _ => by omega, fun _ e => h3 (by rw [e])⟩
set_option maxRecDepth 100000 in
set_option maxHeartbeats 1000000 in
theorem l6Block_any (s : ByteArray) (w : World) :
    Calls Tryz.prog 90 #[.string s] w fun e w' => e = .returned (.int .i64 (blkN s.data.toList)) ∧ w = w' := by
  have HSL := Lib.hid (size_list s)
  have hb := blkN_le s.data.toList
  rw [HSL.out] at hb
  have HA := Lib.hid (fun k h1 h2 h3 => blk_at (l := s.data.toList) (k := k) h1 h2 h3)
  go_enter Tryz.func90, Tryz.ntmps90
  go_wp2
  go_loopw [3] (fun i wr => ∃ k : Nat, k ≤ blkN s.data.toList ∧ i = .int .i64 k ∧ wr = w) (fun i _ => s.size - (intOf i).toNat)
  case atStart => exact ⟨0, Nat.zero_le _, rfl, rfl⟩
  case round =>
    obtain ⟨k, hk, rfl, rfl⟩ := hrel
    have HBN := Lib.hid (show ∀ n, blkN s.data.toList = n → k = n → k = blkN s.data.toList from fun n h1 h2 => h2.trans h1.symm)
    obtain ⟨n, hn⟩ : ∃ n, n = blkN s.data.toList := ⟨_, rfl⟩
    rw [← hn] at hk hb
    have HN := Lib.hid hn
    clear HBN
    by_cases hl : k < s.size
    · by_cases h4 : k < 254
      · have hat := HA.out k (by omega) h4 (by rw [HSL.out]; exact hl)
        rw [← hn] at hat
        have hat2 : s[k] ≠ 0 ↔ k < n := hat
        clear hn hat
        by_cases hz : s[k] = 0
        · have hkn : k = n := by
            have : ¬ k < n := fun h => (hat2.2 h) hz
            omega
          have hb0 : ((s[k].toNat : Int) != 0) = false := by rw [hz]; rfl
          have HKN := Lib.hid hkn
          clear hat2 hz hkn
          go_wp2
          go_ret
          exact ⟨by rw [← HN.out, ← HKN.out]; rfl, rfl⟩
        · have hkn := hat2.1 hz
          have hb0 : ((s[k].toNat : Int) != 0) = true := by
            have : s[k].toNat ≠ 0 := fun e => hz (by apply UInt8.toNat_inj.1; exact e)
            simp; omega
          clear hat2 hz
          go_wp2
          go_roundw
          case rel => exact ⟨k + 1, by rw [← HN.out]; omega, by go_num, by trivial⟩
          case measure => simp [intOf]; omega
      · have HKN := Lib.hid (show k = n by omega)
        clear hn
        go_wp2
        go_ret
        exact ⟨by rw [← HN.out, ← HKN.out]; rfl, rfl⟩
    · have HKN := Lib.hid (show k = n by omega)
      clear hn
      go_wp2
      go_ret
      exact ⟨by rw [← HN.out, ← HKN.out]; rfl, rfl⟩
theorem string_one (n : Nat) (hn : n ≤ 254) (u : World) : (convert 22 9 (.slice (some ⟨u.heap.size, 0, none⟩) 1 1)).run Tryz.prog (u.alloc (.cells #[.int .u8 ((n : Int) + 1)] 5)) = .ok (.string ⟨#[UInt8.ofNat (n + 1)]⟩) (u.alloc (.cells #[.int .u8 ((n : Int) + 1)] 5)) := by
  have h := run_string_one u (UInt8.ofNat (n + 1))
  have e : ((UInt8.ofNat (n + 1)).toNat : Int) = (n : Int) + 1 := by rw [UInt8.toNat_ofNat']; omega
  rw [e] at h
  exact h
theorem string_oneD (n : Nat) (hn : n ≤ 254) (u : World) : (convert 22 9 (.slice (some ⟨u.heap.size, 0, none⟩) 1 1)).run Tryz.prog (u.alloc (.cells #[.int .u8 ((n : Int) + 1)] 5)).drew = .ok (.string ⟨#[UInt8.ofNat (n + 1)]⟩) (u.alloc (.cells #[.int .u8 ((n : Int) + 1)] 5)).drew := by
  have e : ((UInt8.ofNat (n + 1)).toNat : Int) = (n : Int) + 1 := by rw [UInt8.toNat_ofNat']; omega
  have h := run_string_of_OB (P := Tryz.prog) (u.alloc (.cells #[.int .u8 ((UInt8.ofNat (n + 1)).toNat : Int)] 5)).drew 22 9 5 u.heap.size (.slice (some ⟨u.heap.size, 0, none⟩) 1 1) [UInt8.ofNat (n + 1)] Tryz.underlying22 Tryz.underlying5 Tryz.underlying9
    (OB.drew (.inr ⟨u.heap.size, 1, #[.int .u8 ((UInt8.ofNat (n + 1)).toNat : Int)], (0, 0), rfl, Nat.le_refl _, heap_alloc_new u _, .inl rfl, Nat.le_refl _, by unfold maxLen; omega, rfl, rfl⟩))
  rw [e] at h
  exact h
theorem string_c1 (u : World) : (convert 22 9 (.slice (some ⟨u.heap.size, 0, none⟩) 1 1)).run Tryz.prog (u.alloc (.cells #[.int .u8 1] 5)) = .ok (.string ⟨#[1]⟩) (u.alloc (.cells #[.int .u8 1] 5)) := run_string_one u 1
theorem string_c1D (u : World) (x : Int) : (convert 22 9 (.slice (some ⟨u.heap.size + 1, 0, none⟩) 1 1)).run Tryz.prog ((u.alloc (.cells #[.int .u8 x] 5)).alloc (.cells #[.int .u8 1] 5)).drew = .ok (.string ⟨#[1]⟩) ((u.alloc (.cells #[.int .u8 x] 5)).alloc (.cells #[.int .u8 1] 5)).drew := by
  have h := heap_alloc_new (u.alloc (.cells #[.int .u8 x] 5)) (.cells #[.int .u8 1] 5)
  rw [World.size_alloc] at h
  exact run_string_of_OB (P := Tryz.prog) _ 22 9 5 u.heap.size (.slice (some ⟨u.heap.size + 1, 0, none⟩) 1 1) [1] Tryz.underlying22 Tryz.underlying5 Tryz.underlying9
    (OB.drew (.inr ⟨u.heap.size + 1, 1, #[.int .u8 1], (0, 0), rfl, by omega, h, .inl rfl, Nat.le_refl _, by unfold maxLen; omega, rfl, rfl⟩))
theorem emp_iff (s : ByteArray) : s.toList.isEmpty = decide (s.size = 0) := by
  rw [ByteArray.toList_eq, Bool.eq_iff_iff, List.isEmpty_iff, decide_eq_true_iff, ← size_list, List.length_eq_zero_iff]
theorem cob_nil : cob [] = [1] := by rw [cob_last (by simp)]; rfl
theorem cob_len (l : List UInt8) : (cob l).length ≤ 2 * l.length + 1 := by
  induction hn : l.length using Nat.strongRecOn generalizing l with
  | _ n ih =>
    have hb := blkN_le l
    have hst := stepN_pos l
    have hsb : blkN l ≤ stepN l := by unfold stepN; split <;> omega
    by_cases h : blkN l < l.length
    · rw [cob_more h, List.length_append, putB_len, List.length_take]
      have h2 := ih (l.drop (stepN l)).length (by rw [List.length_drop]; omega) _ rfl
      rw [List.length_drop] at h2
      omega
    · rw [cob_last (by omega), putB_len]; omega
set_option maxRecDepth 100000 in
set_option maxHeartbeats 4000000 in
theorem l6Put_any (s : ByteArray) (w : World) (hs : s.size ≤ 600) :
    Calls Tryz.prog 63 #[.string s] w fun e w' => e = .returned (.string ⟨(cob s.data.toList).toArray⟩) ∧ Below w.heap.size w w' := by
  have HSL := Lib.hid (size_list s)
  go_enter Tryz.func63, Tryz.ntmps63
  go_wp2
  go_loopw [0, 3, 4] (fun r o _ wr => ∃ (R O : ByteArray), r = .string R ∧ o = .string O ∧ O.size + 2 * R.size ≤ 2 * s.size ∧ O.data.toList ++ cob R.data.toList = cob s.data.toList ∧ Below w.heap.size w wr) (fun r _ _ _ => match r with | .string R => R.size | _ => 0)
  case atStart => exact ⟨s, ⟨#[]⟩, rfl, rfl, by show 0 + 2 * s.size ≤ 2 * s.size; omega, rfl, Below.refl _ _⟩
  case round =>
    obtain ⟨R, O, rfl, rfl, hlen, hcob, hbel⟩ := hrel
    have HB := Lib.hid hbel
    have HC := Lib.hid hcob
    have HRL := Lib.hid (size_list R)
    have hbn := blkN_le R.data.toList
    have hst := stepN_pos R.data.toList
    rw [HRL.out] at hbn
    clear hbel hcob
    go_wp2_with fail
    refine (l6Block_any R wr).mono ?_
    rintro e w1 ⟨rfl, rfl⟩
    obtain ⟨n, hn⟩ : ∃ n, n = blkN R.data.toList := ⟨_, rfl⟩
    rw [← hn] at hbn ⊢
    have HN := Lib.hid hn
    have hcv := string_one n hbn.1
    have hcvd := string_oneD n hbn.1
    obtain ⟨b, hbe⟩ : ∃ b : UInt8, b = UInt8.ofNat (n + 1) := ⟨_, rfl⟩
    obtain ⟨R2, hR2⟩ : ∃ R2 : ByteArray, R2 = R.extract n R.size := ⟨_, rfl⟩
    simp only [← hbe] at hcv hcvd
    have hw1 : IntKind.i64.wrap ((n : Int) + 1) = (n : Int) + 1 := by rw [IntKind.wrap_i64]; omega
    have hw2 : IntKind.u8.wrap ((n : Int) + 1) = (n : Int) + 1 := by rw [IntKind.wrap_u8]; omega
    have s1 := slice_to R n hbn.2
    have s2 := slice_from R n hbn.2
    have hadd1 : ∀ u : World, (Op.stringOp .add O ⟨#[b]⟩).run Tryz.prog u = .ok (.string (O ++ ⟨#[b]⟩)) u := fun u => run_string_add_sum u _ _ (by have : (⟨#[b]⟩ : ByteArray).size = 1 := rfl; omega)
    have hadd2 : ∀ u : World, (Op.stringOp .add (O ++ ⟨#[b]⟩) (R.extract 0 n)).run Tryz.prog u = .ok (.string (O ++ ⟨#[b]⟩ ++ R.extract 0 n)) u := fun u => run_string_add_sum u _ _ (by have : (⟨#[b]⟩ : ByteArray).size = 1 := rfl; rw [ByteArray.size_append, ByteArray.size_extract]; omega)
    rw [← hR2] at s2
    have HPut := Lib.hid (show (O ++ ⟨#[b]⟩ ++ R.extract 0 n).data.toList = O.data.toList ++ putB (R.data.toList.take n) by
      rw [ext_to, putB, List.length_take, HRL.out, Nat.min_eq_left hbn.2, ← hbe]; simp)
    have hOs : (O ++ ⟨#[b]⟩ ++ R.extract 0 n).size = O.size + 1 + n := by
      rw [ByteArray.size_append, ByteArray.size_append, ByteArray.size_extract]; have : (⟨#[b]⟩ : ByteArray).size = 1 := rfl; omega
    have HR2 := Lib.hid (show R2.data.toList = R.data.toList.drop n by rw [hR2, ext_from])
    have hR2s : R2.size = R.size - n := by rw [← size_list, HR2.out, List.length_drop, HRL.out]
    have HST := Lib.hid (show stepN R.data.toList = if n < 254 then n + 1 else n by rw [stepN, ← hn])
    clear hn hR2 hbe
    have hbe1 : Below w.heap.size w (wr.alloc (.cells #[.int .u8 ((n : Int) + 1)] 5)).drew := (HB.out.alloc HB.out.size _).drew
    have HB1 := Lib.hid hbe1
    clear hbe1
    by_cases hend : n < R.size
    · have HCM := Lib.hid (cob_more (l := R.data.toList) (by rw [← HN.out, HRL.out]; exact hend))
      have hemp : R2.toList.isEmpty = false := by rw [emp_iff]; exact decide_eq_false (by omega)
      by_cases h4 : n < 254
      · obtain ⟨R3, hR3⟩ : ∃ R3 : ByteArray, R3 = R2.extract 1 R2.size := ⟨_, rfl⟩
        have s3 : ∀ u : World, (Instr.slice 9 (.string R2) (some (.int .i64 1)) none none).run Tryz.prog u = .ok (.string R3) u := fun u => by rw [hR3]; exact slice_from R2 1 (by omega) u
        have HR3 := Lib.hid (show R3.data.toList = R.data.toList.drop (n + 1) by rw [hR3, ext_from, HR2.out, List.drop_drop, Nat.add_comm])
        have hR3s : R3.size = R.size - (n + 1) := by rw [← size_list, HR3.out, List.length_drop, HRL.out]
        have HCN := Lib.hid (show cob s.data.toList = (O ++ ⟨#[b]⟩ ++ R.extract 0 n).data.toList ++ cob R3.data.toList by
          rw [HPut.out, HR3.out, ← HC.out, HCM.out, HST.out, if_pos h4, ← HN.out, List.append_assoc])
        have HR3s := Lib.hid hR3s
        have HR2s := Lib.hid hR2s
        have HOs := Lib.hid hOs
        clear hR3
        generalize O ++ ⟨#[b]⟩ ++ R.extract 0 n = O2 at *
        by_cases h3 : R3.size = 0
        · clear hR2s
          have hemp3 : R3.toList.isEmpty = true := by rw [emp_iff]; exact decide_eq_true (by omega)
          have hc1 := string_c1D wr ((n : Int) + 1)
          have hadd3 : ∀ u : World, (Op.stringOp .add O2 ⟨#[1]⟩).run Tryz.prog u = .ok (.string (O2 ++ ⟨#[1]⟩)) u := fun u => run_string_add_sum u _ _ (by have : (⟨#[1]⟩ : ByteArray).size = 1 := rfl; omega)
          have h3' := h3
          clear hR3s h3
          have HE := Lib.hid (show (O2 ++ ⟨#[1]⟩ : ByteArray) = ⟨(cob s.data.toList).toArray⟩ by
            have e3 : R3.data.toList = [] := List.length_eq_zero_iff.1 (by rw [size_list]; exact h3')
            rw [HCN.out, e3, cob_nil, ← Lib.mk_data (O2 ++ ⟨#[1]⟩)]; congr 2)
          clear h3'
          go_wp2
          go_region
          go_wp2
          go_ret
          exact ⟨by rw [← HE.out]; rfl, HB1.out.alloc HB1.out.size _⟩
        · have hemp3 : R3.toList.isEmpty = false := by rw [emp_iff]; exact decide_eq_false (by omega)
          clear hR2s hR3s
          go_wp2
          go_region
          go_wp2
          go_roundw
          case rel => exact ⟨R3, O2, rfl, rfl, by have := HR3s.out; omega, HCN.out.symm, HB1.out⟩
          case measure => have := HR3s.out; simp only []; omega
      · have HCN := Lib.hid (show cob s.data.toList = (O ++ ⟨#[b]⟩ ++ R.extract 0 n).data.toList ++ cob R2.data.toList by
          rw [HPut.out, HR2.out, ← HC.out, HCM.out, HST.out, if_neg h4, ← HN.out, List.append_assoc])
        have HR2s := Lib.hid hR2s
        clear hR2s
        generalize O ++ ⟨#[b]⟩ ++ R.extract 0 n = O2 at *
        go_wp2
        go_region
        go_wp2
        go_roundw
        case rel => exact ⟨R2, O2, rfl, rfl, by have := HR2s.out; omega, HCN.out.symm, HB1.out⟩
        case measure => have := HR2s.out; simp only []; omega
    · have hemp : R2.toList.isEmpty = true := by rw [emp_iff]; exact decide_eq_true (by omega)
      have HE := Lib.hid (show (O ++ ⟨#[b]⟩ ++ R.extract 0 n : ByteArray) = ⟨(cob s.data.toList).toArray⟩ by
        rw [← Lib.mk_data (O ++ ⟨#[b]⟩ ++ R.extract 0 n), HPut.out, ← HC.out, cob_last (l := R.data.toList) (by rw [← HN.out, HRL.out]; omega), List.take_of_length_le (by rw [HRL.out]; omega)])
      generalize O ++ ⟨#[b]⟩ ++ R.extract 0 n = O2 at *
      go_wp2
      go_region
      go_wp2
      go_ret
      exact ⟨by rw [← HE.out]; rfl, HB1.out⟩
end Go.Proofs.YtcegpcggdcgjbaaGreatDoor
/- Plain facts on blocks: how a text is cut, two texts with a nought between. -/
namespace Go.Proofs.YtcegpcggdcgjbaaGreatDoor
open Go.ChangeShapes Go.WideShapes Go.ChangeAt Go.RowKit
def nz (p : List UInt8) : Prop := ∀ x ∈ p, x ≠ 0
theorem blkN_eq {p r : List UInt8} (h : nz p) (hp : p.length ≤ 254) (hr : p.length = 254 ∨ r = [] ∨ ∃ r', r = 0 :: r') : blkN (p ++ r) = p.length := by
  unfold blkN
  rw [List.take_append, List.takeWhile_append_of_pos (by
    intro x hx
    have := h x (List.mem_of_mem_take hx)
    simpa using this), List.take_of_length_le hp, List.length_append]
  have : (r.take (254 - p.length)).takeWhile (· != 0) = [] := by
    rcases hr with hr | hr | ⟨r', hr⟩
    · rw [hr]; simp
    · rw [hr]; simp
    · rw [hr]
      cases 254 - p.length <;> simp
  rw [this]; simp
theorem nz_take (l : List UInt8) : nz (l.take (blkN l)) := by
  intro x hx
  have e : l.take (blkN l) = (l.take 254).takeWhile (· != 0) := by
    have h1 : (l.take 254).takeWhile (· != 0) <+: l := (List.takeWhile_prefix _).trans (List.take_prefix _ _)
    have h2 := List.prefix_iff_eq_take.1 h1
    exact h2.symm
  rw [e] at hx
  have := List.all_takeWhile (p := (· != 0)) (l := l.take 254)
  have h3 := List.all_eq_true.1 this x hx
  simpa using h3
/-- how a text is cut -/
theorem pcs_view (l : List UInt8) : (nz l ∧ l.length ≤ 254 ∧ pcs l = [l]) ∨ (∃ p r, nz p ∧ p.length ≤ 253 ∧ l = p ++ 0 :: r ∧ pcs l = p :: pcs r) ∨ (∃ p r, nz p ∧ p.length = 254 ∧ r ≠ [] ∧ l = p ++ r ∧ pcs l = p :: pcs r) := by
  have hb := blkN_le l
  have hn := nz_take l
  by_cases h : blkN l < l.length
  · by_cases h4 : blkN l < 254
    · right; left
      have hz : l[blkN l] = 0 := by
        rcases Decidable.em (l[blkN l] = 0) with e | e
        · exact e
        · exact absurd ((blk_at (Nat.le_refl _) h4 h).1 e) (Nat.lt_irrefl _)
      refine ⟨l.take (blkN l), l.drop (blkN l + 1), hn, by rw [List.length_take]; omega, ?_, ?_⟩
      · rw [← hz, ← List.drop_eq_getElem_cons h, List.take_append_drop]
      · rw [pcs_more h, stepN, if_pos h4]
    · right; right
      refine ⟨l.take (blkN l), l.drop (blkN l), hn, by rw [List.length_take]; omega, ?_, (List.take_append_drop _ _).symm, ?_⟩
      · intro e
        have : (l.drop (blkN l)).length = 0 := by rw [e]; rfl
        rw [List.length_drop] at this; omega
      · rw [pcs_more h, stepN, if_neg h4]
  · left
    have e : l.take (blkN l) = l := List.take_of_length_le (by omega)
    exact ⟨e ▸ hn, by omega, pcs_last (by omega)⟩
theorem pcs_nz {l : List UInt8} (h : nz l) (hl : l.length ≤ 254) : pcs l = [l] := by
  have := blkN_eq (r := []) h hl (.inr (.inl rfl))
  rw [List.append_nil] at this
  exact pcs_last (by omega)
theorem pcs_zero {p : List UInt8} (r : List UInt8) (h : nz p) (hp : p.length ≤ 253) : pcs (p ++ 0 :: r) = p :: pcs r := by
  have hb := blkN_eq (r := 0 :: r) h (by omega) (.inr (.inr ⟨r, rfl⟩))
  rw [pcs_more (by rw [hb]; simp), stepN, hb, if_pos (by omega), List.take_left]
  congr 2
  rw [show p ++ 0 :: r = (p ++ [0]) ++ r by simp]
  exact List.drop_left' (by simp)
theorem pcs_full {p r : List UInt8} (h : nz p) (hp : p.length = 254) (hr : r ≠ []) : pcs (p ++ r) = p :: pcs r := by
  have hb := blkN_eq (r := r) h (by omega) (.inl hp)
  have hl : 0 < r.length := List.length_pos_iff.2 hr
  rw [pcs_more (by rw [hb, List.length_append]; omega), stepN, hb, if_neg (by omega), List.take_left, List.drop_left]
theorem pcs_join {a : List UInt8} (b : List UInt8) (ha : a.length ≤ 253) : pcs (a ++ 0 :: b) = pcs a ++ pcs b := by
  induction hn : a.length using Nat.strongRecOn generalizing a with
  | _ n ih =>
    rcases pcs_view a with ⟨h1, h2, h3⟩ | ⟨p, r, h1, h2, h3, h4⟩ | ⟨p, r, h1, h2, h3, h4, h5⟩
    · rw [h3, pcs_zero b h1 ha]; rfl
    · have hl : a.length = p.length + (r.length + 1) := by rw [h3]; simp
      rw [h4, h3, List.append_assoc, List.cons_append, pcs_zero _ h1 h2, ih r.length (by omega) (by omega) rfl]; rfl
    · have hl : a.length = p.length + r.length := by rw [h4]; simp
      omega
theorem cob_join {a : List UInt8} (b : List UInt8) (ha : a.length ≤ 253) : cob (a ++ 0 :: b) = cob a ++ cob b := by
  rw [cob, pcs_join b ha, List.flatMap_append]; rfl
end Go.Proofs.YtcegpcggdcgjbaaGreatDoor
/- LessPut of the program. -/
namespace Go.Proofs.YtcegpcggdcgjbaaGreatDoor
open Go.ChangeShapes Go.WideShapes Go.ChangeAt Go.RowKit
/-- blocks, the last of which begins behind la bytes, a byte less, where that can be -/
def lessW (out : List UInt8) (la : Nat) : List UInt8 := if la < out.length - 1 ∧ (out.getD la 0).toNat ≤ (out.getD (out.length - 1) 0).toNat then (out.set la (out.getD (out.length - 1) 0)).take (out.length - 1) else out
def laL (l : List UInt8) : Nat := ((pcs l).dropLast.flatMap putB).length
def less (l : List UInt8) : List UInt8 := lessW (cob l) (laL l)
def lessA (l : List UInt8) : List UInt8 := if l.length ≤ 600 then less l else []
theorem OB.take {e : TypeId} {w : World} {base g n cap : Nat} {l : List UInt8} (h : OB e w base (.slice (some ⟨g, 0, none⟩) n cap) l) (k : Nat) (hk : k ≤ l.length) : OB e w base (.slice (some ⟨g, 0, none⟩) k cap) (l.take k) := by
  rcases h with ⟨hv, _⟩ | ⟨g', cap', cur, fz, hv, hb, hg, hfz, h1, h2, h3, h4⟩
  · simp at hv
  · have e1 : g = g' := by injection hv with h; injection h with h; injection h
    have e2 : cap = cap' := by injection hv
    subst e1 e2
    have hkl : (l.take k).length = k := by rw [List.length_take]; omega
    refine .inr ⟨g, cap, cur, fz, by rw [hkl], hb, hg, hfz, by omega, h2, h3, ?_⟩
    rw [hkl, List.map_take, ← h4, List.take_take, Nat.min_eq_left hk]
theorem laP_laL {l : List UInt8} {pre : List Pc} (h : pre.map (·.1) = pcs l) : laP pre = laL l := by
  rw [laP, wrP, List.map_dropLast, h, laL]
theorem pcs_ne (l : List UInt8) : pcs l ≠ [] := by rw [pcs]; simp
theorem cob_la (l : List UInt8) : ∃ a q, q.length ≤ 254 ∧ cob l = a ++ putB q ∧ laL l = a.length ∧ pcs l = (pcs l).dropLast ++ [q] := by
  have h := List.dropLast_concat_getLast (pcs_ne l)
  refine ⟨(pcs l).dropLast.flatMap putB, (pcs l).getLast (pcs_ne l), pcs_mem (List.getLast_mem _), ?_, rfl, h.symm⟩
  show (pcs l).flatMap putB = _
  have e := congrArg (List.flatMap putB) h
  rw [List.flatMap_append] at e
  rw [← e]; simp
theorem laL_lt (l : List UInt8) : laL l < (cob l).length := by
  obtain ⟨a, q, _, h1, h2, _⟩ := cob_la l
  rw [h1, h2, List.length_append, putB_len]; omega
theorem getD_at {l : List UInt8} {k : Nat} (h : k < l.length) : l.getD k 0 = l[k] := by simp [List.getD, h]
set_option maxRecDepth 100000 in
set_option maxHeartbeats 4000000 in
theorem implLess_any (s : ByteArray) (w : World) :
    Calls Tryz.prog 50 #[.string s] w fun e w' => e = .returned (.string ⟨(lessA s.data.toList).toArray⟩) ∧ Below w.heap.size w w' := by
  have HSL := Lib.hid (size_list s)
  by_cases h6 : s.size ≤ 600
  · have HV := Lib.hid (show lessA s.data.toList = less s.data.toList by rw [lessA, HSL.out, if_pos h6])
    have hlt := laL_lt s.data.toList
    have hcl := cob_len s.data.toList
    rw [HSL.out] at hcl
    go_enter Tryz.func50, Tryz.ntmps50
    go_wp2_with fail
    refine (writeBlocks_any s w h6).mono ?_
    rintro e w1 ⟨v, pre, hpre, rfl, hrow, hb⟩
    have HLess := Lib.hid (show less s.data.toList = lessW (wrP pre) (laP pre) by rw [less, wrP_cob hpre, laP_laL hpre])
    rw [← wrP_cob hpre, ← laP_laL hpre] at hlt
    rw [← wrP_cob hpre] at hcl
    have hob := ownsRow_ob hrow
    have HB := Lib.hid hb
    clear hrow hb hpre
    generalize wrP pre = O at *
    generalize laP pre = la at *
    obtain ⟨g, cap, rfl, hcap, hcapm, hbg, hgl⟩ := hob.pos (by omega)
    obtain ⟨en, hen⟩ : ∃ en, O.length = en + 1 := ⟨O.length - 1, by omega⟩
    have hx := hob.cellAt (k := en) (by omega)
    have hy := hob.cellAt (k := la) (by omega)
    have hf := hob.frozenAt (k := la) (by omega)
    have HO := Lib.hid hob
    have HEn := Lib.hid hen
    rw [hen] at hlt hcl hcap ⊢
    have HW := Lib.hid (show lessW O la = if la < en ∧ O[la].toNat ≤ O[en].toNat then (O.set la O[en]).take en else O by
      have e : O.length - 1 = en := by omega
      rw [lessW, e, getD_at (by omega), getD_at (by omega)])
    have hix : O[en].toNat < 256 := O[en].toNat_lt
    generalize O[en] = X at *
    generalize O[la] = Y at *
    unfold byteV at hx hy
    clear hob hen
    by_cases h1 : la < en
    · by_cases h2 : Y.toNat ≤ X.toNat
      · have HOS := Lib.hid ((HO.out.stored la X).take en (by rw [List.length_set, HEn.out]; omega))
        have HRes := Lib.hid (show lessW O la = (O.set la X).take en by rw [HW.out, if_pos ⟨h1, h2⟩])
        have h2i : ((Y.toNat : Int) ≤ (X.toNat : Int)) := by omega
        go_wp2_with fail
        go_region
        go_wp2_with (refine wpList_string_of_OB _ rfl 22 9 5 _ rfl w.heap.size _ _ rfl Tryz.underlying22 Tryz.underlying5 Tryz.underlying9 (show OB _ _ _ _ _ from HOS.out.drew) ?_)
        go_ret
        exact ⟨by rw [HV.out, HLess.out, HRes.out]; rfl, (HB.out.setCell (p := ⟨g, la, none⟩) hbg _).drew⟩
      · have HRes := Lib.hid (show lessW O la = O by rw [HW.out, if_neg (by omega)])
        have h2i : ¬ ((Y.toNat : Int) ≤ (X.toNat : Int)) := by omega
        go_wp2_with fail
        go_region
        go_wp2_with (refine wpList_string_of_OB _ rfl 22 9 5 _ rfl w.heap.size _ _ rfl Tryz.underlying22 Tryz.underlying5 Tryz.underlying9 (show OB _ _ _ _ _ from (HEn.out ▸ HO.out).drew) ?_)
        go_ret
        exact ⟨by rw [HV.out, HLess.out, HRes.out]; rfl, HB.out.drew⟩
    · have HRes := Lib.hid (show lessW O la = O by rw [HW.out, if_neg (by omega)])
      go_wp2_with fail
      go_region
      go_wp2_with (refine wpList_string_of_OB _ rfl 22 9 5 _ rfl w.heap.size _ _ rfl Tryz.underlying22 Tryz.underlying5 Tryz.underlying9 (show OB _ _ _ _ _ from (HEn.out ▸ HO.out).drew) ?_)
      go_ret
      exact ⟨by rw [HV.out, HLess.out, HRes.out]; rfl, HB.out.drew⟩
  · have HV := Lib.hid (show lessA s.data.toList = [] by rw [lessA, HSL.out, if_neg h6])
    go_enter Tryz.func50, Tryz.ntmps50
    go_wp2
    go_ret
    exact ⟨by rw [HV.out]; rfl, Below.refl _ _⟩
end Go.Proofs.YtcegpcggdcgjbaaGreatDoor
/- LessPut of the model. -/
namespace Go.Proofs.YtcegpcggdcgjbaaGreatDoor
open Go.ChangeShapes Go.WideShapes Go.ChangeAt Go.RowKit
def posB (B : List (List UInt8)) (k : Nat) : Nat := ((B.take k).flatMap putB).length
theorem posB_succ {B : List (List UInt8)} {k : Nat} (h : k < B.length) : posB B (k + 1) = posB B k + (B[k].length + 1) := by
  rw [posB, ← List.take_append_getElem h, List.flatMap_append, List.length_append, posB]
  simp [putB_len]
theorem posB_all (B : List (List UInt8)) : posB B B.length = (B.flatMap putB).length := by rw [posB, List.take_length]
theorem posB_mono {B : List (List UInt8)} {k m : Nat} (h : k < m) (hm : m ≤ B.length) : posB B k < posB B m := by
  induction m with
  | zero => omega
  | succ m ih =>
    have h1 := posB_succ (B := B) (k := m) (by omega)
    rcases Nat.lt_or_ge k m with h2 | h2
    · have := ih h2 (by omega); omega
    · have : k = m := by omega
      subst this; omega
theorem posB_at {B : List (List UInt8)} {k : Nat} (h : k < B.length) : (B.flatMap putB)[posB B k]? = some (UInt8.ofNat (B[k].length + 1)) := by
  have e : B = B.take k ++ B[k] :: B.drop (k + 1) := by rw [← List.drop_eq_getElem_cons h, List.take_append_drop]
  have e2 : B.flatMap putB = (B.take k).flatMap putB ++ (putB B[k] ++ (B.drop (k + 1)).flatMap putB) := by
    conv => lhs; rw [e, List.flatMap_append, List.flatMap_cons]
  rw [e2, List.getElem?_append_right (by rw [posB]; exact Nat.le_refl _)]
  simp [posB, putB]
theorem laL_pos (l : List UInt8) : laL l = posB (pcs l) ((pcs l).length - 1) := by rw [laL, posB, List.dropLast_eq_take]
theorem set_take (l : List UInt8) (i m : Nat) (b : UInt8) (h : i < m) (hm : m ≤ l.length) : (l.set i b).take m = l.take i ++ b :: (l.take m).drop (i + 1) := by
  rw [List.set_eq_take_append_cons_drop, if_pos (by omega)]
  have h1 : (l.take i).length = i := by rw [List.length_take]; omega
  rw [List.take_append, h1, List.take_of_length_le (by omega)]
  obtain ⟨j, hj⟩ : ∃ j, m - i = j + 1 := ⟨m - i - 1, by omega⟩
  rw [hj, List.take_succ_cons, List.drop_take]
  congr 3
  omega
theorem string_bD (b : UInt8) (u : World) : (convert 22 9 (.slice (some ⟨u.heap.size, 0, none⟩) 1 1)).run Tryz.prog (u.alloc (.cells #[.int .u8 (b.toNat : Int)] 5)).drew = .ok (.string ⟨#[b]⟩) (u.alloc (.cells #[.int .u8 (b.toNat : Int)] 5)).drew :=
  run_string_of_OB (P := Tryz.prog) _ 22 9 5 u.heap.size (.slice (some ⟨u.heap.size, 0, none⟩) 1 1) [b] Tryz.underlying22 Tryz.underlying5 Tryz.underlying9
    (OB.drew (.inr ⟨u.heap.size, 1, #[.int .u8 (b.toNat : Int)], (0, 0), rfl, Nat.le_refl _, heap_alloc_new u _, .inl rfl, Nat.le_refl _, by unfold maxLen; omega, rfl, rfl⟩))
theorem slice_mid (s : ByteArray) (i m : Nat) (hi : i ≤ m) (hm : m ≤ s.size) (u : World) : (Instr.slice 9 (.string s) (some (.int .i64 (i : Int))) (some (.int .i64 (m : Int))) none).run Tryz.prog u = .ok (.string (s.extract i m)) u := by
  rw [run_slice_string u 9 s .i64 .i64 (i : Int) (m : Int) Tryz.underlying9 (by omega) (by omega) (by omega)]
  rfl
theorem ext_mid (t : ByteArray) (i m : Nat) : (t.extract i m).data.toList = (t.data.toList.take m).drop i := by
  simp [List.drop_take]
set_option maxRecDepth 100000 in
set_option maxHeartbeats 4000000 in
theorem l6Less_any (l : List UInt8) (t : ByteArray) (w : World) (ht : t.data.toList = cob l) (hl : l.length ≤ 600) :
    Calls Tryz.prog 64 #[.string t] w fun e w' => e = .returned (.string ⟨(less l).toArray⟩) ∧ Below w.heap.size w w' := by
  have HTL := Lib.hid (size_list t)
  have hts : t.size ≤ 1201 := by have := cob_len l; rw [← HTL.out, ht]; omega
  have hpos : ∀ k, k < (pcs l).length → ∃ q : Nat, posB (pcs l) k < t.size ∧ posB (pcs l) (k + 1) = posB (pcs l) k + (q + 1) ∧ q ≤ 254 ∧ ∀ hi : posB (pcs l) k < t.size, (t[posB (pcs l) k].toNat : Int) = (q : Int) + 1 := by
    intro k h
    have h0 := posB_mono h (Nat.le_refl _)
    rw [posB_all] at h0
    have h1 : posB (pcs l) k < t.size := by rw [← HTL.out, ht]; exact h0
    have h2 : (pcs l)[k].length ≤ 254 := pcs_mem (List.getElem_mem h)
    refine ⟨(pcs l)[k].length, h1, posB_succ h, h2, fun hi => ?_⟩
    have h3 := posB_at h
    have h4 : t.data.toList[posB (pcs l) k]? = some t[posB (pcs l) k] := by rw [List.getElem?_eq_getElem (by rw [HTL.out]; exact hi)]; rfl
    rw [ht] at h4
    rw [cob, h3] at h4
    injection h4 with h4
    rw [← h4, UInt8.toNat_ofNat']; omega
  have HPos := Lib.hid hpos
  have HNE := Lib.hid (pcs_ne l)
  have HT := Lib.hid ht
  clear hpos ht
  go_enter Tryz.func64, Tryz.ntmps64
  go_wp2
  go_loopw [3] (fun i wr => ∃ k : Nat, k < (pcs l).length ∧ i = .int .i64 (posB (pcs l) k) ∧ wr = w) (fun i _ => t.size - (intOf i).toNat)
  case atStart => exact ⟨0, List.length_pos_iff.2 HNE.out, by simp [posB], rfl⟩
  case round =>
    obtain ⟨k, hk, rfl, hw⟩ := hrel
    obtain rfl := hw.symm
    obtain ⟨q, p1, p2, p3, p4⟩ := HPos.out k hk
    have p5 := p4 p1
    have HK := Lib.hid hk
    have hP2 : posB (pcs l) (k + 1) ≤ t.size ∧ (k + 1 < (pcs l).length ↔ posB (pcs l) (k + 1) < t.size) := by
      have e : t.size = posB (pcs l) (pcs l).length := by rw [posB_all, ← HTL.out, HT.out]; rfl
      rw [e]
      rcases Nat.lt_or_ge (k + 1) (pcs l).length with h | h
      · have := posB_mono h (Nat.le_refl _)
        exact ⟨by omega, by simp [h, this]⟩
      · have e2 : k + 1 = (pcs l).length := by omega
        rw [e2]; simp
    obtain ⟨P, hP⟩ : ∃ P, P = posB (pcs l) k := ⟨_, rfl⟩
    rw [← hP] at p2
    rw [p2] at hP2
    have HP := Lib.hid hP
    have p1' : P < t.size := by rw [hP]; exact p1
    have p5' : (t[P].toNat : Int) = (q : Int) + 1 := by subst hP; exact p5
    simp only [← hP]
    clear p4 p5 p1
    by_cases hm : P + (q + 1) < t.size
    · have HK1 := Lib.hid (hP2.2.2 hm)
      have HP2 := Lib.hid p2
      clear hP hk p2 hP2
      go_wp2
      go_roundw
      case rel => exact ⟨k + 1, HK1.out, by rw [HP2.out]; go_num, by trivial⟩
      case measure => simp [intOf]; omega
    · have HLa := Lib.hid (show laL l = P by
        have : ¬ k + 1 < (pcs l).length := fun h => hm (hP2.2.1 h)
        have e : (pcs l).length - 1 = k := by omega
        rw [laL_pos, e, hP])
      have hsz : t.size = P + q + 1 := by omega
      have HSZ := Lib.hid hsz
      clear hP hk p2 hP2
      obtain ⟨en, hen⟩ : ∃ en, en = P + q := ⟨_, rfl⟩
      have hte : t.size = en + 1 := by omega
      have hsub : (t.size : Int) - 1 = (en : Int) := by omega
      have hsubw : IntKind.i64.wrap ((t.size : Int) - 1) = (en : Int) := by rw [IntKind.wrap_i64]; omega
      have hel : en < t.size := by omega
      have hxl : t[en].toNat < 256 := t[en].toNat_lt
      obtain ⟨X, hX⟩ : ∃ X, X = t[en] := ⟨_, rfl⟩
      have HWL := Lib.hid (show less l = if P < en ∧ q + 1 ≤ X.toNat then (t.data.toList.set P X).take en else t.data.toList by
        rw [less, HLa.out, ← HT.out, lessW]
        have e1 : t.data.toList.length - 1 = en := by rw [HTL.out]; omega
        have e2 : t.data.toList.getD en 0 = X := by rw [getD_at (by rw [HTL.out]; exact hel), hX]; rfl
        have e3 : (t.data.toList.getD P 0).toNat = q + 1 := by
          rw [getD_at (by rw [HTL.out]; exact p1')]
          have : (t[P].toNat : Int) = (q : Int) + 1 := p5'
          show t[P].toNat = _
          omega
        rw [e1, e2, e3])
      have HX := Lib.hid hX
      have HSZ2 := Lib.hid hte
      have hgap : (t.size : Int) - (P : Int) = (q : Int) + 1 := by omega
      clear hsz hen hte HSZ
      by_cases h1 : 0 < q
      · by_cases h2 : q + 1 ≤ X.toNat
        · have HRes := Lib.hid (show less l = (t.data.toList.set P X).take en by rw [HWL.out, if_pos (by omega)])
          have h2i : (q : Int) + 1 ≤ (t[en].toNat : Int) := by rw [← hX]; omega
          obtain ⟨P1, hP1⟩ : ∃ P1, P1 = P + 1 := ⟨_, rfl⟩
          have hP1i : (P : Int) + 1 = (P1 : Int) := by omega
          have hP1w : IntKind.i64.wrap ((P : Int) + 1) = (P1 : Int) := by rw [IntKind.wrap_i64]; omega
          have s1 := slice_to t P (by omega)
          have s2 : ∀ u : World, (Instr.slice 9 (.string t) (some (.int .i64 (P1 : Int))) (some (.int .i64 (en : Int))) none).run Tryz.prog u = .ok (.string (t.extract P1 en)) u := fun u => slice_mid t P1 en (by omega) (by omega) u
          have hcv := fun u => run_string_one u t[en]
          have hcvd := string_bD t[en]
          have hadd1 : ∀ u : World, (Op.stringOp .add (t.extract 0 P) ⟨#[t[en]]⟩).run Tryz.prog u = .ok (.string (t.extract 0 P ++ ⟨#[t[en]]⟩)) u := fun u => run_string_add_sum u _ _ (by have : (⟨#[t[en]]⟩ : ByteArray).size = 1 := rfl; rw [ByteArray.size_extract]; omega)
          have hadd2 : ∀ u : World, (Op.stringOp .add (t.extract 0 P ++ ⟨#[t[en]]⟩) (t.extract P1 en)).run Tryz.prog u = .ok (.string (t.extract 0 P ++ ⟨#[t[en]]⟩ ++ t.extract P1 en)) u := fun u => run_string_add_sum u _ _ (by have : (⟨#[t[en]]⟩ : ByteArray).size = 1 := rfl; rw [ByteArray.size_append, ByteArray.size_extract, ByteArray.size_extract]; omega)
          have HE := Lib.hid (show (t.extract 0 P ++ ⟨#[t[en]]⟩ ++ t.extract P1 en : ByteArray) = ⟨(less l).toArray⟩ by
            have hq1 : P < en := by omega
            have hq2 : en ≤ t.data.toList.length := by rw [HTL.out]; omega
            rw [HRes.out, set_take t.data.toList P en X hq1 hq2, ← Lib.mk_data (t.extract 0 P ++ ⟨#[t[en]]⟩ ++ t.extract P1 en)]
            congr 2
            rw [ByteArray.data_append, ByteArray.data_append, Array.toList_append, Array.toList_append, ext_mid, ext_mid, hP1, hX]
            simp)
          clear hX hP1
          go_wp2
          go_region
          go_wp2
          go_ret
          refine ⟨?_, ?_⟩
          · rw [← HE.out]; rfl
          · exact ((Below.refl w.heap.size w).alloc (Nat.le_refl _) (.cells #[.int .u8 (t[en].toNat : Int)] 5)).drew
        · have HRes := Lib.hid (show less l = t.data.toList by rw [HWL.out, if_neg (by omega)])
          have h2i : ¬ (q : Int) + 1 ≤ (t[en].toNat : Int) := by rw [← hX]; omega
          clear hX
          go_wp2
          go_ret
          exact ⟨by rw [HRes.out, Lib.mk_data]; rfl, Below.refl _ _⟩
      · have HRes := Lib.hid (show less l = t.data.toList by rw [HWL.out, if_neg (by omega)])
        clear hX
        go_wp2
        go_ret
        exact ⟨by rw [HRes.out, Lib.mk_data]; rfl, Below.refl _ _⟩
end Go.Proofs.YtcegpcggdcgjbaaGreatDoor
