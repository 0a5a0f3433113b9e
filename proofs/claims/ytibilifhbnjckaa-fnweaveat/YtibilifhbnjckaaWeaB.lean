/- Woven texts, in the program and in the model. -/
import Derived.Test.YtibilifhbnjckaaWeaA
namespace Go.Proofs.Ytibilifhbnjckaa
open Go.ChangeShapes Go.WideShapes Go.ChangeAt Go.RowKit
theorem div_of {n k cols : Nat} (h : n = k * cols) (hk : 1 ≤ k) : (n : Int) / (k : Int) = (cols : Int) := by
  subst h; rw [Int.natCast_mul]; exact Int.mul_ediv_cancel_left _ (by omega)
set_option maxRecDepth 100000 in
set_option maxHeartbeats 8000000 in
theorem l13Cross_any (s : ByteArray) (k cols : Nat) (w : World) (hs : s.size = k * cols) (hk : 1 ≤ k) (hk2 : k ≤ 16) (h6 : s.size ≤ 600) (hc2 : cols ≤ 600) :
    Calls Try.prog 25 #[.string s, .int .i64 k] w fun e w' => e = .returned (.string ⟨(crossL 48 k cols s.data.toList).toArray⟩) ∧ Below w.heap.size w w' := by
  obtain ⟨i0, hi, hz0, hz1, hz2⟩ := info_parts info_u8
  have HI := Lib.hid hi
  have HZ0 := Lib.hid hz0
  have HZ1 := Lib.hid hz1
  have HZ2 := Lib.hid hz2
  have HL := Lib.hid hs
  have hdiv := div_of hs hk
  have hz : (k : Int) ≠ 0 := by omega
  have hz3 : ((k : Int) == 0) = false := beq_eq_false_iff_ne.2 (by omega)
  have hm1 : ((k : Int) == -1) = false := beq_eq_false_iff_ne.2 (by omega)
  have HSL := Lib.hid (size_list s)
  have HLE := Lib.hid (show ∀ i, ((crossL 48 k cols s.data.toList).take i).length ≤ 600 by
    intro i; rw [List.length_take, crossL_len, ← hs]; omega)
  clear hi hz0 hz1 hz2 hs
  go_enter Try.func25, Try.ntmps25
  go_wp2
  clear hz hz3 hm1
  go_loopw [5, 7, 8] (fun v i _ wr => ∃ c : Nat, c ≤ cols ∧ i = .int .i64 c ∧ OB 5 wr w.heap.size v ((crossL 48 k cols s.data.toList).take (c * k)) ∧ Below w.heap.size w wr) (fun _ i _ _ => cols - (intOf i).toNat)
  case atStart => exact ⟨0, by omega, rfl, by rw [Nat.zero_mul]; exact .inr ⟨w.heap.size, 0, #[], (0, 0), rfl, Nat.le_refl _, heap_alloc_new w _, .inl rfl, Nat.le_refl _, by simp [maxLen], rfl, rfl⟩, (Below.refl _ _).alloc (Nat.le_refl _) _⟩
  case round =>
    obtain ⟨c, hc, rfl, hown, hb⟩ := hrel
    have HO := Lib.hid hown
    have HB := Lib.hid hb
    clear hown hb
    by_cases hlt : c < cols
    · go_wp2_with fail
      go_loopw [5, 8] (fun v i wr => ∃ r : Nat, r ≤ k ∧ i = .int .i64 r ∧ OB 5 wr w.heap.size v ((crossL 48 k cols s.data.toList).take (c * k + r)) ∧ Below w.heap.size w wr) (fun _ i _ => k - (intOf i).toNat)
      case atStart => exact ⟨0, by omega, rfl, by simpa using HO.out, HB.out⟩
      case round =>
        obtain ⟨r, hr0, rfl, hown, hb⟩ := hrel
        have HO2 := Lib.hid hown
        have HB2 := Lib.hid hb
        clear hown hb
        by_cases hrl : r < k
        · have hq := src_lt k cols c r hrl hlt
          obtain ⟨q, hqq⟩ : ∃ q, r * cols + c = q := ⟨_, rfl⟩
          obtain ⟨m, hmm⟩ : ∃ m, r * cols = m := ⟨_, rfl⟩
          have hqn : q < s.size := by rw [HL.out, ← hqq]; exact hq
          have hql : q < s.data.toList.length := by rw [HSL.out]; exact hqn
          have HS := Lib.hid (show (crossL 48 k cols s.data.toList).take (c * k + r + 1) = (crossL 48 k cols s.data.toList).take (c * k + r) ++ [s[q]] by
            subst hqq
            exact crossL_take 48 k cols c r s.data.toList hrl hlt hql)
          have hmi : (r : Int) * (cols : Int) = (m : Int) := by rw [← hmm, Int.natCast_mul]
          have hm6 : m ≤ 600 := by omega
          have hqi : (m : Int) + (c : Int) = (q : Int) := by omega
          have hqni : (q : Int) < (s.size : Int) := by omega
          have hlen := HLE.out (c * k + r)
          clear hqq hmm hq
          generalize (crossL 48 k cols s.data.toList).take (c * k + r) = D at HO2 HS hlen
          go_wp2_with (at_builtin; refine wpList_append_OB _ rfl _ _ 22 rfl w.heap.size 5 i0 Try.underlying22 HI.out HZ0.out HZ1.out HZ2.out _ D rfl (HO2.out.alloc _) ⟨wr.heap.size, 0, none⟩ 1 1 [s[q]] rfl rfl (one_new wr _ _ _ rfl) (by simp; omega) (by have := HB2.out.size; simp; omega) ?_; intro v2 w2 hown2 hg2)
          go_roundw
          case rel =>
            refine ⟨r + 1, by omega, by go_num, by rw [show c * k + (r + 1) = c * k + r + 1 by omega, HS.out]; exact hown2, ?_⟩
            exact (HB2.out.alloc HB2.out.size _).grown hg2 (by have := HB2.out.size; simp; omega) (fun k hk => (HO2.out.lt k hk).1)
          case measure => simp [intOf]; omega
        · obtain rfl : r = k := by omega
          go_wp2
          go_roundw
          case rel => exact ⟨c + 1, by omega, by go_num, by rw [show (c + 1) * r = c * r + r by rw [Nat.add_mul, Nat.one_mul]]; exact HO2.out, HB2.out⟩
          case measure => simp [intOf]; omega
    · obtain rfl : c = cols := by omega
      have HE := Lib.hid (show (crossL 48 k c s.data.toList).take (c * k) = crossL 48 k c s.data.toList from List.take_of_length_le (by rw [crossL_len, Nat.mul_comm]; exact Nat.le_refl _))
      go_wp2_with (refine wpList_string_of_OB _ rfl 22 9 5 _ rfl w.heap.size _ _ rfl Try.underlying22 Try.underlying5 Try.underlying9 HO.out ?_)
      go_ret
      exact ⟨by rw [HE.out]; rfl, HB.out⟩
set_option maxRecDepth 100000 in
set_option maxHeartbeats 8000000 in
theorem l13Back_any (s : ByteArray) (k cols : Nat) (w : World) (hs : s.size = k * cols) (hk : 1 ≤ k) (hk2 : k ≤ 16) (h6 : s.size ≤ 600) (hc2 : cols ≤ 600) :
    Calls Try.prog 26 #[.string s, .int .i64 k] w fun e w' => e = .returned (.string ⟨(crossL 48 cols k s.data.toList).toArray⟩) ∧ Below w.heap.size w w' := by
  obtain ⟨i0, hi, hz0, hz1, hz2⟩ := info_parts info_u8
  have HI := Lib.hid hi
  have HZ0 := Lib.hid hz0
  have HZ1 := Lib.hid hz1
  have HZ2 := Lib.hid hz2
  have HL := Lib.hid hs
  have hdiv := div_of hs hk
  have hz : (k : Int) ≠ 0 := by omega
  have hz3 : ((k : Int) == 0) = false := beq_eq_false_iff_ne.2 (by omega)
  have hm1 : ((k : Int) == -1) = false := beq_eq_false_iff_ne.2 (by omega)
  have HSL := Lib.hid (size_list s)
  have HLE := Lib.hid (show ∀ i, ((crossL 48 cols k s.data.toList).take i).length ≤ 600 by
    intro i; rw [List.length_take, crossL_len, Nat.mul_comm cols k, ← hs]; omega)
  clear hi hz0 hz1 hz2 hs
  go_enter Try.func26, Try.ntmps26
  go_wp2
  clear hz hz3 hm1
  go_loopw [5, 7, 8] (fun v i _ wr => ∃ c : Nat, c ≤ k ∧ i = .int .i64 c ∧ OB 5 wr w.heap.size v ((crossL 48 cols k s.data.toList).take (c * cols)) ∧ Below w.heap.size w wr) (fun _ i _ _ => k - (intOf i).toNat)
  case atStart => exact ⟨0, by omega, rfl, by rw [Nat.zero_mul]; exact .inr ⟨w.heap.size, 0, #[], (0, 0), rfl, Nat.le_refl _, heap_alloc_new w _, .inl rfl, Nat.le_refl _, by simp [maxLen], rfl, rfl⟩, (Below.refl _ _).alloc (Nat.le_refl _) _⟩
  case round =>
    obtain ⟨c, hc, rfl, hown, hb⟩ := hrel
    have HO := Lib.hid hown
    have HB := Lib.hid hb
    clear hown hb
    by_cases hlt : c < k
    · go_wp2_with fail
      go_loopw [5, 8] (fun v i wr => ∃ r : Nat, r ≤ cols ∧ i = .int .i64 r ∧ OB 5 wr w.heap.size v ((crossL 48 cols k s.data.toList).take (c * cols + r)) ∧ Below w.heap.size w wr) (fun _ i _ => cols - (intOf i).toNat)
      case atStart => exact ⟨0, by omega, rfl, by simpa using HO.out, HB.out⟩
      case round =>
        obtain ⟨r, hr0, rfl, hown, hb⟩ := hrel
        have HO2 := Lib.hid hown
        have HB2 := Lib.hid hb
        clear hown hb
        by_cases hrl : r < cols
        · have hq := src_lt cols k c r hrl hlt
          obtain ⟨q, hqq⟩ : ∃ q, r * k + c = q := ⟨_, rfl⟩
          obtain ⟨m, hmm⟩ : ∃ m, r * k = m := ⟨_, rfl⟩
          have hqn : q < s.size := by rw [HL.out, ← hqq, Nat.mul_comm k cols]; exact hq
          have hql : q < s.data.toList.length := by rw [HSL.out]; exact hqn
          have HS := Lib.hid (show (crossL 48 cols k s.data.toList).take (c * cols + r + 1) = (crossL 48 cols k s.data.toList).take (c * cols + r) ++ [s[q]] by
            subst hqq
            exact crossL_take 48 cols k c r s.data.toList hrl hlt hql)
          have hmi : (r : Int) * (k : Int) = (m : Int) := by rw [← hmm, Int.natCast_mul]
          have hm6 : m ≤ 600 := by omega
          have hqi : (m : Int) + (c : Int) = (q : Int) := by omega
          have hqni : (q : Int) < (s.size : Int) := by omega
          have hlen := HLE.out (c * cols + r)
          clear hqq hmm hq
          generalize (crossL 48 cols k s.data.toList).take (c * cols + r) = D at HO2 HS hlen
          go_wp2_with (at_builtin; refine wpList_append_OB _ rfl _ _ 22 rfl w.heap.size 5 i0 Try.underlying22 HI.out HZ0.out HZ1.out HZ2.out _ D rfl (HO2.out.alloc _) ⟨wr.heap.size, 0, none⟩ 1 1 [s[q]] rfl rfl (one_new wr _ _ _ rfl) (by simp; omega) (by have := HB2.out.size; simp; omega) ?_; intro v2 w2 hown2 hg2)
          go_roundw
          case rel =>
            refine ⟨r + 1, by omega, by go_num, by rw [show c * cols + (r + 1) = c * cols + r + 1 by omega, HS.out]; exact hown2, ?_⟩
            exact (HB2.out.alloc HB2.out.size _).grown hg2 (by have := HB2.out.size; simp; omega) (fun k hk => (HO2.out.lt k hk).1)
          case measure => simp [intOf]; omega
        · obtain rfl : r = cols := by omega
          go_wp2
          go_roundw
          case rel => exact ⟨c + 1, by omega, by go_num, by rw [show (c + 1) * r = c * r + r by rw [Nat.add_mul, Nat.one_mul]]; exact HO2.out, HB2.out⟩
          case measure => simp [intOf]; omega
    · obtain rfl : c = k := by omega
      have HE := Lib.hid (show (crossL 48 cols c s.data.toList).take (c * cols) = crossL 48 cols c s.data.toList from List.take_of_length_le (by rw [crossL_len, Nat.mul_comm]; exact Nat.le_refl _))
      go_wp2_with (refine wpList_string_of_OB _ rfl 22 9 5 _ rfl w.heap.size _ _ rfl Try.underlying22 Try.underlying5 Try.underlying9 HO.out ?_)
      go_ret
      exact ⟨by rw [HE.out]; rfl, HB.out⟩
theorem cols_le {n k cols : Nat} (h : n = k * cols) (hk : 1 ≤ k) (h6 : n ≤ 600) : cols ≤ 600 := by
  have := Nat.mul_le_mul_right cols hk
  omega
set_option maxRecDepth 100000 in
set_option maxHeartbeats 400000 in
theorem implWeavePut_yes (s : ByteArray) (k cols : Nat) (w : World) (hok : wOkB s.size k = true) (hs : s.size = k * cols) (hk : 1 ≤ k) (hk2 : k ≤ 16) (h6 : s.size ≤ 600) :
    Calls Try.prog 10 #[.string s, .int .i64 k] w fun e w' => e = .returned (.tuple #[.string ⟨(crossL 48 k cols s.data.toList).toArray⟩, .bool true]) ∧ Below w.heap.size w w' := by
  have hmax : s.size ≤ maxLen := by unfold maxLen; omega
  have hdiv := div_of hs hk
  have hz : (k : Int) ≠ 0 := by omega
  have hz3 : ((k : Int) == 0) = false := beq_eq_false_iff_ne.2 (by omega)
  have hm1 : ((k : Int) == -1) = false := beq_eq_false_iff_ne.2 (by omega)
  have hcl := cols_le hs hk h6
  have HL := Lib.hid hs
  clear hs
  go_enter Try.func10, Try.ntmps10
  go_wp2_with (first | (go_at_call 22; refine (implWOk_any _ _ _ (by omega) (by omega)).mono ?_; rintro e w' ⟨rfl, rfl⟩; rw [hok]) | (refine wpList_bytes_of_string _ rfl 9 22 5 _ rfl s rfl Try.underlying9 Try.underlying22 Try.underlying5 hmax ?_; intro v1 w1 hown1 hb1; have HO := Lib.hid hown1; have HB := Lib.hid hb1; clear hown1 hb1))
  refine (transB_any _ _ s.data.toList k cols _ HO.out (by rw [size_list, HL.out]) (by rw [size_list]; exact h6) (by omega) (by omega)).mono ?_
  rintro e w2 ⟨v2, rfl, hown2, hb2⟩
  have HO2 := Lib.hid hown2
  have HB2 := Lib.hid (HB.out.trans (hb2.mono HB.out.size))
  clear hown2 hb2
  go_wp2_with (refine wpList_string_of_OB _ rfl 22 9 5 _ rfl w1.heap.size _ _ rfl Try.underlying22 Try.underlying5 Try.underlying9 HO2.out ?_)
  go_ret2
  exact ⟨rfl, HB2.out⟩
theorem implWeavePut_no (s : ByteArray) (rows : Int) (w : World) (hs : s.size ≤ maxLen) (hok : wOkB s.size rows = false) :
    Calls Try.prog 10 #[.string s, .int .i64 rows] w fun e w' => e = .returned (.tuple #[.string ⟨#[]⟩, .bool false]) ∧ w = w' := by
  unfold maxLen at hs
  go_enter Try.func10, Try.ntmps10
  go_wp2_with (go_at_call 22; refine (implWOk_any _ _ _ (by omega) (by omega)).mono ?_; rintro e w' ⟨rfl, rfl⟩; rw [hok])
  go_ret2
  exact ⟨rfl, rfl⟩
theorem specWeavePut_yes (s : ByteArray) (k cols : Nat) (w : World) (hok : wOkB s.size k = true) (hs : s.size = k * cols) (hk : 1 ≤ k) (hk2 : k ≤ 16) (h6 : s.size ≤ 600) :
    Calls Try.prog 11 #[.string s, .int .i64 k] w fun e w' => e = .returned (.tuple #[.string ⟨(crossL 48 k cols s.data.toList).toArray⟩, .bool true]) ∧ Below w.heap.size w w' := by
  have hmax : s.size ≤ maxLen := by unfold maxLen; omega
  have hcl := Lib.hid (cols_le hs hk h6)
  have HL := Lib.hid hs
  clear hs
  go_enter Try.func11, Try.ntmps11
  go_wp2_with (go_at_call 24; refine (specWOk_any _ _ _ hmax).mono ?_; rintro e w' ⟨rfl, rfl⟩; rw [hok])
  refine (l13Cross_any s k cols _ HL.out hk hk2 h6 hcl.out).mono ?_
  rintro e w2 ⟨rfl, hb2⟩
  have HB2 := Lib.hid hb2
  clear hb2
  go_wp2
  go_ret2
  exact ⟨rfl, HB2.out⟩
theorem specWeavePut_no (s : ByteArray) (rows : Int) (w : World) (hs : s.size ≤ maxLen) (hok : wOkB s.size rows = false) :
    Calls Try.prog 11 #[.string s, .int .i64 rows] w fun e w' => e = .returned (.tuple #[.string ⟨#[]⟩, .bool false]) ∧ w = w' := by
  go_enter Try.func11, Try.ntmps11
  go_wp2_with (go_at_call 24; refine (specWOk_any _ _ _ hs).mono ?_; rintro e w' ⟨rfl, rfl⟩; rw [hok])
  go_ret2
  exact ⟨rfl, rfl⟩
/-- of any text -/
def putWB (s : ByteArray) (rows : Int) : ByteArray := if wOkB s.size rows then (if 0 < rows then ⟨(crossL 48 rows.toNat (s.size / rows.toNat) s.data.toList).toArray⟩ else ⟨#[]⟩) else ⟨#[]⟩
theorem putWB_yes {s : ByteArray} {k cols : Nat} (hok : wOkB s.size k = true) (hs : s.size = k * cols) (hk : 1 ≤ k) : putWB s k = ⟨(crossL 48 k cols s.data.toList).toArray⟩ := by
  unfold putWB
  have h : s.size / k = cols := by rw [hs]; exact Nat.mul_div_cancel_left _ hk
  rw [if_pos hok, if_pos (by omega), Int.toNat_natCast, h]
theorem putWB_no {s : ByteArray} {rows : Int} (hok : wOkB s.size rows = false) : putWB s rows = ⟨#[]⟩ := by
  unfold putWB
  rw [if_neg (by rw [hok]; decide)]
theorem putWB_size (s : ByteArray) (rows : Int) : (putWB s rows).size ≤ s.size := by
  cases hok : wOkB s.size rows with
  | false => rw [putWB_no hok]; exact Nat.zero_le _
  | true =>
    obtain ⟨_, k, cols, rfl, hk, _, hs, _⟩ := wOk_parts hok
    rw [putWB_yes hok hs hk]
    show (crossL 48 k cols s.data.toList).toArray.size ≤ _
    rw [List.size_toArray, crossL_len, ← hs]; exact Nat.le_refl _
theorem implWeavePut_any (s : ByteArray) (rows : Int) (w : World) (hs : s.size ≤ maxLen) :
    Calls Try.prog 10 #[.string s, .int .i64 rows] w fun e w' => e = .returned (.tuple #[.string (putWB s rows), .bool (wOkB s.size rows)]) ∧ Below w.heap.size w w' := by
  cases hok : wOkB s.size rows with
  | false =>
    refine (implWeavePut_no s rows w hs hok).mono ?_
    rintro e w' ⟨rfl, rfl⟩
    exact ⟨by rw [putWB_no hok], Below.refl _ _⟩
  | true =>
    obtain ⟨h6, k, cols, rfl, hk, hk2, h, _⟩ := wOk_parts hok
    refine (implWeavePut_yes s k cols w hok h hk hk2 h6).mono ?_
    rintro e w' ⟨rfl, hb⟩
    exact ⟨by rw [putWB_yes hok h hk], hb⟩
theorem specWeavePut_any (s : ByteArray) (rows : Int) (w : World) (hs : s.size ≤ maxLen) :
    Calls Try.prog 11 #[.string s, .int .i64 rows] w fun e w' => e = .returned (.tuple #[.string (putWB s rows), .bool (wOkB s.size rows)]) ∧ Below w.heap.size w w' := by
  cases hok : wOkB s.size rows with
  | false =>
    refine (specWeavePut_no s rows w hs hok).mono ?_
    rintro e w' ⟨rfl, rfl⟩
    exact ⟨by rw [putWB_no hok], Below.refl _ _⟩
  | true =>
    obtain ⟨h6, k, cols, rfl, hk, hk2, h, _⟩ := wOk_parts hok
    refine (specWeavePut_yes s k cols w hok h hk hk2 h6).mono ?_
    rintro e w' ⟨rfl, hb⟩
    exact ⟨by rw [putWB_yes hok h hk], hb⟩
set_option maxRecDepth 100000 in
set_option maxHeartbeats 400000 in
theorem implWeaveGet_yes (s : ByteArray) (k cols : Nat) (w : World) (hok : wOkB s.size k = true) (hs : s.size = k * cols) (hk : 1 ≤ k) (hk2 : k ≤ 16) (h6 : s.size ≤ 600) :
    Calls Try.prog 12 #[.string s, .int .i64 k] w fun e w' => e = .returned (.tuple #[.string ⟨(crossL 48 cols k s.data.toList).toArray⟩, .bool true]) ∧ Below w.heap.size w w' := by
  have hmax : s.size ≤ maxLen := by unfold maxLen; omega
  have hdiv := div_of hs hk
  have hz : (k : Int) ≠ 0 := by omega
  have hz3 : ((k : Int) == 0) = false := beq_eq_false_iff_ne.2 (by omega)
  have hm1 : ((k : Int) == -1) = false := beq_eq_false_iff_ne.2 (by omega)
  have hcl := cols_le hs hk h6
  have HL := Lib.hid hs
  clear hs
  go_enter Try.func12, Try.ntmps12
  go_wp2_with (first | (go_at_call 22; refine (implWOk_any _ _ _ (by omega) (by omega)).mono ?_; rintro e w' ⟨rfl, rfl⟩; rw [hok]) | (refine wpList_bytes_of_string _ rfl 9 22 5 _ rfl s rfl Try.underlying9 Try.underlying22 Try.underlying5 hmax ?_; intro v1 w1 hown1 hb1; have HO := Lib.hid hown1; have HB := Lib.hid hb1; clear hown1 hb1))
  refine (transB_any _ _ s.data.toList cols k _ HO.out (by rw [size_list, HL.out, Nat.mul_comm]) (by rw [size_list]; exact h6) (by omega) (by omega)).mono ?_
  rintro e w2 ⟨v2, rfl, hown2, hb2⟩
  have HO2 := Lib.hid hown2
  have HB2 := Lib.hid (HB.out.trans (hb2.mono HB.out.size))
  clear hown2 hb2
  go_wp2_with (refine wpList_string_of_OB _ rfl 22 9 5 _ rfl w1.heap.size _ _ rfl Try.underlying22 Try.underlying5 Try.underlying9 HO2.out ?_)
  go_ret2
  exact ⟨rfl, HB2.out⟩
theorem implWeaveGet_no (s : ByteArray) (rows : Int) (w : World) (hs : s.size ≤ maxLen) (hok : wOkB s.size rows = false) :
    Calls Try.prog 12 #[.string s, .int .i64 rows] w fun e w' => e = .returned (.tuple #[.string ⟨#[]⟩, .bool false]) ∧ w = w' := by
  unfold maxLen at hs
  go_enter Try.func12, Try.ntmps12
  go_wp2_with (go_at_call 22; refine (implWOk_any _ _ _ (by omega) (by omega)).mono ?_; rintro e w' ⟨rfl, rfl⟩; rw [hok])
  go_ret2
  exact ⟨rfl, rfl⟩
theorem specWeaveGet_yes (s : ByteArray) (k cols : Nat) (w : World) (hok : wOkB s.size k = true) (hs : s.size = k * cols) (hk : 1 ≤ k) (hk2 : k ≤ 16) (h6 : s.size ≤ 600) :
    Calls Try.prog 14 #[.string s, .int .i64 k] w fun e w' => e = .returned (.tuple #[.string ⟨(crossL 48 cols k s.data.toList).toArray⟩, .bool true]) ∧ Below w.heap.size w w' := by
  have hmax : s.size ≤ maxLen := by unfold maxLen; omega
  have hcl := Lib.hid (cols_le hs hk h6)
  have HL := Lib.hid hs
  clear hs
  go_enter Try.func14, Try.ntmps14
  go_wp2_with (go_at_call 24; refine (specWOk_any _ _ _ hmax).mono ?_; rintro e w' ⟨rfl, rfl⟩; rw [hok])
  refine (l13Back_any s k cols _ HL.out hk hk2 h6 hcl.out).mono ?_
  rintro e w2 ⟨rfl, hb2⟩
  have HB2 := Lib.hid hb2
  clear hb2
  go_wp2
  go_ret2
  exact ⟨rfl, HB2.out⟩
theorem specWeaveGet_no (s : ByteArray) (rows : Int) (w : World) (hs : s.size ≤ maxLen) (hok : wOkB s.size rows = false) :
    Calls Try.prog 14 #[.string s, .int .i64 rows] w fun e w' => e = .returned (.tuple #[.string ⟨#[]⟩, .bool false]) ∧ w = w' := by
  go_enter Try.func14, Try.ntmps14
  go_wp2_with (go_at_call 24; refine (specWOk_any _ _ _ hs).mono ?_; rintro e w' ⟨rfl, rfl⟩; rw [hok])
  go_ret2
  exact ⟨rfl, rfl⟩
/-- of any text -/
def getWB (s : ByteArray) (rows : Int) : ByteArray := if wOkB s.size rows then (if 0 < rows then ⟨(crossL 48 (s.size / rows.toNat) rows.toNat s.data.toList).toArray⟩ else ⟨#[]⟩) else ⟨#[]⟩
theorem getWB_yes {s : ByteArray} {k cols : Nat} (hok : wOkB s.size k = true) (hs : s.size = k * cols) (hk : 1 ≤ k) : getWB s k = ⟨(crossL 48 cols k s.data.toList).toArray⟩ := by
  unfold getWB
  have h : s.size / k = cols := by rw [hs]; exact Nat.mul_div_cancel_left _ hk
  rw [if_pos hok, if_pos (by omega), Int.toNat_natCast, h]
theorem getWB_no {s : ByteArray} {rows : Int} (hok : wOkB s.size rows = false) : getWB s rows = ⟨#[]⟩ := by
  unfold getWB
  rw [if_neg (by rw [hok]; decide)]
theorem getWB_size (s : ByteArray) (rows : Int) : (getWB s rows).size ≤ s.size := by
  cases hok : wOkB s.size rows with
  | false => rw [getWB_no hok]; exact Nat.zero_le _
  | true =>
    obtain ⟨_, k, cols, rfl, hk, _, hs, _⟩ := wOk_parts hok
    rw [getWB_yes hok hs hk]
    show (crossL 48 cols k s.data.toList).toArray.size ≤ _
    rw [List.size_toArray, crossL_len, Nat.mul_comm, ← hs]; exact Nat.le_refl _
theorem implWeaveGet_any (s : ByteArray) (rows : Int) (w : World) (hs : s.size ≤ maxLen) :
    Calls Try.prog 12 #[.string s, .int .i64 rows] w fun e w' => e = .returned (.tuple #[.string (getWB s rows), .bool (wOkB s.size rows)]) ∧ Below w.heap.size w w' := by
  cases hok : wOkB s.size rows with
  | false =>
    refine (implWeaveGet_no s rows w hs hok).mono ?_
    rintro e w' ⟨rfl, rfl⟩
    exact ⟨by rw [getWB_no hok], Below.refl _ _⟩
  | true =>
    obtain ⟨h6, k, cols, rfl, hk, hk2, h, _⟩ := wOk_parts hok
    refine (implWeaveGet_yes s k cols w hok h hk hk2 h6).mono ?_
    rintro e w' ⟨rfl, hb⟩
    exact ⟨by rw [getWB_yes hok h hk], hb⟩
theorem specWeaveGet_any (s : ByteArray) (rows : Int) (w : World) (hs : s.size ≤ maxLen) :
    Calls Try.prog 14 #[.string s, .int .i64 rows] w fun e w' => e = .returned (.tuple #[.string (getWB s rows), .bool (wOkB s.size rows)]) ∧ Below w.heap.size w w' := by
  cases hok : wOkB s.size rows with
  | false =>
    refine (specWeaveGet_no s rows w hs hok).mono ?_
    rintro e w' ⟨rfl, rfl⟩
    exact ⟨by rw [getWB_no hok], Below.refl _ _⟩
  | true =>
    obtain ⟨h6, k, cols, rfl, hk, hk2, h, _⟩ := wOk_parts hok
    refine (specWeaveGet_yes s k cols w hok h hk hk2 h6).mono ?_
    rintro e w' ⟨rfl, hb⟩
    exact ⟨by rw [getWB_yes hok h hk], hb⟩
end Go.Proofs.Ytibilifhbnjckaa
