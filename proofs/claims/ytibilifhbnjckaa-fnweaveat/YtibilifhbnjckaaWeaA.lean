/- A matrix turned, in the program and in the model: bytes. -/
import Derived.Test.YtibilifhbnjckaaWeaP
import Derived.Test.YtibilifhbnjckaaApb
import Derived.Test.YtibilifhbnjckaaKitBits
import Derived.Laws.MakeOwn
namespace Go.Proofs.Ytibilifhbnjckaa
open Go.ChangeShapes Go.WideShapes Go.ChangeAt Go.RowKit
theorem step_take (s : ByteArray) (k : Nat) (h : k < s.size) : s.data.toList.take (k + 1) = s.data.toList.take k ++ [s[k]] := by
  rw [List.take_succ_eq_append_getElem (by simpa using h)]; rfl
theorem bsz (s : ByteArray) : s.data.toList.length = s.size := by simp
/-- one more: row r of column c -/
theorem crossL_take {α : Type} (d : α) (rows cols c r : Nat) (l : List α) (hr : r < rows) (hc : c < cols) (hq : r * cols + c < l.length) :
    (crossL d rows cols l).take (c * rows + r + 1) = (crossL d rows cols l).take (c * rows + r) ++ [l[r * cols + c]] := by
  have hi : c * rows + r < rows * cols := by
    have h1 : (c + 1) * rows ≤ cols * rows := Nat.mul_le_mul_right _ hc
    rw [Nat.add_mul, Nat.one_mul, Nat.mul_comm cols rows] at h1
    omega
  rw [List.take_succ_eq_append_getElem (by rw [crossL_len]; exact hi)]
  congr 2
  have h1 : (c * rows + r) % rows = r := by rw [Nat.mul_comm, Nat.mul_add_mod, Nat.mod_eq_of_lt hr]
  have h2 : (c * rows + r) / rows = c := by rw [Nat.mul_comm, Nat.mul_add_div (by omega), Nat.div_eq_of_lt hr, Nat.add_zero]
  simp only [crossL, List.getElem_map, List.getElem_range, h1, h2]
  rw [List.getD_eq_getElem?_getD, List.getElem?_eq_getElem hq]; rfl
theorem src_lt (rows cols c r : Nat) (hr : r < rows) (hc : c < cols) : r * cols + c < rows * cols := by
  have h1 : (r + 1) * cols ≤ rows * cols := Nat.mul_le_mul_right _ hr
  rw [Nat.add_mul, Nat.one_mul] at h1
  omega
theorem at_le (rows cols c r : Nat) (hr : r ≤ rows) (hc : c < cols) : c * rows + r ≤ rows * cols := by
  have h1 : (c + 1) * rows ≤ cols * rows := Nat.mul_le_mul_right _ hc
  rw [Nat.add_mul, Nat.one_mul, Nat.mul_comm cols rows] at h1
  omega
def wOkB (n rows : Int) : Bool := decide (n ≤ 600) && decide (1 ≤ rows) && decide (rows ≤ 16) && (n.tmod rows == 0)
theorem implWOk_any (n rows : Int) (w : World) (h0 : -9223372036854775808 ≤ n) (h1 : n ≤ 9223372036854775807) :
    Calls Try.prog 22 #[.int .i64 n, .int .i64 rows] w fun e w' => e = .returned (.bool (wOkB n rows)) ∧ w = w' := by
  by_cases a : n ≤ 600
  · by_cases b : 1 ≤ rows
    · by_cases c : rows ≤ 16
      · have HV := Lib.hid (show wOkB n rows = (n.tmod rows == 0) by unfold wOkB; rw [decide_eq_true a, decide_eq_true b, decide_eq_true c]; rfl)
        have hz : (rows == 0) = false := beq_eq_false_iff_ne.2 (by omega)
        have hz2 : rows ≠ 0 := by omega
        have hm1 : (rows == -1) = false := beq_eq_false_iff_ne.2 (by omega)
        by_cases hn : 0 ≤ n
        · have HT := Lib.hid (show n.tmod rows = n % rows from Int.tmod_eq_emod_of_nonneg hn)
          go_enter Try.func22, Try.ntmps22
          go_wp2
          go_ret
          exact ⟨by rw [HV.out, HT.out]; rfl, rfl⟩
        · go_enter Try.func22, Try.ntmps22
          go_wp2
          go_ret
          refine ⟨?_, rfl⟩
          rw [HV.out]
          rfl
      · have HV := Lib.hid (show wOkB n rows = false by unfold wOkB; rw [decide_eq_false c, Bool.and_false]; rfl)
        go_enter Try.func22, Try.ntmps22
        go_wp2
        go_ret
        exact ⟨by rw [HV.out]; rfl, rfl⟩
    · have HV := Lib.hid (show wOkB n rows = false by unfold wOkB; rw [decide_eq_false b, Bool.and_false]; rfl)
      go_enter Try.func22, Try.ntmps22
      go_wp2
      go_ret
      exact ⟨by rw [HV.out]; rfl, rfl⟩
  · have HV := Lib.hid (show wOkB n rows = false by unfold wOkB; rw [decide_eq_false a]; rfl)
    go_enter Try.func22, Try.ntmps22
    go_wp2
    go_ret
    exact ⟨by rw [HV.out]; rfl, rfl⟩
theorem wl1In_any (x a b : Int) (w : World) :
    Calls Try.prog 29 #[.int .i64 x, .int .i64 a, .int .i64 b] w fun e w' => e = .returned (.bool (decide (a ≤ x) && decide (x ≤ b))) ∧ w = w' := by
  by_cases h1 : a ≤ x
  · go_enter Try.func29, Try.ntmps29
    go_wp2
    go_ret
    exact ⟨by rw [decide_eq_true h1]; rfl, rfl⟩
  · go_enter Try.func29, Try.ntmps29
    go_wp2
    go_ret
    exact ⟨by rw [decide_eq_false (show ¬ a ≤ x by omega)]; rfl, rfl⟩
theorem specWOk_any (s : ByteArray) (rows : Int) (w : World) (hs : s.size ≤ maxLen) :
    Calls Try.prog 24 #[.string s, .int .i64 rows] w fun e w' => e = .returned (.bool (wOkB s.size rows)) ∧ w = w' := by
  unfold maxLen at hs
  have HT := Lib.hid (show (s.size : Int).tmod rows = (s.size : Int) % rows from Int.tmod_eq_emod_of_nonneg (by omega))
  by_cases hb : (decide (1 ≤ rows) && decide (rows ≤ 16)) = true
  · have hb2 := hb
    rw [Bool.and_eq_true, decide_eq_true_iff, decide_eq_true_iff] at hb2
    obtain ⟨b1, b2⟩ := hb2
    have HB := Lib.hid hb
    have hz : (rows == 0) = false := beq_eq_false_iff_ne.2 (by omega)
    have hz2 : rows ≠ 0 := by omega
    have hm1 : (rows == -1) = false := beq_eq_false_iff_ne.2 (by omega)
    have HV := Lib.hid (show wOkB s.size rows = (decide ((s.size : Int) ≤ 600) && ((s.size : Int).tmod rows == 0)) by unfold wOkB; rw [decide_eq_true b1, decide_eq_true b2, Bool.and_true, Bool.and_true])
    clear hb
    by_cases a : (s.size : Int) ≤ 600
    · have ha : decide ((s.size : Int) ≤ 600) = true := decide_eq_true a
      go_enter Try.func24, Try.ntmps24
      go_wp2_with (go_at_call 29; refine (wl1In_any _ _ _ _).mono ?_; rintro e w' ⟨rfl, rfl⟩; rw [HB.out])
      go_ret
      exact ⟨by rw [HV.out, ha, HT.out]; rfl, rfl⟩
    · have ha : decide ((s.size : Int) ≤ 600) = false := decide_eq_false a
      go_enter Try.func24, Try.ntmps24
      go_wp2_with (go_at_call 29; refine (wl1In_any _ _ _ _).mono ?_; rintro e w' ⟨rfl, rfl⟩; rw [HB.out])
      go_ret
      exact ⟨by rw [HV.out, ha]; rfl, rfl⟩
  · have hb : (decide (1 ≤ rows) && decide (rows ≤ 16)) = false := by simpa using hb
    have HB := Lib.hid hb
    have HV := Lib.hid (show wOkB s.size rows = false by unfold wOkB; rw [Bool.and_assoc (decide _) (decide (1 ≤ rows)), hb, Bool.and_false]; rfl)
    clear hb
    go_enter Try.func24, Try.ntmps24
    go_wp2_with (go_at_call 29; refine (wl1In_any _ _ _ _).mono ?_; rintro e w' ⟨rfl, rfl⟩; rw [HB.out])
    go_ret
    exact ⟨by rw [HV.out]; rfl, rfl⟩
theorem wOk_parts {n : Nat} {rows : Int} (h : wOkB n rows = true) : n ≤ 600 ∧ ∃ k cols : Nat, rows = (k : Int) ∧ 1 ≤ k ∧ k ≤ 16 ∧ n = k * cols ∧ n / k = cols := by
  unfold wOkB at h
  rw [Bool.and_eq_true, Bool.and_eq_true, Bool.and_eq_true, decide_eq_true_iff, decide_eq_true_iff, decide_eq_true_iff, beq_iff_eq] at h
  obtain ⟨⟨⟨h1, h2⟩, h3⟩, h4⟩ := h
  obtain ⟨k, rfl⟩ := Int.eq_ofNat_of_zero_le (show 0 ≤ rows by omega)
  rw [Int.tmod_eq_emod_of_nonneg (by omega)] at h4
  have h5 : n % k = 0 := by
    have : ((n % k : Nat) : Int) = 0 := by rw [Int.natCast_emod]; exact h4
    omega
  refine ⟨by omega, k, n / k, rfl, by omega, by omega, ?_, rfl⟩
  have := Nat.div_add_mod n k
  omega
/-- a row of bytes of the call's own -/
def WRow (w : World) (l : List UInt8) (e : Ending) (w' : World) : Prop := ∃ v, e = .returned v ∧ OB 5 w' w.heap.size v l ∧ Below w.heap.size w w'
set_option maxRecDepth 100000 in
set_option maxHeartbeats 8000000 in
theorem transB_any (base : Nat) (v : Value) (l : List UInt8) (rows cols : Nat) (w : World) (hv : OB 5 w base v l) (hl : l.length = rows * cols) (h6 : l.length ≤ 600) (hr2 : rows ≤ 600) (hc2 : cols ≤ 600) :
    Calls Try.prog 23 #[v, .int .i64 rows, .int .i64 cols] w (WRow w (crossL 48 rows cols l)) := by
  obtain ⟨i0, hi, hz0, hz1, hz2⟩ := info_parts info_u8
  obtain ⟨n, hn⟩ : ∃ n, l.length = n := ⟨_, rfl⟩
  have hn6 : n ≤ 600 := by omega
  have hmk : ∀ u : World, (Instr.makeSlice 22 (.int .i64 0) (.int .i64 (n : Int))).run Try.prog u = .ok (.slice (some ⟨u.heap.size, 0, none⟩) 0 n) (u.alloc (.cells (madeCells #[.int .u8 0] n) 5)) := fun u => by
    have h := run_make (P := Try.prog) u 22 5 i0 (.int .u8 0) Try.underlying22 hi hz0 .i64 .i64 0 (n : Int) (by omega) (by omega) (by rw [hz2]; omega) (by omega)
    simpa [hz1, Value.cells] using h
  have HI := Lib.hid hi
  have HZ0 := Lib.hid hz0
  have HZ1 := Lib.hid hz1
  have HZ2 := Lib.hid hz2
  obtain ⟨a, cap, hva, hcap⟩ := hv.shape
  rw [hn] at hva hcap
  subst hva
  have HV := Lib.hid hv
  have HL := Lib.hid (show n = rows * cols by rw [← hn]; exact hl)
  have HN := Lib.hid hn
  have HO0 := Lib.hid (show OB 5 (w.alloc (.cells (madeCells #[.int .u8 0] n) 5)) w.heap.size (.slice (some ⟨w.heap.size, 0, none⟩) 0 n) [] from .inr ⟨w.heap.size, n, _, (0, 0), rfl, Nat.le_refl _, heap_alloc_new w _, .inl rfl, by simp, by unfold maxLen; omega, madeCells_size _ _, by simp⟩)
  clear hi hz0 hz1 hz2 hv hl h6 hn
  go_enter Try.func23, Try.ntmps23
  go_wp2
  clear hmk
  go_loopw [7, 8, 9, 14, 18] (fun v _ _ i _ wr => ∃ c : Nat, c ≤ cols ∧ i = .int .i64 c ∧ OB 5 wr w.heap.size v ((crossL 48 rows cols l).take (c * rows)) ∧ Below w.heap.size w wr) (fun _ _ _ i _ _ => cols - (intOf i).toNat)
  case atStart => exact ⟨0, by omega, rfl, by simpa using HO0.out, (Below.refl _ _).alloc (Nat.le_refl _) _⟩
  case round =>
    obtain ⟨c, hc, rfl, hown, hb⟩ := hrel
    have HO := Lib.hid hown
    have HB := Lib.hid hb
    clear hown hb
    by_cases hlt : c < cols
    · go_wp2_with fail
      go_loopw [7, 9, 18] (fun v _ i wr => ∃ r : Nat, r ≤ rows ∧ i = .int .i64 r ∧ OB 5 wr w.heap.size v ((crossL 48 rows cols l).take (c * rows + r)) ∧ Below w.heap.size w wr) (fun _ _ i _ => rows - (intOf i).toNat)
      case atStart => exact ⟨0, by omega, rfl, by simpa using HO.out, HB.out⟩
      case round =>
        obtain ⟨r, hr0, rfl, hown, hb⟩ := hrel
        have HO2 := Lib.hid hown
        have HB2 := Lib.hid hb
        clear hown hb
        by_cases hrl : r < rows
        · have hq := src_lt rows cols c r hrl hlt
          obtain ⟨q, hqq⟩ : ∃ q, r * cols + c = q := ⟨_, rfl⟩
          obtain ⟨m, hmm⟩ : ∃ m, r * cols = m := ⟨_, rfl⟩
          have hqn : q < n := by rw [HL.out, ← hqq]; exact hq
          have hql : q < l.length := by rw [HN.out]; exact hqn
          have HS := Lib.hid (show (crossL 48 rows cols l).take (c * rows + r + 1) = (crossL 48 rows cols l).take (c * rows + r) ++ [l[q]] by
            subst hqq
            exact crossL_take 48 rows cols c r l hrl hlt hql)
          obtain ⟨g, cap2, hv2, _, _, _, hgl⟩ := HV.out.pos (by omega)
          rw [HN.out] at hv2
          simp only [Value.slice.injEq, true_and] at hv2
          obtain ⟨rfl, rfl⟩ := hv2
          have hcell : wr.cell? ⟨g, q, none⟩ = some (byteV l[q]) := (HB2.out.cell (p := ⟨g, q, none⟩) hgl).trans (HV.out.cellAt hql)
          unfold byteV at hcell
          have hmi : (r : Int) * (cols : Int) = (m : Int) := by rw [← hmm, Int.natCast_mul]
          have hm6 : m ≤ 600 := by omega
          have hqi : (m : Int) + (c : Int) = (q : Int) := by omega
          have hqni : (q : Int) < (n : Int) := by omega
          have hil := at_le rows cols c r (by omega) hlt
          have hlen : ((crossL 48 rows cols l).take (c * rows + r)).length ≤ 600 := by
            rw [List.length_take, crossL_len, ← HL.out]; omega
          clear hqq hmm hq hil
          generalize (crossL 48 rows cols l).take (c * rows + r) = D at HO2 HS hlen
          generalize l[q] = x at hcell HS
          go_wp2_with (at_builtin; refine wpList_append_OB _ rfl _ _ 22 rfl w.heap.size 5 i0 Try.underlying22 HI.out HZ0.out HZ1.out HZ2.out _ D rfl (HO2.out.alloc _) ⟨wr.heap.size, 0, none⟩ 1 1 [x] rfl rfl (one_new wr _ _ _ rfl) (by simp; omega) (by have := HB2.out.size; simp; omega) ?_; intro v2 w2 hown2 hg2)
          go_roundw
          case rel =>
            refine ⟨r + 1, by omega, by go_num, by rw [show c * rows + (r + 1) = c * rows + r + 1 by omega, HS.out]; exact hown2, ?_⟩
            exact (HB2.out.alloc HB2.out.size _).grown hg2 (by have := HB2.out.size; simp; omega) (fun k hk => (HO2.out.lt k hk).1)
          case measure => simp [intOf]; omega
        · obtain rfl : r = rows := by omega
          go_wp2
          go_roundw
          case rel => exact ⟨c + 1, by omega, by go_num, by rw [show (c + 1) * r = c * r + r by rw [Nat.add_mul, Nat.one_mul]]; exact HO2.out, HB2.out⟩
          case measure => simp [intOf]; omega
    · obtain rfl : c = cols := by omega
      have HE := Lib.hid (show (crossL 48 rows c l).take (c * rows) = crossL 48 rows c l from List.take_of_length_le (by rw [crossL_len, Nat.mul_comm]; exact Nat.le_refl _))
      go_wp2
      go_ret
      exact ⟨_, rfl, by rw [← HE.out]; exact HO.out, HB.out⟩
end Go.Proofs.Ytibilifhbnjckaa
