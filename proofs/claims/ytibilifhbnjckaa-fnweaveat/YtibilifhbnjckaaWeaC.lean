/- Where places go, in the program and in the model. -/
import Derived.Test.YtibilifhbnjckaaWeaB
import Derived.Laws.AppendOwn
import Derived.Laws.Tables
import Derived.Maps.AppendAt
namespace Go.Proofs.Ytibilifhbnjckaa
open Go.ChangeShapes Go.WideShapes Go.ChangeAt Go.RowKit
def natV (n : Nat) : Value := .int .i64 (n : Int)
def OI (w : World) (base : Nat) (v : Value) (l : List Nat) : Prop := w.ownsRow base 3 1 v l.length (l.map natV)
section
variable {w w' : World} {base g : Nat} {v : Value} {l : List Nat}
theorem OI.lt (h : OI w base v l) : ∀ k, v.ownBlock = some k → base ≤ k ∧ k < w.heap.size := World.ownsRow.lt h
theorem OI.alloc (h : OI w base v l) (o : Obj) : (w.alloc o).ownsRow base 3 1 v l.length (l.map natV) := World.ownsRow.kept h (World.grownBy_alloc w o none) (by cases v.ownBlock <;> simp)
theorem oi_snoc {x : Nat} (h : w.ownsRow base 3 1 v (l.length + 1) (l.map natV ++ [natV x])) : OI w base v (l ++ [x]) := by
  unfold OI
  rw [List.length_append, List.map_append]
  exact h
theorem OI.pos (h : OI w base v l) (hl : 0 < l.length) : ∃ g cap, v = .slice (some ⟨g, 0, none⟩) l.length cap ∧ base ≤ g ∧ g < w.heap.size ∧ l.length ≤ cap ∧ ∀ q (hq : q < l.length), w.cell? ⟨g, q, none⟩ = some (natV l[q]) := by
  rcases h.2 with ⟨_, h0⟩ | ⟨g, cap, cur, rfl, hb, hg, h1, h2, h3, h4⟩
  · omega
  · refine ⟨g, cap, rfl, hb, (Array.getElem?_eq_some_iff.1 hg).1, h1, fun q hq => ?_⟩
    have := World.ownsRow.cells h (g := g) rfl q (natV l[q]) (by rw [List.getElem?_map, List.getElem?_eq_getElem hq]; rfl)
    by_cases h0 : q = 0
    · subst h0; simpa [Addr.add] using this
    · simpa [Addr.add, h0] using this
end
theorem one_cell2 (w : World) (e : TypeId) (v : Value) : ∀ j u, [v][j]? = some u → (w.alloc (.cells #[v] e)).cell? ((⟨w.heap.size, 0, none⟩ : Addr).add j) = some u := by
  intro j u hu
  match j, hu with
  | 0, hu => simp at hu; subst hu; simp [Addr.add]
theorem info_int : (Try.prog.info? 3).map (fun i => (i.zero, i.size, i.bytes)) = some (some (.int .i64 0), 1, 8) := by kernel_rfl
def WRowI (w : World) (l : List Nat) (e : Ending) (w' : World) : Prop := ∃ v, e = .returned v ∧ OI w' w.heap.size v l ∧ Below w.heap.size w w'
set_option maxRecDepth 100000 in
set_option maxHeartbeats 800000 in
theorem transI_any (g n : Nat) (l : List Nat) (rows cols : Nat) (w : World) (hg : g < w.heap.size) (hn : l.length = n) (hcs : ∀ q (hq : q < l.length), w.cell? ⟨g, q, none⟩ = some (natV l[q])) (hl : l.length = rows * cols) (hn6 : n ≤ 600) (hr2 : rows ≤ 600) (hc2 : cols ≤ 600) :
    Calls Try.prog 28 #[.slice (some ⟨g, 0, none⟩) n n, .int .i64 rows, .int .i64 cols] w (WRowI w (crossL 0 rows cols l)) := by
  obtain ⟨i0, hi, hz0, hz1, hz2⟩ := info_parts info_int
  have hmk : ∀ u : World, (Instr.makeSlice 37 (.int .i64 0) (.int .i64 (n : Int))).run Try.prog u = .ok (.slice (some ⟨u.heap.size, 0, none⟩) 0 n) (u.alloc (.cells (madeCells #[.int .i64 0] n) 3)) := fun u => by
    have h := run_make (P := Try.prog) u 37 3 i0 (.int .i64 0) Try.underlying37 hi hz0 .i64 .i64 0 (n : Int) (by omega) (by omega) (by rw [hz2]; omega) (by omega)
    simpa [hz1, Value.cells] using h
  have HI := Lib.hid hi
  have HZ0 := Lib.hid hz0
  have HZ1 := Lib.hid hz1
  have HZ2 := Lib.hid hz2
  have HC := Lib.hid hcs
  have HL := Lib.hid (show n = rows * cols by rw [← hn]; exact hl)
  have HN := Lib.hid hn
  have HO0 := Lib.hid (show OI (w.alloc (.cells (madeCells #[.int .i64 0] n) 3)) w.heap.size (.slice (some ⟨w.heap.size, 0, none⟩) 0 n) [] from ⟨by simp, .inr ⟨w.heap.size, n, _, rfl, Nat.le_refl _, heap_alloc_new w _, Nat.zero_le _, by unfold maxLen; omega, by rw [size_madeCells]; simp, by simp⟩⟩)
  clear hi hz0 hz1 hz2 hl hn hcs
  go_enter Try.func28, Try.ntmps28
  go_wp2
  clear hmk
  go_loopw [7, 8, 9, 14, 18] (fun v _ _ i _ wr => ∃ c : Nat, c ≤ cols ∧ i = .int .i64 c ∧ OI wr w.heap.size v ((crossL 0 rows cols l).take (c * rows)) ∧ Below w.heap.size w wr) (fun _ _ _ i _ _ => cols - (intOf i).toNat)
  case atStart => exact ⟨0, by omega, rfl, by simpa using HO0.out, (Below.refl _ _).alloc (Nat.le_refl _) _⟩
  case round =>
    obtain ⟨c, hc, rfl, hown, hb⟩ := hrel
    have HO := Lib.hid hown
    have HB := Lib.hid hb
    clear hown hb
    by_cases hlt : c < cols
    · go_wp2_with fail
      go_loopw [7, 9, 18] (fun v _ i wr => ∃ r : Nat, r ≤ rows ∧ i = .int .i64 r ∧ OI wr w.heap.size v ((crossL 0 rows cols l).take (c * rows + r)) ∧ Below w.heap.size w wr) (fun _ _ i _ => rows - (intOf i).toNat)
      case atStart => exact ⟨0, by omega, rfl, by simpa using HO.out, HB.out⟩
      case round =>
        obtain ⟨r, hr0, rfl, hown, hb⟩ := hrel
        have HO2 := Lib.hid hown
        have HB2 := Lib.hid hb
        clear hown hb
        by_cases hrl : r < rows
        · have hq := src_lt rows cols c r hrl hlt
          obtain ⟨q, hqq⟩ : ∃ q, r * cols + c = q := ⟨_, rfl⟩
          obtain ⟨m, hmm⟩ : ∃ m, r * cols = m := ⟨_, rfl⟩
          have hqn : q < n := by rw [HL.out, ← hqq]; exact hq
          have hql : q < l.length := by rw [HN.out]; exact hqn
          have HS := Lib.hid (show (crossL 0 rows cols l).take (c * rows + r + 1) = (crossL 0 rows cols l).take (c * rows + r) ++ [l[q]] by
            subst hqq
            exact crossL_take 0 rows cols c r l hrl hlt hql)
          have hcell : wr.cell? ⟨g, q, none⟩ = some (natV l[q]) := (HB2.out.cell (p := ⟨g, q, none⟩) hg).trans (HC.out q hql)
          unfold natV at hcell
          have hmi : (r : Int) * (cols : Int) = (m : Int) := by rw [← hmm, Int.natCast_mul]
          have hm6 : m ≤ 600 := by omega
          have hqi : (m : Int) + (c : Int) = (q : Int) := by omega
          have hqni : (q : Int) < (n : Int) := by omega
          have hil := at_le rows cols c r (by omega) hlt
          have hlen : ((crossL 0 rows cols l).take (c * rows + r)).length ≤ 600 := by
            rw [List.length_take, crossL_len, ← HL.out]; omega
          clear hqq hmm hq hil
          generalize (crossL 0 rows cols l).take (c * rows + r) = D at HO2 HS hlen
          generalize l[q] = x at hcell HS
          go_wp2_with (at_builtin; refine wpList_append_own _ rfl _ _ 37 rfl w.heap.size 3 i0 (.int .i64 0) 1 8 Try.underlying37 HI.out HZ0.out HZ1.out HZ2.out rfl (by decide) _ D.length _ rfl (HO2.out.alloc _) ⟨wr.heap.size, 0, none⟩ 1 1 [natV x] rfl rfl (one_cell2 wr _ _) (by simp [natV, Value.oneCell']) (by unfold maxLen; omega) (by omega) (by have := HB2.out.size; simp; omega) ?_; intro v2 w2 hown2x hg2 _; have hown2 : OI w2 w.heap.size v2 (D ++ [x]) := oi_snoc hown2x)
          go_roundw
          case rel =>
            refine ⟨r + 1, by omega, by go_num, by rw [show c * rows + (r + 1) = c * rows + r + 1 by omega, HS.out]; exact hown2, ?_⟩
            exact (HB2.out.alloc HB2.out.size _).grown hg2 (by have := HB2.out.size; simp; omega) (fun k hk => (HO2.out.lt k hk).1)
          case measure => simp [intOf]; omega
        · obtain rfl : r = rows := by omega
          go_wp2
          go_roundw
          case rel => exact ⟨c + 1, by omega, by go_num, by rw [show (c + 1) * r = c * r + r by rw [Nat.add_mul, Nat.one_mul]]; exact HO2.out, HB2.out⟩
          case measure => simp [intOf]; omega
    · obtain rfl : c = cols := by omega
      have HE := Lib.hid (show (crossL 0 rows c l).take (c * rows) = crossL 0 rows c l from List.take_of_length_le (by rw [crossL_len, Nat.mul_comm]; exact Nat.le_refl _))
      go_wp2
      go_ret
      exact ⟨_, rfl, by rw [← HE.out]; exact HO.out, HB.out⟩
set_option maxHeartbeats 800000 in
theorem indexI_any (g n cap p x : Nat) (l : List Nat) (w : World) (hn : l.length = n) (hcs : ∀ q (hq : q < l.length), w.cell? ⟨g, q, none⟩ = some (natV l[q])) (hn6 : n ≤ 600) (hp : p < n) (hx : l[p]'(by omega) = x) (hb : ∀ q (hq : q < p), l[q]'(by omega) ≠ x) :
    Calls Try.prog 27 #[.slice (some ⟨g, 0, none⟩) n cap, .int .i64 x] w fun e w' => e = .returned (.int .i64 p) ∧ w = w' := by
  have HC := Lib.hid hcs
  have HN := Lib.hid hn
  have HX := Lib.hid hx
  have HB := Lib.hid hb
  clear hcs hx hb
  go_enter Try.func27, Try.ntmps27
  go_wp2
  go_loop [5, 8] (fun _ i => ∃ j : Nat, j ≤ p ∧ i = .int .i64 j) (fun _ i => n - (intOf i).toNat)
  case atStart => exact ⟨0, by omega, rfl⟩
  case round =>
    obtain ⟨j, hj, rfl⟩ := hrel
    have hjn : j < n := by omega
    have hcell := HC.out j (by rw [hn]; exact hjn)
    unfold natV at hcell
    by_cases he : j = p
    · subst he
      rw [HX.out] at hcell
      go_wp2
      go_ret
      exact ⟨rfl, rfl⟩
    · have hne := HB.out j (by omega)
      generalize l[j]'(by omega) = y at hcell hne
      have hne2 : ((x : Int) == (y : Int)) = false := beq_eq_false_iff_ne.2 (by omega)
      clear hne
      go_wp2
      go_round
      case rel => exact ⟨j + 1, by omega, by go_num⟩
      case measure => simp [intOf]; omega
/-- the row of places, as far as it is laid -/
def placesA (n k : Nat) : Array Value := ((List.range n).map fun j => natV (if j < k then j else 0)).toArray
theorem places_none (n : Nat) : madeCells #[.int .i64 0] n = placesA n 0 := by
  apply Array.ext'
  simp [madeCells, placesA, natV, Nat.mod_one]
theorem places_set {n k : Nat} : (placesA n k).setIfInBounds k (natV k) = placesA n (k + 1) := by
  unfold placesA
  apply Array.ext
  · simp
  · intro i h1 h2
    by_cases e : k = i
    · subst e; simp
    · have h3 : (i < k + 1) = (i < k) := by apply propext; omega
      simp [e, h3]
theorem places_all (n : Nat) : placesA n n = ((List.range n).map natV).toArray := by
  unfold placesA
  congr 1
  apply List.map_congr_left
  intro j hj
  rw [List.mem_range] at hj
  rw [if_pos hj]
theorem cross_placesN (rows cols : Nat) (hr : 0 < rows) : crossL (0 : Nat) rows cols (List.range (rows * cols)) = (List.range (rows * cols)).map fun i => i % rows * cols + i / rows := by
  unfold crossL
  apply List.map_congr_left
  intro i hi
  rw [List.mem_range] at hi
  have := cross_lt hr hi
  simp [List.getD_eq_getElem?_getD, this]
def atOkB (many rows a : Int) : Bool := wOkB many rows && decide (0 ≤ a) && decide (a < many)
def atWB (many rows a : Int) : Int := if atOkB many rows a then (atW rows.toNat (many.toNat / rows.toNat) a.toNat : Nat) else -1
theorem atOk_parts {many rows a : Int} (h : atOkB many rows a = true) : wOkB many rows = true ∧ ∃ n k cols p : Nat, many = (n : Int) ∧ rows = (k : Int) ∧ a = (p : Int) ∧ 1 ≤ k ∧ k ≤ 16 ∧ n = k * cols ∧ n ≤ 600 ∧ p < n ∧ 1 ≤ cols ∧ atWB many rows a = (atW k cols p : Nat) := by
  have h0 := h
  unfold atOkB at h
  rw [Bool.and_eq_true, Bool.and_eq_true, decide_eq_true_iff, decide_eq_true_iff] at h
  obtain ⟨⟨h1, h2⟩, h3⟩ := h
  obtain ⟨n, rfl⟩ := Int.eq_ofNat_of_zero_le (show 0 ≤ many by omega)
  obtain ⟨p, rfl⟩ := Int.eq_ofNat_of_zero_le h2
  obtain ⟨h6, k, cols, rfl, hk, hk2, hs, hd⟩ := wOk_parts h1
  refine ⟨h1, n, k, cols, p, rfl, rfl, rfl, hk, hk2, hs, h6, by omega, ?_, ?_⟩
  · rcases Nat.eq_zero_or_pos cols with hc | hc
    · rw [hc] at hs; omega
    · exact hc
  · unfold atWB
    rw [if_pos h0]
    simp only [Int.toNat_natCast, hd]
set_option maxRecDepth 100000 in
set_option maxHeartbeats 800000 in
theorem implAt_yes (n k cols p : Nat) (w : World) (hok : wOkB n k = true) (hs : n = k * cols) (hk : 1 ≤ k) (hk2 : k ≤ 16) (h6 : n ≤ 600) (hp : p < n) (hc : 1 ≤ cols) :
    Calls Try.prog 16 #[.int .i64 n, .int .i64 k, .int .i64 p] w fun e w' => e = .returned (.int .i64 (atW k cols p : Nat)) ∧ Below w.heap.size w w' := by
  obtain ⟨i0, hi, hz0, hz1, hz2⟩ := info_parts info_int
  have hmk : ∀ u : World, (Instr.makeSlice 37 (.int .i64 (n : Int)) (.int .i64 (n : Int))).run Try.prog u = .ok (.slice (some ⟨u.heap.size, 0, none⟩) n n) (u.alloc (.cells (madeCells #[.int .i64 0] n) 3)) := fun u => by
    have h := run_make (P := Try.prog) u 37 3 i0 (.int .i64 0) Try.underlying37 hi hz0 .i64 .i64 (n : Int) (n : Int) (by omega) (by omega) (by rw [hz2]; omega) (by omega)
    simpa [hz1, Value.cells] using h
  have hdiv := div_of hs hk
  have hz : (k : Int) ≠ 0 := by omega
  have hz3 : ((k : Int) == 0) = false := beq_eq_false_iff_ne.2 (by omega)
  have hm1 : ((k : Int) == -1) = false := beq_eq_false_iff_ne.2 (by omega)
  have hcl := cols_le hs hk h6
  have hlo : decide ((p : Int) < 0) = false := decide_eq_false (by omega)
  have hhi : decide ((p : Int) ≥ (n : Int)) = false := decide_eq_false (by omega)
  have HL := Lib.hid hs
  have HP0 := Lib.hid (places_none n)
  clear hs hi hz0 hz1 hz2
  go_enter Try.func16, Try.ntmps16
  go_wp2_with (go_at_call 22; refine (implWOk_any _ _ _ (by omega) (by omega)).mono ?_; rintro e w' ⟨rfl, rfl⟩; rw [hok])
  clear hmk
  go_loopw [8, 26] (fun _ i wr => ∃ j : Nat, j ≤ n ∧ i = .int .i64 j ∧ wr.heap[w.heap.size]? = some (.cells (placesA n j) 3 (0, 0)) ∧ Below w.heap.size w wr) (fun _ i _ => n - (intOf i).toNat)
  case atStart => exact ⟨0, by omega, rfl, by rw [← HP0.out]; exact heap_alloc_new w _, (Below.refl _ _).alloc (Nat.le_refl _) _⟩
  case round =>
    obtain ⟨j, hj, rfl, hh, hb⟩ := hrel
    have HH := Lib.hid hh
    have HB := Lib.hid hb
    by_cases hlt : j < n
    · have c0 : wr.cell? ⟨w.heap.size, j, none⟩ = some (.int .i64 0) := by
        rw [cell_of_row wr _ j _ _ _ hh]
        unfold placesA natV
        simp [hlt]
      have f0 : wr.frozen? ⟨w.heap.size, j, none⟩ = false := frozen_of_row wr _ j _ _ hh
      clear hh hb
      go_wp2
      go_roundw
      case rel =>
        refine ⟨j + 1, by omega, by go_num, ?_, HB.out.setCell (p := ⟨w.heap.size, j, none⟩) (Nat.le_refl _) _⟩
        rw [setCell_eq_setRow _ _ _ _ _ (0, 0) _ HH.out]
        rw [show (Value.int .i64 (j : Int)) = natV j from rfl, places_set]
        exact setRow_heap _ _ _ _ _ (0, 0) HH.out
      case measure => simp [intOf]; omega
    · obtain rfl : j = n := by omega
      have hcs : ∀ q (hq : q < (List.range j).length), wr.cell? ⟨w.heap.size, q, none⟩ = some (natV (List.range j)[q]) := by
        intro q hq
        rw [cell_of_row wr _ q _ _ _ hh, places_all]
        simp only [List.length_range] at hq
        simp [hq]
      have HCS := Lib.hid hcs
      have hgl : w.heap.size < wr.heap.size := (Array.getElem?_eq_some_iff.1 hh).1
      clear hh hb hcs
      go_wp2_with fail
      refine (transI_any w.heap.size j (List.range j) k cols _ hgl (by simp) HCS.out (by rw [List.length_range, ← HL.out]) h6 (by omega) hcl).mono ?_
      rintro e w2 ⟨v2, rfl, hown2, hb2⟩
      have HLEN := Lib.hid (show (crossL 0 k cols (List.range j)).length = j by rw [crossL_len, ← HL.out])
      obtain ⟨g, cap, rfl, hgb, _, _, hc2⟩ := hown2.pos (by rw [HLEN.out]; omega)
      have HB2 := Lib.hid (HB.out.trans (hb2.mono (by omega)))
      have HC2 := Lib.hid hc2
      clear hown2 hb2 hc2
      rw [HLEN.out]
      have HW : atW k cols p < j := by have := atW_lt (rows := k) (cols := cols) (k := p) (by omega) (by rw [← HL.out]; exact hp); rw [← HL.out] at this; exact this
      have HG := Lib.hid (show crossL 0 k cols (List.range j) = (List.range j).map fun i => i % k * cols + i / k by rw [HL.out]; exact cross_placesN k cols (by omega))
      go_wp2_with fail
      refine (indexI_any g j cap (atW k cols p) p (crossL 0 k cols (List.range j)) _ HLEN.out HC2.out h6 HW ?_ ?_).mono ?_
      · simp only [HG.out, List.getElem_map, List.getElem_range]
        exact atW_src (by omega) (by omega) (by rw [← HL.out]; exact hp)
      · intro q hq he
        simp only [HG.out, List.getElem_map, List.getElem_range] at he
        have := atW_only (rows := k) (cols := cols) (by omega) (by omega) (by rw [← HL.out]; omega) he
        omega
      rintro e w' ⟨rfl, rfl⟩
      go_wp2
      go_ret
      exact ⟨rfl, HB2.out⟩
theorem implAt_no (n k p : Int) (w : World) (hok : atOkB n k p = false) (h0 : -9223372036854775808 ≤ n) (h1 : n ≤ 9223372036854775807) :
    Calls Try.prog 16 #[.int .i64 n, .int .i64 k, .int .i64 p] w fun e w' => e = .returned (.int .i64 (-1)) ∧ w = w' := by
  cases hw : wOkB n k with
  | false =>
    clear hok
    go_enter Try.func16, Try.ntmps16
    go_wp2_with (go_at_call 22; refine (implWOk_any _ _ _ h0 h1).mono ?_; rintro e w' ⟨rfl, rfl⟩; rw [hw])
    go_ret
    exact ⟨rfl, rfl⟩
  | true =>
    unfold atOkB at hok
    rw [hw, Bool.true_and] at hok
    by_cases hp : p < 0
    · clear hok
      go_enter Try.func16, Try.ntmps16
      go_wp2_with (go_at_call 22; refine (implWOk_any _ _ _ h0 h1).mono ?_; rintro e w' ⟨rfl, rfl⟩; rw [hw])
      go_ret
      exact ⟨rfl, rfl⟩
    · rw [decide_eq_true (show 0 ≤ p by omega), Bool.true_and, decide_eq_false_iff_not] at hok
      have hge : decide (p ≥ n) = true := decide_eq_true (by omega)
      go_enter Try.func16, Try.ntmps16
      go_wp2_with (go_at_call 22; refine (implWOk_any _ _ _ h0 h1).mono ?_; rintro e w' ⟨rfl, rfl⟩; rw [hw])
      go_ret
      exact ⟨rfl, rfl⟩
end Go.Proofs.Ytibilifhbnjckaa
