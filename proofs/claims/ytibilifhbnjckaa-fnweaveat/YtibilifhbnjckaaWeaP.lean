/- Plainly (no program in this text). -/
import Derived.Test.YtibilifhbnjckaaKitA
namespace Go.Proofs.Ytibilifhbnjckaa
/-- a matrix of rows, column by column -/
def crossL {α : Type} (d : α) (rows cols : Nat) (s : List α) : List α := (List.range (rows * cols)).map fun i => s.getD (i % rows * cols + i / rows) d
theorem crossL_len {α : Type} (d : α) (rows cols : Nat) (s : List α) : (crossL d rows cols s).length = rows * cols := by simp [crossL]
theorem cross_lt {rows cols i : Nat} (hr : 0 < rows) (h : i < rows * cols) : i % rows * cols + i / rows < rows * cols := by
  have h1 : i % rows < rows := Nat.mod_lt _ hr
  have h2 : i / rows < cols := (Nat.div_lt_iff_lt_mul hr).2 (by rw [Nat.mul_comm]; exact h)
  have h3 : (i % rows + 1) * cols ≤ rows * cols := Nat.mul_le_mul_right _ h1
  rw [Nat.add_mul, Nat.one_mul] at h3
  omega
theorem crossL_get {α : Type} (d : α) {rows cols : Nat} {s : List α} (i : Nat) (h : i < rows * cols) : (crossL d rows cols s).getD i d = s.getD (i % rows * cols + i / rows) d := by
  simp [crossL, List.getD_eq_getElem?_getD, h]
theorem cross_back {α : Type} (d : α) (rows cols : Nat) (s : List α) (hr : 0 < rows) (hs : s.length = rows * cols) : crossL d cols rows (crossL d rows cols s) = s := by
  apply List.ext_getElem
  · rw [crossL_len, hs, Nat.mul_comm]
  · intro i h1 h2
    rw [crossL_len] at h1
    have hc : 0 < cols := by
      rcases Nat.eq_zero_or_pos cols with h | h
      · rw [h] at h1; simp at h1
      · exact h
    have hi : i < rows * cols := by rw [Nat.mul_comm]; exact h1
    have e0 : (crossL d cols rows (crossL d rows cols s))[i] = (crossL d rows cols s).getD (i % cols * rows + i / cols) d := by simp [crossL]
    have hlt := cross_lt hc h1
    rw [e0, crossL_get d _ (by rw [Nat.mul_comm rows cols]; exact hlt)]
    have h3 : i / cols < rows := (Nat.div_lt_iff_lt_mul hc).2 hi
    rw [Nat.mul_comm (i % cols) rows, Nat.mul_add_mod, Nat.mod_eq_of_lt h3, Nat.mul_add_div hr, Nat.div_eq_of_lt h3, Nat.add_zero, Nat.mul_comm (i / cols) cols, Nat.div_add_mod]
    rw [List.getD_eq_getElem?_getD, List.getElem?_eq_getElem h2]; rfl
theorem cross_one {α : Type} (d : α) (s : List α) : crossL d 1 s.length s = s ∧ crossL d s.length 1 s = s := by
  constructor
  · apply List.ext_getElem
    · rw [crossL_len]; omega
    · intro i h1 h2
      simp [crossL, List.getD_eq_getElem?_getD, Nat.mod_one, h2]
  · apply List.ext_getElem
    · rw [crossL_len]; omega
    · intro i h1 h2
      simp [crossL, List.getD_eq_getElem?_getD, Nat.mod_eq_of_lt h2, Nat.div_eq_of_lt h2, h2]
/-- where a place goes -/
def atW (rows cols k : Nat) : Nat := k % cols * rows + k / cols
theorem atW_lt {rows cols k : Nat} (hc : 0 < cols) (h : k < rows * cols) : atW rows cols k < rows * cols := by
  have := cross_lt (rows := cols) (cols := rows) (i := k) hc (by rw [Nat.mul_comm]; exact h)
  rw [Nat.mul_comm cols rows] at this
  exact this
theorem atW_src {rows cols k : Nat} (hr : 0 < rows) (hc : 0 < cols) (h : k < rows * cols) : atW rows cols k % rows * cols + atW rows cols k / rows = k := by
  have h3 : k / cols < rows := (Nat.div_lt_iff_lt_mul hc).2 h
  unfold atW
  rw [Nat.mul_comm (k % cols) rows, Nat.mul_add_mod, Nat.mod_eq_of_lt h3, Nat.mul_add_div hr, Nat.div_eq_of_lt h3, Nat.add_zero, Nat.mul_comm (k / cols) cols, Nat.div_add_mod]
theorem atW_only {rows cols i k : Nat} (hr : 0 < rows) (hc : 0 < cols) (hi : i < rows * cols) (h : i % rows * cols + i / rows = k) : i = atW rows cols k := by
  have h2 : i / rows < cols := (Nat.div_lt_iff_lt_mul hr).2 (by rw [Nat.mul_comm]; exact hi)
  unfold atW
  rw [← h, Nat.mul_comm (i % rows) cols, Nat.mul_add_mod, Nat.mod_eq_of_lt h2, Nat.mul_add_div hc, Nat.div_eq_of_lt h2, Nat.add_zero, Nat.mul_comm (i / rows) rows, Nat.div_add_mod]
theorem cross_at {α : Type} (d : α) {rows cols k : Nat} {s : List α} (hr : 0 < rows) (hc : 0 < cols) (h : k < rows * cols) : (crossL d rows cols s).getD (atW rows cols k) d = s.getD k d := by
  rw [crossL_get d _ (atW_lt hc h), atW_src hr hc h]
/-- two beside each other don't stay so -/
theorem atW_beside {rows cols k : Nat} (hr : 2 ≤ rows) (hc : 2 ≤ cols) (h : k + 1 < rows * cols) : atW rows cols (k + 1) ≠ atW rows cols k + 1 := by
  intro he
  have h1 := atW_src (rows := rows) (cols := cols) (k := k) (by omega) (by omega) (by omega)
  have h2 := atW_src (rows := rows) (cols := cols) (k := k + 1) (by omega) (by omega) (by omega)
  rw [he] at h2
  generalize atW rows cols k = p at h1 h2
  by_cases hp : p % rows + 1 < rows
  · have e1 : (p + 1) % rows = p % rows + 1 := by
      rw [Nat.add_mod, Nat.mod_eq_of_lt (show 1 < rows by omega), Nat.mod_eq_of_lt hp]
    have e2 : (p + 1) / rows = p / rows := by
      rw [Nat.add_div (by omega), Nat.div_eq_of_lt (show 1 < rows by omega), Nat.mod_eq_of_lt (show 1 < rows by omega), if_neg (by omega)]; omega
    rw [e1, e2, Nat.add_mul] at h2
    omega
  · have hm : p % rows < rows := Nat.mod_lt _ (by omega)
    have hq : p % rows = rows - 1 := by omega
    have e1 : (p + 1) % rows = 0 := by
      rw [Nat.add_mod, Nat.mod_eq_of_lt (show 1 < rows by omega), hq, Nat.sub_add_cancel (by omega), Nat.mod_self]
    have e2 : (p + 1) / rows = p / rows + 1 := by
      rw [Nat.add_div (by omega), Nat.div_eq_of_lt (show 1 < rows by omega), Nat.mod_eq_of_lt (show 1 < rows by omega), if_pos (by omega)]
    rw [e1, e2, Nat.zero_mul] at h2
    rw [hq] at h1
    obtain ⟨m, hm⟩ : ∃ m, rows - 1 = m + 1 := ⟨rows - 2, by omega⟩
    rw [hm, Nat.add_mul, Nat.one_mul] at h1
    omega
/-- places, woven: where a place stands is told by the first that is it -/
theorem cross_places (rows cols : Nat) (hr : 0 < rows) : crossL (0 : Int) rows cols ((List.range (rows * cols)).map fun i : Nat => (i : Int)) = (List.range (rows * cols)).map fun i => ((i % rows * cols + i / rows : Nat) : Int) := by
  unfold crossL
  apply List.map_congr_left
  intro i hi
  rw [List.mem_range] at hi
  have := cross_lt hr hi
  simp [List.getD_eq_getElem?_getD, this]
end Go.Proofs.Ytibilifhbnjckaa
