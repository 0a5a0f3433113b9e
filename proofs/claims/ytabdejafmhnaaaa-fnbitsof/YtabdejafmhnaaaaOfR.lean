/- Plain facts of bytes as bits. -/
import Derived.Test.YtabdejafmhnaaaaOfD
import Derived.Test.YtabdejafmhnaaaaBitsE
import Derived.Test.YtabdejafmhnaaaaBitsR
namespace Go.Proofs.Ytabdejafmhnaaaa
open Go.ChangeShapes Go.WideShapes Go.ChangeAt Go.RowKit
theorem ofL_len (l : List UInt8) : (ofL l).length = 8 * l.length := uptoL_len _ _
theorem ofA_of {l : List UInt8} (h : l.length ≤ 150) : ofA l = ofL l := if_pos h
theorem bitAt_bit (l : List UInt8) (i : Nat) : bitB (bitAt l i) = true := by
  unfold bitAt
  rcases Nat.mod_two_eq_zero_or_one ((l[i / 8]?.getD 0).toNat / 2 ^ (i % 8)) with h | h <;> rw [h] <;> rfl
theorem ofL_ok {l : List UInt8} (h : l.length ≤ 150) : okB (ofL l) = true := by
  unfold okB
  rw [ofL_len, Bool.and_eq_true, decide_eq_true_iff]
  refine ⟨?_, by omega⟩
  rw [List.all_eq_true]
  intro c hc
  obtain ⟨i, _, rfl⟩ := List.mem_map.1 hc
  exact bitAt_bit l i
theorem ofL_append (a b : List UInt8) : ofL (a ++ b) = ofL a ++ ofL b := by
  unfold ofL uptoL
  rw [List.length_append, Nat.mul_add, List.range_add, List.map_append, List.map_map]
  congr 1
  · apply List.map_congr_left
    intro i hi
    have hi := List.mem_range.1 hi
    unfold bitAt
    rw [List.getElem?_append_left (by omega)]
  · apply List.map_congr_left
    intro i _
    show bitAt (a ++ b) (8 * a.length + i) = bitAt b i
    unfold bitAt
    rw [List.getElem?_append_right (by omega), show (8 * a.length + i) / 8 - a.length = i / 8 by omega, show (8 * a.length + i) % 8 = i % 8 by omega]
theorem bitN_of (b : Nat) (h : b < 2) : bitN (UInt8.ofNat (48 + b)) = b := by
  obtain rfl | rfl : b = 0 ∨ b = 1 := by omega
  · rfl
  · rfl
theorem oct_ofL (c : UInt8) : octN (ofL [c]) = c.toNat := by
  have h : ofL [c] = [bitAt [c] 0, bitAt [c] 1, bitAt [c] 2, bitAt [c] 3, bitAt [c] 4, bitAt [c] 5, bitAt [c] 6, bitAt [c] 7] := rfl
  have hb : ∀ j, j < 8 → bitN (bitAt [c] j) = c.toNat / 2 ^ j % 2 := fun j hj => by
    unfold bitAt
    rw [show j / 8 = 0 by omega, show j % 8 = j by omega]
    exact bitN_of _ (Nat.mod_lt _ (by omega))
  rw [h]
  simp only [octN, hb 0 (by omega), hb 1 (by omega), hb 2 (by omega), hb 3 (by omega), hb 4 (by omega), hb 5 (by omega), hb 6 (by omega), hb 7 (by omega)]
  have := UInt8.toNat_lt c
  omega
theorem toL_ofL (l : List UInt8) : toL (ofL l) = l := by
  apply List.ext_getElem
  · rw [toL, List.length_map, List.length_range, ofL_len]; omega
  · intro m h1 h2
    have e : octAt (ofL l) m = l[m] := by
      unfold octAt
      have hl : l = l.take m ++ ([l[m]] ++ l.drop (m + 1)) := by
        rw [List.singleton_append, List.getElem_cons_drop, List.take_append_drop]
      have h3 : ((ofL l).drop (8 * m)).take 8 = ofL [l[m]] := by
        conv => lhs; rw [hl]
        rw [ofL_append, ofL_append, List.drop_left' (by rw [ofL_len, List.length_take]; omega), List.take_left' (by rw [ofL_len]; rfl)]
      rw [h3, oct_ofL]
      apply UInt8.toNat_inj.1
      rw [UInt8.toNat_ofNat']
      exact Nat.mod_eq_of_lt (UInt8.toNat_lt _)
    simpa [toL] using e
theorem octN_bit (L : List UInt8) : ∀ j (h : j < L.length), octN L / 2 ^ j % 2 = bitN L[j] := by
  have hb : ∀ c, bitN c < 2 := fun c => by unfold bitN; split <;> omega
  induction L with
  | nil => intro j h; simp at h
  | cons c L ih =>
    intro j h
    have hc := hb c
    cases j with
    | zero => simp only [octN, Nat.pow_zero, Nat.div_one, List.getElem_cons_zero]; omega
    | succ j =>
      rw [List.getElem_cons_succ, ← ih j (by simpa using h), Nat.pow_succ, Nat.mul_comm, ← Nat.div_div_eq_div_mul]
      congr 2
      simp only [octN]
      omega
theorem bit_back {c : UInt8} (h : bitB c = true) : UInt8.ofNat (48 + bitN c) = c := by
  have h : c = 48 ∨ c = 49 := by simpa [bitB] using h
  rcases h with rfl | rfl <;> rfl
theorem ok_bits0 {l : List UInt8} (h : okB l = true) : l.all bitB = true := by unfold okB at h; exact (Bool.and_eq_true_iff.1 h).1
theorem toL_len (l : List UInt8) : (toL l).length = l.length / 8 := by simp [toL]
theorem ofL_toL {l : List UInt8} (h : l.all bitB = true) (h8 : l.length % 8 = 0) : ofL (toL l) = l := by
  apply List.ext_getElem
  · rw [ofL_len, toL_len]; omega
  · intro i h1 h2
    have e : bitAt (toL l) i = l[i] := by
      unfold bitAt
      have hm : i / 8 < (toL l).length := by rw [toL_len]; omega
      rw [List.getElem?_eq_getElem hm]
      have h3 : (toL l)[i / 8] = octAt l (i / 8) := by simp [toL]
      show UInt8.ofNat (48 + (toL l)[i / 8].toNat / 2 ^ (i % 8) % 2) = l[i]
      rw [h3, octAt, UInt8.toNat_ofNat']
      have hlen : ((l.drop (8 * (i / 8))).take 8).length = 8 := by rw [List.length_take, List.length_drop]; omega
      have hlt := octN_lt ((l.drop (8 * (i / 8))).take 8)
      rw [hlen] at hlt
      rw [Nat.mod_eq_of_lt hlt, octN_bit _ (i % 8) (by rw [hlen]; omega)]
      have h4 : ((l.drop (8 * (i / 8))).take 8)[i % 8]'(by rw [hlen]; omega) = l[i] := by
        rw [List.getElem_take, List.getElem_drop]
        congr 1
        omega
      rw [h4]
      exact bit_back (List.all_eq_true.1 h _ (List.getElem_mem _))
    simpa [ofL, uptoL] using e
end Go.Proofs.Ytabdejafmhnaaaa
