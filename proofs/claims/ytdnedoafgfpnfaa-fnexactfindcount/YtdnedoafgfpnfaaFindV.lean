/- How many events are frames. -/
import Derived.Test.YtdnedoafgfpnfaaFEvK
namespace Go.Proofs.Ytdnedoafgfpnfaa
open Go.ChangeShapes Go.WideShapes Go.ChangeAt Go.RowKit
def cntF (l : List Ev) : Nat := (l.filter fun e => decide (e.kind = 1)).length
theorem cntF_le (l : List Ev) : cntF l ≤ l.length := List.length_filter_le _ _
theorem cntF_snoc (l : List Ev) (e : Ev) : cntF (l ++ [e]) = cntF l + if e.kind = 1 then 1 else 0 := by
  unfold cntF
  rw [List.filter_append, List.length_append]
  by_cases h : e.kind = 1 <;> simp [h]
theorem cntF_rev (l : List Ev) : cntF l.reverse = cntF l := by unfold cntF; rw [List.filter_reverse, List.length_reverse]
set_option maxHeartbeats 1000000 in
theorem implCount_any (v : Value) (l : List Ev) (w : World) (lo B : Nat) (h : RE w lo B v l) (hB : B ≤ w.heap.size) (hl : l.length ≤ 2000000) :
    Calls Try.prog 16 #[v] w fun e w' => e = .returned (.tuple #[.int .i64 (cntF l), .int .i64 ((l.length : Int) - cntF l)]) ∧ Below w.heap.size w w' := by
  obtain ⟨a, cap, rfl⟩ := h.shape
  have H := Lib.hid h
  have hz := zero_event
  clear h
  go_enter Try.func16, Try.ntmps16
  go_wp2
  go_loopw [4, 9] (fun c j wr => ∃ k : Nat, k ≤ l.length ∧ j = .int .i64 k ∧ c = .int .i64 (cntF (l.take k)) ∧ Below w.heap.size w wr) (fun _ j _ => l.length - (intOf j).toNat)
  case atStart => exact ⟨0, Nat.zero_le _, rfl, rfl, Below.refl _ _⟩
  case round =>
    obtain ⟨k, hk, rfl, rfl, hb⟩ := hrel
    have HB := Lib.hid hb
    have hcl := cntF_le (l.take k)
    have hl2 : (l.take k).length ≤ k := List.length_take_le _ _
    by_cases hlt : k < l.length
    · obtain ⟨x, rfl, _, _, c0, c1⟩ := RE.at_ (H.out.below (hb.mono hB)) hlt
      have HS := Lib.hid (show cntF (l.take (k + 1)) = cntF (l.take k) + if l[k].kind = 1 then 1 else 0 by rw [List.take_succ_eq_append_getElem hlt, cntF_snoc])
      clear hb
      by_cases hkd : l[k].kind = 1
      · have hkb : (l[k].kind == 1) = true := by rw [beq_iff_eq]; exact hkd
        rw [if_pos hkd] at HS
        clear hkd
        go_wp2
        go_roundw
        case rel => exact ⟨k + 1, by omega, by go_num, by rw [HS.out]; go_num, HB.out.alloc HB.out.size _⟩
        case measure => simp [intOf]; omega
      · have hkb : (l[k].kind == 1) = false := beq_eq_false_iff_ne.2 hkd
        rw [if_neg hkd] at HS
        clear hkd
        go_wp2
        go_roundw
        case rel => exact ⟨k + 1, by omega, by go_num, by rw [HS.out]; rfl, HB.out.alloc HB.out.size _⟩
        case measure => simp [intOf]; omega
    · obtain rfl : k = l.length := by omega
      have HT := Lib.hid (List.take_length (l := l))
      rw [HT.out] at hcl
      rw [HT.out]
      go_wp2
      go_ret2
      exact ⟨rfl, HB.out⟩
set_option maxHeartbeats 1000000 in
theorem specCount_any (v : Value) (l : List Ev) (w : World) (lo B : Nat) (h : RE w lo B v l) (hl : l.length ≤ 2000000) :
    Calls Try.prog 14 #[v] w fun e w' => e = .returned (.tuple #[.int .i64 (cntF l), .int .i64 ((l.length : Int) - cntF l)]) ∧ w = w' := by
  obtain ⟨a, cap, rfl⟩ := h.shape
  have H := Lib.hid h
  clear h
  go_enter Try.func14, Try.ntmps14
  go_wp2
  go_loop [4, 5, 6] (fun c d j => ∃ k : Nat, k ≤ l.length ∧ j = .int .i64 k ∧ c = .int .i64 (cntF (l.take k)) ∧ d = .int .i64 ((k : Int) - cntF (l.take k))) (fun _ _ j => l.length - (intOf j).toNat)
  case atStart => exact ⟨0, Nat.zero_le _, rfl, rfl, rfl⟩
  case round =>
    obtain ⟨k, hk, rfl, rfl, rfl⟩ := hrel
    have hcl := cntF_le (l.take k)
    have hl2 : (l.take k).length ≤ k := List.length_take_le _ _
    by_cases hlt : k < l.length
    · obtain ⟨x, rfl, _, _, c0, c1⟩ := RE.at_ H.out hlt
      have HS := Lib.hid (show cntF (l.take (k + 1)) = cntF (l.take k) + if l[k].kind = 1 then 1 else 0 by rw [List.take_succ_eq_append_getElem hlt, cntF_snoc])
      by_cases hkd : l[k].kind = 1
      · have hkb : (l[k].kind == 1) = true := by rw [beq_iff_eq]; exact hkd
        rw [if_pos hkd] at HS
        clear hkd
        go_wp2
        go_round
        case rel => exact ⟨k + 1, by omega, by go_num, by rw [HS.out]; go_num, by rw [HS.out]; exact val_int (by omega)⟩
        case measure => simp [intOf]; omega
      · have hkb : (l[k].kind == 1) = false := beq_eq_false_iff_ne.2 hkd
        rw [if_neg hkd] at HS
        clear hkd
        go_wp2
        go_round
        case rel => exact ⟨k + 1, by omega, by go_num, by rw [HS.out]; rfl, by rw [HS.out]; exact val_int (by omega)⟩
        case measure => simp [intOf]; omega
    · obtain rfl : k = l.length := by omega
      have HT := Lib.hid (List.take_length (l := l))
      rw [HT.out]
      go_wp2
      go_ret2
      exact ⟨rfl, rfl⟩
end Go.Proofs.Ytdnedoafgfpnfaa
