/- A line: its value, its box, when it is ok: plainly, in the program and in the model. -/
import Derived.Test.YtdnedoafgfpnfaaFindDD
import Derived.Test.YtdnedoafgfpnfaaKitFindB
import Derived.Test.YtdnedoafgfpnfaaStrs
import Derived.Test.YtdnedoafgfpnfaaBk
namespace Go.Proofs.Ytdnedoafgfpnfaa
open Go.ChangeShapes Go.WideShapes Go.ChangeAt Go.RowKit
/-- a line's value -/
abbrev lnV (a b d m : Int) (vm : Value) (nx : Int) (vg : Value) (T : ByteArray) (to : Bool) (H : ByteArray) (ho : Bool) (vt vb : Value) : Value :=
  .agg #[.int .i64 a, .int .i64 b, .int .i64 d, .int .i64 m, vm, .int .i64 nx, vg, .string T, .bool to, .string H, .bool ho, vt, vb]
theorem cells13 {W : World} {g : Nat} {t : TypeId} {a b d m nx : Int} {vm vg vt vb : Value} {T H : ByteArray} {to ho : Bool} (h : BK W g #[.int .i64 a, .int .i64 b, .int .i64 d, .int .i64 m, vm, .int .i64 nx, vg, .string T, .bool to, .string H, .bool ho, vt, vb] t) :
    W.cell? ⟨g, 0, none⟩ = some (.int .i64 a) ∧ W.cell? ⟨g, 1, none⟩ = some (.int .i64 b) ∧ W.cell? ⟨g, 2, none⟩ = some (.int .i64 d) ∧ W.cell? ⟨g, 3, none⟩ = some (.int .i64 m) ∧ W.cell? ⟨g, 4, none⟩ = some (vm) ∧ W.cell? ⟨g, 5, none⟩ = some (.int .i64 nx) ∧ W.cell? ⟨g, 6, none⟩ = some (vg) ∧ W.cell? ⟨g, 7, none⟩ = some (.string T) ∧ W.cell? ⟨g, 8, none⟩ = some (.bool to) ∧ W.cell? ⟨g, 9, none⟩ = some (.string H) ∧ W.cell? ⟨g, 10, none⟩ = some (.bool ho) ∧ W.cell? ⟨g, 11, none⟩ = some (vt) ∧ W.cell? ⟨g, 12, none⟩ = some (vb) :=
  ⟨h.cell rfl, h.cell rfl, h.cell rfl, h.cell rfl, h.cell rfl, h.cell rfl, h.cell rfl, h.cell rfl, h.cell rfl, h.cell rfl, h.cell rfl, h.cell rfl, h.cell rfl⟩
/-- messages that are not too long, and not too many -/
def msgsB (d : Int) (ss : List ByteArray) : Bool := ss.all (fun s => decide ((s.size : Int) < d)) && decide (ss.length ≤ 6)
def lineB (c : Cf) (ms : List ByteArray) (nx : Int) (ng : Nat) (f h : Fd) (nt nb : Nat) : Bool :=
  okF c f && (okF c h && (msgsB c.most ms && (decide (0 ≤ nx ∧ nx ≤ (ms.length : Int)) && (decide (ng ≤ ms.length) && (decide (nt ≤ 5) && decide (nb ≤ 5))))))
theorem all_snoc_s {p : ByteArray → Bool} {ss : List ByteArray} {k : Nat} (h : k < ss.length) : (ss.take (k + 1)).all p = ((ss.take k).all p && p ss[k]) := by
  rw [List.take_succ_eq_append_getElem h, List.all_append]; simp
theorem all_bad {p : ByteArray → Bool} {ss : List ByteArray} {k : Nat} (h : k < ss.length) (hp : p ss[k] = false) : ss.all p = false := by
  rw [List.all_eq_false]
  exact ⟨ss[k], List.getElem_mem h, by rw [hp]; simp⟩
set_option maxRecDepth 100000 in
set_option maxHeartbeats 2000000 in
theorem msgsOk_any (a b d m : Int) (v : Value) (ss : List ByteArray) (w : World) (B : Nat) (h : RS w B v ss) (hB : B ≤ w.heap.size) (hl : ss.length ≤ maxLen) (hz : ∀ s ∈ ss, s.size ≤ maxLen) :
    Calls Try.prog 37 #[cfV a b d m, v] w fun e w' => e = .returned (.bool (msgsB d ss)) ∧ Below w.heap.size w w' := by
  unfold maxLen at hl hz
  obtain ⟨A, cap, rfl⟩ := h.shape
  have HR := Lib.hid (h.below ((Below.refl B w).alloc hB (.cells #[.int .i64 a, .int .i64 b, .int .i64 d, .int .i64 m] 24)))
  have HZ := Lib.hid hz
  clear h hz
  go_enter Try.func37, Try.ntmps37
  go_wp2
  go_loop [9] (fun j => ∃ k : Nat, k ≤ ss.length ∧ j = .int .i64 k ∧ (ss.take k).all (fun s => decide ((s.size : Int) < d)) = true) (fun j => ss.length - (intOf j).toNat)
  case atStart => exact ⟨0, Nat.zero_le _, rfl, rfl⟩
  case round =>
    obtain ⟨k, hk, rfl, hall⟩ := hrel
    have HA := Lib.hid hall
    clear hall
    by_cases hlt : k < ss.length
    · obtain ⟨x, rfl, _, c0⟩ := HR.out.at_ hlt
      have hsz := HZ.out ss[k] (List.getElem_mem _)
      have HT := Lib.hid (all_snoc_s (p := fun s => decide ((s.size : Int) < d)) hlt)
      have HN := Lib.hid (fun h => all_bad (p := fun s => decide ((s.size : Int) < d)) hlt h)
      generalize ss[k] = t at *
      by_cases hn : (t.size : Int) < d
      · have HT2 := Lib.hid (show (ss.take (k + 1)).all (fun s => decide ((s.size : Int) < d)) = true by rw [HT.out, HA.out, decide_eq_true hn]; rfl)
        clear HT HN
        go_wp2
        go_round
        case rel => exact ⟨k + 1, by omega, by go_num, HT2.out⟩
        case measure => simp [intOf]; omega
      · have HE := Lib.hid (show msgsB d ss = false by unfold msgsB; rw [HN.out (decide_eq_false hn)]; rfl)
        go_wp2
        go_ret
        exact ⟨by rw [HE.out]; rfl, (Below.refl _ _).alloc (Nat.le_refl _) _⟩
    · have HE := Lib.hid (show msgsB d ss = decide (ss.length ≤ 6) by
        have := HA.out
        rw [List.take_of_length_le (by omega)] at this
        unfold msgsB; rw [this]; rfl)
      by_cases h6 : ss.length ≤ 6
      · go_wp2
        go_ret
        exact ⟨by rw [HE.out, decide_eq_true h6]; simp; omega, (Below.refl _ _).alloc (Nat.le_refl _) _⟩
      · go_wp2
        go_ret
        exact ⟨by rw [HE.out, decide_eq_false h6]; simp; omega, (Below.refl _ _).alloc (Nat.le_refl _) _⟩
set_option maxRecDepth 100000 in
set_option maxHeartbeats 2000000 in
theorem l8MsgsOk_any (a b d m : Int) (v : Value) (ss : List ByteArray) (w : World) (B : Nat) (h : RS w B v ss) (hB : B ≤ w.heap.size) (hl : ss.length ≤ maxLen) (hz : ∀ s ∈ ss, s.size ≤ maxLen) (hd : 0 ≤ d ∧ d ≤ 40) :
    Calls Try.prog 35 #[cfV a b d m, v] w fun e w' => e = .returned (.bool (msgsB d ss)) ∧ Below w.heap.size w w' := by
  unfold maxLen at hl hz
  obtain ⟨A, cap, rfl⟩ := h.shape
  have HR := Lib.hid (h.below ((Below.refl B w).alloc hB (.cells #[.int .i64 a, .int .i64 b, .int .i64 d, .int .i64 m] 24)))
  have HZ := Lib.hid hz
  have hd1 := hd.1
  have hd2 := hd.2
  clear h hz
  go_enter Try.func35, Try.ntmps35
  go_wp2
  go_loopw [5] (fun j wr => ∃ k : Nat, k ≤ ss.length ∧ j = .int .i64 k ∧ (ss.take k).all (fun s => decide ((s.size : Int) < d)) = true ∧ Below w.heap.size w wr ∧ BK wr w.heap.size #[.int .i64 a, .int .i64 b, .int .i64 d, .int .i64 m] 24 ∧ RS wr B (.slice A ss.length cap) ss) (fun j _ => ss.length - (intOf j).toNat)
  case atStart => exact ⟨0, Nat.zero_le _, rfl, rfl, (Below.refl _ _).alloc (Nat.le_refl _) _, BK.new _ _ _, HR.out⟩
  case round =>
    obtain ⟨k, hk, rfl, hall, hb, hbk, hrs⟩ := hrel
    have HA := Lib.hid hall
    have HB := Lib.hid hb
    have HBK := Lib.hid hbk
    have HRS := Lib.hid hrs
    have c2 := hbk.cell (i := 2) rfl
    clear hall hb hbk hrs
    by_cases hlt : k < ss.length
    · obtain ⟨x, rfl, _, c0⟩ := HRS.out.at_ hlt
      have hsz := HZ.out ss[k] (List.getElem_mem _)
      have HT := Lib.hid (all_snoc_s (p := fun s => decide ((s.size : Int) < d)) hlt)
      have HN := Lib.hid (fun h => all_bad (p := fun s => decide ((s.size : Int) < d)) hlt h)
      generalize ss[k] = t at *
      have hw1 : IntKind.i64.wrap (d - 1) = d - 1 := by rw [IntKind.wrap_i64]; omega
      by_cases hn : (t.size : Int) < d
      · have HT2 := Lib.hid (show (ss.take (k + 1)).all (fun s => decide ((s.size : Int) < d)) = true by rw [HT.out, HA.out, decide_eq_true hn]; rfl)
        have hn2 : decide (d - 1 < (t.size : Int)) = false := decide_eq_false (by omega)
        clear HT HN
        go_wp2_with fail
        go_region
        all_goals go_wp2
        all_goals go_roundw
        case rel => exact ⟨k + 1, by omega, by go_num, HT2.out, HB.out.drew, HBK.out.drew, HRS.out.keep fun _ _ => rfl⟩
        case measure => simp [intOf]; omega
      · have HE := Lib.hid (show msgsB d ss = false by unfold msgsB; rw [HN.out (decide_eq_false hn)]; rfl)
        have hn2 : decide (d - 1 < (t.size : Int)) = true := decide_eq_true (by omega)
        go_wp2_with fail
        go_region
        all_goals go_wp2
        all_goals go_ret
        exact ⟨by rw [HE.out]; rfl, HB.out.drew⟩
    · have HE := Lib.hid (show msgsB d ss = decide (ss.length ≤ 6) by
        have := HA.out
        rw [List.take_of_length_le (by omega)] at this
        unfold msgsB; rw [this]; rfl)
      by_cases h6 : ss.length ≤ 6
      · go_wp2
        go_ret
        exact ⟨by rw [HE.out, decide_eq_true h6]; simp; omega, HB.out⟩
      · go_wp2
        go_ret
        exact ⟨by rw [HE.out, decide_eq_false h6]; simp; omega, HB.out⟩
end Go.Proofs.Ytdnedoafgfpnfaa
