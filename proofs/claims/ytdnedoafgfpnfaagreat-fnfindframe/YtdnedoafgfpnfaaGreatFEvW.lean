/- Whether events are frames, and which. -/
import Derived.Test.YtdnedoafgfpnfaaGreatFEvT
import Derived.Test.YtdnedoafgfpnfaaGreatStrs
namespace Go.Proofs.YtdnedoafgfpnfaaGreat
open Go.ChangeShapes Go.WideShapes Go.ChangeAt Go.RowKit
def bitsL (ss : List ByteArray) : List (List UInt8) := ss.map (·.data.toList)
def evsOf (ss : List ByteArray) : List Ev := (bitsL ss).map (Ev.mk 1)
theorem evsOf_len (ss : List ByteArray) : (evsOf ss).length = ss.length := by simp [evsOf, bitsL]
theorem evsOf_at (ss : List ByteArray) (k : Nat) (h : k < ss.length) : (evsOf ss)[k]'(by rw [evsOf_len]; exact h) = ⟨1, ss[k].data.toList⟩ := by simp [evsOf, bitsL]
set_option maxRecDepth 100000 in
set_option maxHeartbeats 2000000 in
theorem ctWhole_same (v v' : Value) (ss : List ByteArray) (w : World) (lo B B' : Nat) (h : RE w lo B v (evsOf ss)) (h' : RS w B' v' ss) (hB : B ≤ w.heap.size) (hB' : B' ≤ w.heap.size) (hl : ss.length ≤ 1000000) :
    Calls Tryz.prog 17 #[v, v'] w fun e w' => e = .returned (.bool true) ∧ Below w.heap.size w w' := by
  obtain ⟨a, cap, rfl⟩ := h.shape
  obtain ⟨a', cap', rfl⟩ := h'.shape
  have H := Lib.hid h
  have H' := Lib.hid h'
  clear h h'
  rw [evsOf_len] at H
  rw [evsOf_len]
  go_enter Tryz.func17, Tryz.ntmps17
  go_wp2
  go_loopw [5] (fun j wr => ∃ k : Nat, k ≤ ss.length ∧ j = .int .i64 k ∧ Below w.heap.size w wr) (fun j _ => ss.length - (intOf j).toNat)
  case atStart => exact ⟨0, Nat.zero_le _, rfl, Below.refl _ _⟩
  case round =>
    obtain ⟨k, hk, rfl, hb⟩ := hrel
    have HB := Lib.hid hb
    by_cases hlt : k < ss.length
    · have hre := H.out.below (hb.mono hB)
      rw [show Value.slice a ss.length cap = .slice a (evsOf ss).length cap by rw [evsOf_len]] at hre
      obtain ⟨x, rfl, _, _, c0, c1⟩ := RE.at_ hre (k := k) (by rw [evsOf_len]; exact hlt)
      obtain ⟨x', rfl, _, d0⟩ := (H'.out.below (hb.mono hB')).at_ hlt
      rw [evsOf_at ss k hlt] at c0 c1
      simp only [Lib.mk_data] at c0 c1
      clear hb hre
      generalize ss[k] = t at *
      go_wp2_with fail
      go_region
      all_goals
        clear c0 c1 d0
        go_wp2
        go_roundw
        case rel => exact ⟨k + 1, by omega, by go_num, HB.out.drew⟩
        case measure => simp [intOf]; omega
    · go_wp2
      go_ret
      exact ⟨rfl, HB.out⟩
end Go.Proofs.YtdnedoafgfpnfaaGreat
