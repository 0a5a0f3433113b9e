/- Draws for the laws of channels; slices of strings compared. -/
import Derived.Test.YtplaagkcamjemaaMxT
import Derived.Test.YtplaagkcamjemaaMxP
import Derived.Test.YtplaagkcamjemaaMxD
namespace Go.Proofs.Ytplaagkcamjemaa
open Go.ChangeShapes Go.WideShapes Go.ChangeAt Go.RowKit
/-- what a channel tells: of a channel that there is, not too long -/
def toldOk (e : Ev) : Prop := 0 ≤ e.kind ∧ e.kind ≤ 2 ∧ e.text.length ≤ 600
theorem takeTold_ok (m : List (List UInt8)) (t : List UInt8) : ∀ e ∈ takeTold m t, toldOk e := by
  unfold takeTold
  split
  · rename_i h
    intro e he
    rw [List.mem_singleton.1 he]
    have h1 := of_decide_eq_true h.1
    unfold toldOk
    simp only
    omega
  · intro e he; simp at he
theorem allTold_ok : ∀ (m ts : List (List UInt8)), ∀ e ∈ allTold m ts, toldOk e
  | _, [], e, he => by simp [allTold] at he
  | m, t :: ts, e, he => by
    rw [allTold, List.mem_append] at he
    rcases he with h | h
    · exact takeTold_ok m t e h
    · exact allTold_ok _ ts e h
theorem ofL_cons (e : Ev) (l : List Ev) (ch : Int) : (ofL (e :: l) ch).length = (if e.kind = ch then 1 else 0) + (ofL l ch).length := by
  unfold ofL
  by_cases h : e.kind = ch
  · simp [h]; omega
  · simp [h]
theorem ofL_sum : ∀ l : List Ev, (∀ e ∈ l, toldOk e) → (ofL l 0).length + (ofL l 1).length + (ofL l 2).length = l.length
  | [], _ => rfl
  | e :: l, h => by
    have ih := ofL_sum l (fun x hx => h x (by simp [hx]))
    have h1 := h e (by simp)
    unfold toldOk at h1
    rw [ofL_cons, ofL_cons, ofL_cons, List.length_cons]
    have : e.kind = 0 ∨ e.kind = 1 ∨ e.kind = 2 := by omega
    rcases this with e0 | e0 | e0 <;> rw [e0] <;> simp <;> omega
set_option maxRecDepth 100000 in
set_option maxHeartbeats 1000000 in
theorem ctTexts_same (v v' : Value) (ss : List ByteArray) (w : World) (B B' : Nat) (h : RS w B v ss) (h' : RS w B' v' ss) (hB : B ≤ w.heap.size) (hB' : B' ≤ w.heap.size) (hl : ss.length ≤ 1048576) :
    Calls Try.prog 11 #[v, v'] w fun e w' => e = .returned (.bool true) ∧ Below w.heap.size w w' := by
  obtain ⟨a, cap, rfl⟩ := h.shape
  obtain ⟨a', cap', rfl⟩ := h'.shape
  have H := Lib.hid h
  have H' := Lib.hid h'
  clear h h'
  go_enter Try.func11, Try.ntmps11
  go_wp2
  go_loopw [5] (fun j wr => ∃ k : Nat, k ≤ ss.length ∧ j = .int .i64 k ∧ Below w.heap.size w wr) (fun j _ => ss.length - (intOf j).toNat)
  case atStart => exact ⟨0, Nat.zero_le _, rfl, Below.refl _ _⟩
  case round =>
    obtain ⟨k, hk, rfl, hb⟩ := hrel
    have HB := Lib.hid hb
    by_cases hlt : k < ss.length
    · obtain ⟨x, rfl, _, c0⟩ := (H.out.below (hb.mono hB)).at_ hlt
      obtain ⟨x', rfl, _, c0'⟩ := (H'.out.below (hb.mono hB')).at_ hlt
      clear hb
      generalize ss[k] = t at *
      go_wp2_with fail
      go_region
      all_goals
        go_wp2
        go_roundw
        case rel => exact ⟨k + 1, by omega, by go_num, HB.out.drew⟩
        case measure => simp [intOf]; omega
    · go_wp2
      go_ret
      exact ⟨rfl, HB.out⟩
def DrawOfPost (w : World) (e : Ending) (w' : World) : Prop := ∃ v l ch, e = .returned (.tuple #[v, .int .i64 ch]) ∧ OE w' w.heap.size v l ∧ l.length ≤ 200 ∧ (∀ e ∈ l, toldOk e) ∧ Below w.heap.size w w'
end Go.Proofs.Ytplaagkcamjemaa
