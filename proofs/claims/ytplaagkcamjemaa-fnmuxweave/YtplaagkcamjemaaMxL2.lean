/- Plainly: two channels woven with a third don't meddle (no program in this text). -/
import Derived.Test.YtplaagkcamjemaaMxL
namespace Go.Proofs.Ytplaagkcamjemaa
def not2 (t : List UInt8) : Bool := !decide (chOf t = 2)
theorem cut_ch (ch size : Nat) (hc : ch < 3) (l : List UInt8) : ∀ p ∈ cutL ch size l, chOf p = ch := by
  fun_induction cutL ch size l with
  | case1 l h ih =>
    intro p hp
    rcases List.mem_cons.1 hp with rfl | hp
    · unfold chOf; rw [head_piece _ _ (by omega)]; omega
    · exact ih p hp
  | case2 l h =>
    intro p hp
    rw [List.mem_singleton.1 hp]
    unfold chOf; rw [head_piece _ _ (by omega)]; omega
theorem weave_map {α β : Type} (f : α → β) : ∀ (a b : List α) (ts : List Bool) (i : Nat), weaveL (a.map f) (b.map f) ts i = (weaveL a b ts i).map f
  | [], b, ts, i => by rw [weaveL]; simp only [List.map_nil]; rw [weaveL]
  | x :: a, [], ts, i => by
    rw [weaveL]
    · simp only [List.map_cons, List.map_nil]
      rw [weaveL]
      intro e; cases e
    · intro e; cases e
  | x :: a, y :: b, ts, i => by
    rw [weaveL]
    simp only [List.map_cons]
    rw [weaveL]
    have h1 := weave_map f a (y :: b) ts (i + 1)
    have h2 := weave_map f (x :: a) b ts (i + 1)
    simp only [List.map_cons] at h1 h2
    rw [h1, h2]
    split <;> rfl
theorem strs_weave (a b : List (List UInt8)) (ts : List Bool) : weaveL (strs a) (strs b) ts 0 = strs (weaveL a b ts 0) := weave_map _ a b ts 0
theorem weave_tells (one : List (List UInt8)) (h : ∀ p ∈ one, not2 p = true) (s : List UInt8) (hs : s.length ≤ 600) (ts : List Bool) :
    ofL (allTold mux0 (weaveL one (cutL 2 3 s) ts 0)) (2 : Nat) = [s] ∧ ∀ c : Nat, c < 2 → ofL (allTold mux0 (weaveL one (cutL 2 3 s) ts 0)) (c : Nat) = ofL (allTold mux0 one) (c : Nat) := by
  have hb : ∀ p ∈ cutL 2 3 s, chOf p = 2 := cut_ch 2 3 (by omega) s
  constructor
  · rw [tell_own 2 (by omega) _ mux0 rfl, weave_filter' (ofCh 2), ← tell_own 2 (by omega) _ mux0 rfl, told_cut 2 3 (by omega) s mux0 rfl (by simpa [mux0] using hs)]
    · rfl
    · intro x hx
      have := h x hx
      unfold not2 at this
      unfold ofCh
      cases hd : decide (chOf x = 2) with
      | false => rw [Bool.and_false]
      | true => rw [hd] at this; cases this
  · intro c hc
    rw [tell_own c (by omega) _ mux0 rfl, weave_filter (ofCh c), ← tell_own c (by omega) _ mux0 rfl]
    intro x hx
    unfold ofCh
    rw [hb x hx, decide_eq_false (show ¬ (2 = c) by omega), Bool.and_false]
theorem cut_size (s : ByteArray) (hs : s.size ≤ 40) : cutM 2 s.data.toList 3 = cutL 2 3 s.data.toList := by
  unfold cutM
  rw [if_pos]
  · rfl
  · have : s.data.toList.length = s.size := by simp
    exact decide_eq_true (by omega)
end Go.Proofs.Ytplaagkcamjemaa
