/- Plainly: what is cut is told whole; what a channel tells hangs on its own pieces alone (no program in this text). -/
import Derived.Test.YtplaagkcamjemaaMxA
namespace Go.Proofs.Ytplaagkcamjemaa
theorem head_piece (h : Nat) (l : List UInt8) (hh : h < 256) : headN (pieceL h l) = h := by
  unfold headN pieceL
  simp [UInt8.toNat_ofNat']
  omega
theorem getD_set_self {m : List (List UInt8)} {c : Nat} (h : c < m.length) (x : List UInt8) : (m.set c x).getD c [] = x := by
  rw [List.getD_eq_getElem?_getD, List.getElem?_set_self h]; rfl
theorem told_cut (ch size : Nat) (hc : ch < 3) (l : List UInt8) : ∀ m : List (List UInt8), m.length = 3 → (m.getD ch []).length + l.length ≤ 600 → allTold m (cutL ch size l) = [⟨(ch : Nat), m.getD ch [] ++ l⟩] := by
  fun_induction cutL ch size l with
  | case1 l h ih =>
    intro m h3 hl
    have e1 : headN (pieceL ch (l.take size)) = ch := head_piece _ _ (by omega)
    have e2 : chOf (pieceL ch (l.take size)) = ch := by unfold chOf; rw [e1]; omega
    have e3 : isPiece (pieceL ch (l.take size)) = true := by unfold isPiece; rw [e2]; simp [pieceL, hc]
    have e4 : joinL (m.getD ch []) (pieceL ch (l.take size)) = m.getD ch [] ++ l.take size := rfl
    have e5 : takeTold m (pieceL ch (l.take size)) = [] := by unfold takeTold; rw [e1, if_neg (by omega)]
    have e6 : takeOpen m (pieceL ch (l.take size)) = m.set ch (m.getD ch [] ++ l.take size) := by
      unfold takeOpen
      rw [e3, if_pos rfl, e2, e4, e1, if_neg (by rw [List.length_append, List.length_take]; omega)]
    rw [allTold, e5, List.nil_append, e6, ih _ (by rw [List.length_set]; exact h3) (by rw [getD_set_self (by omega), List.length_append, List.length_take, List.length_drop]; omega), getD_set_self (by omega), List.append_assoc, List.take_append_drop]
  | case2 l h =>
    intro m h3 hl
    have e1 : headN (pieceL (ch + 128) l) = ch + 128 := head_piece _ _ (by omega)
    have e2 : chOf (pieceL (ch + 128) l) = ch := by unfold chOf; rw [e1]; omega
    have e3 : isPiece (pieceL (ch + 128) l) = true := by unfold isPiece; rw [e2]; simp [pieceL, hc]
    have e4 : joinL (m.getD ch []) (pieceL (ch + 128) l) = m.getD ch [] ++ l := rfl
    rw [allTold, allTold, List.append_nil]
    unfold takeTold
    rw [e3, e2, e4, e1, if_pos (by rw [List.length_append]; exact ⟨rfl, by omega, by omega⟩)]
theorem cut_len (ch size : Nat) (l : List UInt8) (hs : 0 < size) : (cutL ch size l).length = if l.length = 0 then 1 else (l.length + size - 1) / size := by
  fun_induction cutL ch size l with
  | case1 l h ih =>
    rw [List.length_cons, ih, List.length_drop, if_neg (by omega), if_neg (by omega)]
    have e : l.length + size - 1 = (l.length - size + size - 1) + size := by omega
    rw [e, Nat.add_div_right _ hs]
  | case2 l h =>
    have hle : l.length ≤ size := by omega
    split
    · rfl
    · rw [show l.length + size - 1 = (l.length - 1) + size by omega, Nat.add_div_right _ hs, Nat.div_eq_of_lt (by omega)]; rfl
theorem cut_short (ch size : Nat) (l : List UInt8) (hs : 0 < size) : ∀ p ∈ cutL ch size l, p.length ≤ size + 1 := by
  fun_induction cutL ch size l with
  | case1 l h ih =>
    intro p hp
    rcases List.mem_cons.1 hp with rfl | hp
    · unfold pieceL; rw [List.length_cons, List.length_take]; omega
    · exact ih p hp
  | case2 l h =>
    intro p hp
    rw [List.mem_singleton.1 hp]
    unfold pieceL; rw [List.length_cons]; omega
/-- pieces of one channel -/
def ofCh (c : Nat) (t : List UInt8) : Bool := isPiece t && decide (chOf t = c)
/-- what one channel alone tells -/
def tellC (c : Nat) : List UInt8 → List (List UInt8) → List Ev
  | _, [] => []
  | p, t :: ts => (if 600 < (joinL p t).length then [] else if 128 ≤ headN t then [⟨(c : Nat), joinL p t⟩] else []) ++ tellC c (if 600 < (joinL p t).length ∨ 128 ≤ headN t then [] else joinL p t) ts
theorem tell_own (c : Nat) (hc : c < 3) : ∀ (ts : List (List UInt8)) (m : List (List UInt8)), m.length = 3 → ofL (allTold m ts) (c : Nat) = ofL (tellC c (m.getD c []) (ts.filter (ofCh c))) (c : Nat)
  | [], m, _ => rfl
  | t :: ts, m, h3 => by
    have ih := tell_own c hc ts (takeOpen m t) (by rw [takeOpen_len]; exact h3)
    rw [allTold, ofL_append, ih]
    by_cases h : ofCh c t = true
    · have h2 := h
      unfold ofCh at h2
      rw [Bool.and_eq_true, decide_eq_true_iff] at h2
      obtain ⟨hp, hch⟩ := h2
      rw [List.filter_cons_of_pos h, tellC, ofL_append]
      have e1 : takeTold m t = if 600 < (joinL (m.getD c []) t).length then [] else if 128 ≤ headN t then [⟨(c : Nat), joinL (m.getD c []) t⟩] else [] := by
        unfold takeTold
        rw [hp, hch]
        generalize joinL (m.getD c []) t = J
        by_cases a : 600 < J.length
        · rw [if_pos a, if_neg (by omega)]
        · rw [if_neg a]
          by_cases b : 128 ≤ headN t
          · rw [if_pos b, if_pos ⟨rfl, a, b⟩]
          · rw [if_neg b, if_neg (by omega)]
      have e2 : (takeOpen m t).getD c [] = if 600 < (joinL (m.getD c []) t).length ∨ 128 ≤ headN t then [] else joinL (m.getD c []) t := by
        unfold takeOpen
        rw [if_pos hp, hch, getD_set_self (by omega)]
      rw [e1, e2]
    · rw [List.filter_cons_of_neg h]
      have hne : ¬ (isPiece t = true ∧ chOf t = c) := by
        intro hh; apply h; unfold ofCh; rw [hh.1, decide_eq_true hh.2]; rfl
      have e1 : ofL (takeTold m t) (c : Nat) = [] := by
        unfold takeTold
        split
        · rename_i hh
          have : ¬ (chOf t : Int) = (c : Int) := fun e => hne ⟨hh.1, by omega⟩
          unfold ofL
          simp [this]
        · rfl
      have e2 : (takeOpen m t).getD c [] = m.getD c [] := by
        unfold takeOpen
        split
        · rename_i hp
          rw [List.getD_eq_getElem?_getD, List.getElem?_set_ne (fun e => hne ⟨hp, e⟩), ← List.getD_eq_getElem?_getD]
        · rfl
      rw [e1, e2, List.nil_append]
theorem weave_filter {α : Type} (P : α → Bool) : ∀ (a b : List α) (ts : List Bool) (i : Nat), (∀ x ∈ b, P x = false) → (weaveL a b ts i).filter P = a.filter P
  | a, [], ts, i, _ => by
    cases a with
    | nil => rw [weaveL]
    | cons x a =>
      rw [weaveL]
      intro e; cases e
  | [], y :: b, ts, i, h => by
    rw [weaveL]
    · rw [List.filter_eq_nil_iff.2 (fun x hx => by rw [h x hx]; decide)]; rfl
  | x :: a, y :: b, ts, i, h => by
    rw [weaveL]
    split
    · rw [List.filter_cons, List.filter_cons, weave_filter P a (y :: b) ts (i + 1) h]
    · rw [List.filter_cons_of_neg (by rw [h y (by simp)]; decide), weave_filter P (x :: a) b ts (i + 1) (fun z hz => h z (by simp [hz]))]
theorem weave_filter' {α : Type} (P : α → Bool) : ∀ (a b : List α) (ts : List Bool) (i : Nat), (∀ x ∈ a, P x = false) → (weaveL a b ts i).filter P = b.filter P
  | a, [], ts, i, h => by
    have hn : a.filter P = [] := List.filter_eq_nil_iff.2 (fun x hx => by rw [h x hx]; decide)
    cases a with
    | nil => rw [weaveL]
    | cons x a =>
      rw [weaveL]
      · exact hn
      · intro e; cases e
  | [], y :: b, ts, i, h => by rw [weaveL]
  | x :: a, y :: b, ts, i, h => by
    rw [weaveL]
    split
    · rw [List.filter_cons_of_neg (by rw [h x (by simp)]; decide), weave_filter' P a (y :: b) ts (i + 1) (fun z hz => h z (by simp [hz]))]
    · rw [List.filter_cons, List.filter_cons, weave_filter' P (x :: a) b ts (i + 1) h]
end Go.Proofs.Ytplaagkcamjemaa
