/- Channels, plainly: what is cut, taken, told, woven (no program in this text). -/
import Derived.Test.YtplaagkcamjemaaTEv
namespace Go.Proofs.Ytplaagkcamjemaa
def strs (ls : List (List UInt8)) : List ByteArray := ls.map fun l => ⟨l.toArray⟩
theorem strs_len (ls : List (List UInt8)) : (strs ls).length = ls.length := by simp [strs]
theorem strs_append (a b : List (List UInt8)) : strs (a ++ b) = strs a ++ strs b := by simp [strs]
def txts (ss : List ByteArray) : List (List UInt8) := ss.map fun s => s.data.toList
theorem strs_txts (ss : List ByteArray) : strs (txts ss) = ss := by
  simp only [strs, txts, List.map_map]
  have : ((fun l : List UInt8 => (⟨l.toArray⟩ : ByteArray)) ∘ fun s : ByteArray => s.data.toList) = id := by funext s; rfl
  rw [this, List.map_id]
theorem txts_strs (ls : List (List UInt8)) : txts (strs ls) = ls := by
  simp only [strs, txts, List.map_map]
  have : ((fun s : ByteArray => s.data.toList) ∘ fun l : List UInt8 => (⟨l.toArray⟩ : ByteArray)) = id := by funext l; rfl
  rw [this, List.map_id]
/-- a piece: a header and bytes -/
def pieceL (h : Nat) (l : List UInt8) : List UInt8 := UInt8.ofNat h :: l
def cutL (ch size : Nat) (l : List UInt8) : List (List UInt8) :=
  if _h : size < l.length ∧ 0 < size then pieceL ch (l.take size) :: cutL ch size (l.drop size) else [pieceL (ch + 128) l]
termination_by l.length
decreasing_by rw [List.length_drop]; omega
theorem cutL_more {ch size : Nat} {l : List UInt8} (h : size < l.length) (h0 : 0 < size) : cutL ch size l = pieceL ch (l.take size) :: cutL ch size (l.drop size) := by rw [cutL, dif_pos ⟨h, h0⟩]
theorem cutL_last {ch size : Nat} {l : List UInt8} (h : l.length ≤ size) : cutL ch size l = [pieceL (ch + 128) l] := by rw [cutL, dif_neg (by omega)]
def cutOkB (ch : Int) (n : Nat) (size : Int) : Bool := decide (0 ≤ ch ∧ ch ≤ 2 ∧ n ≤ 40 ∧ 1 ≤ size ∧ size ≤ 40)
def cutM (ch : Int) (l : List UInt8) (size : Int) : List (List UInt8) := if cutOkB ch l.length size = true then cutL ch.toNat size.toNat l else []
theorem cutL_len (ch size : Nat) (l : List UInt8) : (cutL ch size l).length ≤ l.length + 1 := by
  fun_induction cutL ch size l with
  | case1 l h ih => rw [List.length_cons]; rw [List.length_drop] at ih; omega
  | case2 l h => simp
theorem cutM_len (ch : Int) (l : List UInt8) (size : Int) : (cutM ch l size).length ≤ 41 := by
  unfold cutM
  split
  · rename_i h
    have h1 := of_decide_eq_true h
    have := cutL_len ch.toNat size.toNat l
    omega
  · simp
/-- what came so far of a channel, and a piece: what is open then, and what is told -/
def headN (t : List UInt8) : Nat := (t.headD 0).toNat
def chOf (t : List UInt8) : Nat := headN t % 128
def isPiece (t : List UInt8) : Bool := decide (t ≠ [] ∧ chOf t < 3)
def joinL (open_ t : List UInt8) : List UInt8 := open_ ++ t.drop 1
def takeOpen (m : List (List UInt8)) (t : List UInt8) : List (List UInt8) :=
  if isPiece t = true then m.set (chOf t) (if 600 < (joinL (m.getD (chOf t) []) t).length ∨ 128 ≤ headN t then [] else joinL (m.getD (chOf t) []) t) else m
def takeTold (m : List (List UInt8)) (t : List UInt8) : List Ev :=
  if isPiece t = true ∧ ¬ 600 < (joinL (m.getD (chOf t) []) t).length ∧ 128 ≤ headN t then [⟨(chOf t : Nat), joinL (m.getD (chOf t) []) t⟩] else []
def muxOkB (m : List (List UInt8)) : Bool := decide (m.length = 3) && m.all fun l => decide (l.length ≤ 600)
def mux0 : List (List UInt8) := [[], [], []]
theorem takeOpen_len (m : List (List UInt8)) (t : List UInt8) : (takeOpen m t).length = m.length := by
  unfold takeOpen; split <;> simp
theorem takeOpen_ok {m : List (List UInt8)} (h : muxOkB m = true) (t : List UInt8) : muxOkB (takeOpen m t) = true := by
  unfold muxOkB at h ⊢
  rw [Bool.and_eq_true, decide_eq_true_eq, List.all_eq_true] at h ⊢
  refine ⟨by rw [takeOpen_len]; exact h.1, fun l hl => ?_⟩
  unfold takeOpen at hl
  split at hl
  · rcases List.mem_or_eq_of_mem_set hl with hm | rfl
    · exact h.2 l hm
    · split
      · simp
      · rename_i hh; exact decide_eq_true (by omega)
  · exact h.2 l hl
theorem takeTold_len (m : List (List UInt8)) (t : List UInt8) : (takeTold m t).length ≤ 1 := by
  unfold takeTold; split <;> simp
/-- all pieces, one behind the other -/
def allOpen : List (List UInt8) → List (List UInt8) → List (List UInt8)
  | m, [] => m
  | m, t :: ts => allOpen (takeOpen m t) ts
def allTold : List (List UInt8) → List (List UInt8) → List Ev
  | _, [] => []
  | m, t :: ts => takeTold m t ++ allTold (takeOpen m t) ts
theorem allTold_append : ∀ (m a b : List (List UInt8)), allTold m (a ++ b) = allTold m a ++ allTold (allOpen m a) b
  | m, [], b => rfl
  | m, t :: a, b => by
    rw [List.cons_append, allTold, allTold, allOpen, allTold_append (takeOpen m t) a b, List.append_assoc]
theorem allOpen_append : ∀ (m a b : List (List UInt8)), allOpen m (a ++ b) = allOpen (allOpen m a) b
  | m, [], b => rfl
  | m, t :: a, b => by rw [List.cons_append, allOpen, allOpen, allOpen_append (takeOpen m t) a b]
theorem allOpen_ok : ∀ (m a : List (List UInt8)), muxOkB m = true → muxOkB (allOpen m a) = true
  | _, [], h => h
  | m, t :: a, h => allOpen_ok (takeOpen m t) a (takeOpen_ok h t)
theorem allTold_len : ∀ (m a : List (List UInt8)), (allTold m a).length ≤ a.length
  | _, [] => Nat.le_refl _
  | m, t :: a => by
    have h1 := takeTold_len m t
    have h2 := allTold_len (takeOpen m t) a
    rw [allTold, List.length_append, List.length_cons]
    omega
/-- woven -/
def weaveL {α : Type} (a b : List α) (turns : List Bool) (i : Nat) : List α :=
  match a, b with
  | [], b => b
  | a, [] => a
  | x :: a, y :: b => if turns.getD i false = true then x :: weaveL a (y :: b) turns (i + 1) else y :: weaveL (x :: a) b turns (i + 1)
termination_by a.length + b.length
theorem weaveL_len {α : Type} (a b : List α) (turns : List Bool) (i : Nat) : (weaveL a b turns i).length = a.length + b.length := by
  fun_induction weaveL a b turns i <;> simp_all <;> omega
/-- what one channel told -/
def ofL (l : List Ev) (ch : Int) : List (List UInt8) := (l.filter fun e => decide (e.kind = ch)).map (·.text)
theorem ofL_append (a b : List Ev) (ch : Int) : ofL (a ++ b) ch = ofL a ch ++ ofL b ch := by simp [ofL]
end Go.Proofs.Ytplaagkcamjemaa
