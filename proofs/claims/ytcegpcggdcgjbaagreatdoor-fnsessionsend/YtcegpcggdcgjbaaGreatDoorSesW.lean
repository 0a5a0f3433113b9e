/- A line cut at its spaces, in the program; no word of it is empty. -/
import Derived.Test.YtcegpcggdcgjbaaGreatDoorSesP
import Derived.Test.YtcegpcggdcgjbaaGreatDoorSesS
import Derived.Test.YtcegpcggdcgjbaaGreatDoorOs
import Derived.Lib.SplitLaws
import Derived.Lib.IndexBytes
namespace Go.Proofs.YtcegpcggdcgjbaaGreatDoor
open Go.ChangeShapes Go.WideShapes Go.ChangeAt Go.RowKit
theorem cut_freeS {e : UInt8} (p : List UInt8) (h : e ∉ p) : ∀ (ps : List (List UInt8)) (q : List UInt8), p.foldl (cutG e) (ps, q) = (ps, q ++ p) := by
  induction p with
  | nil => intro ps q; simp
  | cons b p ih =>
    intro ps q
    rw [List.mem_cons, not_or] at h
    rw [List.foldl_cons]
    have e1 : cutG e (ps, q) b = (ps, q ++ [b]) := by unfold cutG; rw [if_neg (fun x => h.1 x.symm)]
    rw [e1, ih h.2]
    simp
theorem cut_preS {e : UInt8} (l : List UInt8) : ∀ (ps : List (List UInt8)) (q : List UInt8), l.foldl (cutG e) (ps, q) = (ps ++ (l.foldl (cutG e) ([], q)).1, (l.foldl (cutG e) ([], q)).2) := by
  induction l with
  | nil => intro ps q; simp
  | cons b l ih =>
    intro ps q
    rw [List.foldl_cons, List.foldl_cons]
    unfold cutG
    split
    · rw [← show cutG e = fun p b => if b = e then (p.1 ++ [p.2], []) else (p.1, p.2 ++ [b]) from rfl]
      rw [ih, ih ([] ++ [q])]
      simp
    · rw [← show cutG e = fun p b => if b = e then (p.1 ++ [p.2], []) else (p.1, p.2 ++ [b]) from rfl]
      rw [ih]
theorem words_free {p : List UInt8} (h : (32 : UInt8) ∉ p) : wordsL p = [p] := by
  unfold wordsL cutS
  rw [cut_freeS p h]
  simp
theorem words_split {p : List UInt8} (r : List UInt8) (h : (32 : UInt8) ∉ p) : wordsL (p ++ 32 :: r) = p :: wordsL r := by
  unfold wordsL cutS
  rw [List.foldl_append, cut_freeS p h, List.foldl_cons]
  have e1 : cutG 32 ([], [] ++ p) 32 = ([p], []) := by unfold cutG; rw [if_pos rfl]; simp
  rw [e1, cut_preS]
  simp
theorem splitK_words : ∀ (n : Nat) (l : List UInt8), l.length ≤ n → Lib.splitK [32] 0 (l.count 32) l = wordsL l := by
  intro n
  induction n with
  | zero =>
    intro l hl
    obtain rfl : l = [] := List.eq_nil_of_length_eq_zero (by omega)
    rfl
  | succ n ih =>
    intro l hl
    by_cases hm : (32 : UInt8) ∈ l
    · obtain ⟨k, hk, hlt, he, hno⟩ := idx_split hm
      have hc : l.count 32 = (l.drop (k + 1)).count 32 + 1 := by
        have h0 := congrArg (List.count 32) he
        rw [List.count_append, List.count_cons_self, List.count_eq_zero_of_not_mem hno] at h0
        omega
      rw [hc, Lib.splitK, Lib.index_one, hk, if_neg (by rw [beq_iff_eq]; omega)]
      have ek : ((k : Int)).toNat = k := by omega
      rw [ek]
      show l.take (k + 0) :: Lib.splitK [32] 0 _ (l.drop (k + 1)) = _
      rw [ih (l.drop (k + 1)) (by rw [List.length_drop]; omega), Nat.add_zero, ← words_split _ hno, ← he]
    · rw [words_free hm, List.count_eq_zero_of_not_mem hm]
      rfl
def sp32 : ByteArray := ⟨#[32]⟩
theorem count_sp (s : ByteArray) : Lib.countB s sp32 = s.data.toList.count 32 := by
  show Lib.count s.data.toList [32] = _
  rw [Lib.count_one]
theorem split_words (s : ByteArray) : (Lib.splitB sp32 0 (Lib.countB s sp32) s).map (fun t => t.data.toList) = wordsL s.data.toList := by
  rw [Lib.splitB_data, count_sp]
  exact splitK_words _ _ (Nat.le_refl _)
theorem info_str9 : (Tryz.prog.info? (laysSplit_ren.t 9)).map (fun i => (i.zero, i.size, i.bytes)) = some (some (.string ByteArray.empty), 1, 16) := by kernel_rfl
set_option maxHeartbeats 1000000 in
theorem split_row (s : ByteArray) (w : World) (hs : s.size ≤ 1048576) :
    Calls Tryz.prog 17 #[.string s, .string ⟨#[32]⟩] w fun e w' =>
      e = .returned (.slice (some ⟨w.heap.size, 0, none⟩) (Lib.countB s sp32 + 1) (Lib.countB s sp32 + 1)) ∧ w' = w.alloc (.cells ((Lib.splitB sp32 0 (Lib.countB s sp32) s).map Value.string).toArray 9) := by
  have hle := Lib.countB_le sp32 (by decide) s.size s (Nat.le_refl _)
  have hlen := Lib.splitB_all sp32 (by decide) 0 _ s rfl
  have c := Any.strings_genSplit_core (P := Tryz.prog) (ρ := laysSplit_ren) { laysSplit with } info_str9 s sp32 0 (-1) (Lib.countB s sp32 + 1) w (by omega) (by decide) (Nat.zero_le _)
    (fun x c _ => (Any.strings_Index_one { laysSplit with } x 32 _).mono fun e w' ⟨he, hw⟩ => ⟨by rw [he]; show _ = Ending.returned (Value.int .i64 (Lib.index x.data.toList [32])); rw [Lib.index_one], hw⟩)
    ((Any.strings_Count_one { laysSplit with } s 32 w).mono fun e w' ⟨he, hw⟩ => ⟨by rw [he]; show _ = Ending.returned (Value.int .i64 ((Lib.count s.data.toList [32] : Nat) : Int)); rw [Lib.count_one]; rfl, hw⟩)
    (by decide) (by decide) (by rw [if_pos (by decide)]; omega)
  rw [Nat.add_sub_cancel, hlen] at c
  have e2 : Lib.cellsOf (Lib.splitB sp32 0 (Lib.countB s sp32) s) (Lib.countB s sp32 + 1) = ((Lib.splitB sp32 0 (Lib.countB s sp32) s).map Value.string).toArray := by rw [← hlen]; exact Lib.cellsOf_full _
  rw [e2] at c
  have HC := Lib.hid (show Calls Tryz.prog 31 #[.string s, .string ⟨#[32]⟩, .int .i64 0, .int .i64 (-1)] w fun e w' => e = .returned (.slice (some ⟨w.heap.size, 0, none⟩) (Lib.countB s sp32 + 1) (Lib.countB s sp32 + 1)) ∧ w' = w.alloc (.cells ((Lib.splitB sp32 0 (Lib.countB s sp32) s).map Value.string).toArray 9) from c)
  clear c e2 hlen hle
  go_enter Tryz.func17, Tryz.ntmps17
  go_wp2_with fail
  refine HC.out.mono ?_
  rintro e w1 ⟨rfl, hw⟩
  have HW := Lib.hid hw
  clear hw
  go_wp2
  go_ret
  exact ⟨rfl, HW.out⟩
def SplitPost (w : World) (s : ByteArray) (e : Ending) (w' : World) : Prop := ∃ v ss, e = .returned v ∧ OS w' w.heap.size v ss ∧ ss.map (fun t => t.data.toList) = wordsL s.data.toList ∧ Below w.heap.size w w'
theorem split_any (s : ByteArray) (w : World) (hs : s.size ≤ 1048576) :
    Calls Tryz.prog 17 #[.string s, .string ⟨#[32]⟩] w (SplitPost w s) := by
  have hlen := Lib.splitB_all sp32 (by decide) 0 _ s rfl
  have hle := Lib.countB_le sp32 (by decide) s.size s (Nat.le_refl _)
  refine (split_row s w hs).mono ?_
  rintro e w' ⟨rfl, rfl⟩
  refine ⟨_, Lib.splitB sp32 0 (Lib.countB s sp32) s, rfl, ?_, split_words s, (Below.refl _ _).alloc (Nat.le_refl _) _⟩
  unfold OS
  rw [← hlen]
  refine ⟨by simp, .inr ⟨w.heap.size, _, _, rfl, Nat.le_refl _, heap_alloc_new w _, Nat.le_refl _, by rw [hlen]; unfold maxLen; omega, by simp, by rw [Nat.mul_one]; show List.take _ (List.map Value.string _) = _; rw [List.take_of_length_le (by simp)]; rfl⟩⟩
theorem contains_any (v : Value) (ss : List ByteArray) (w : World) (base : Nat) (h : OS w base v ss) (h1 : 1 ≤ ss.length) (hl : ss.length ≤ 1048576) (hne : ∀ t ∈ ss, t ≠ ⟨#[]⟩) :
    Calls Tryz.prog 27 #[v, .string ⟨#[]⟩] w fun e w' => e = .returned (.bool false) ∧ w = w' := by
  obtain ⟨g, cap, rfl, _, _⟩ := h.pos h1
  refine (Any.slices_Contains_string laysContains g 0 ss.length cap ss ⟨#[]⟩ w (Nat.le_refl _) (by omega) (fun j hj => ?_)).mono ?_
  · rw [Nat.zero_add, h.cellAt hj]
    simp [List.getD, List.getElem?_eq_getElem hj]
  · rintro e w' ⟨rfl, hw⟩
    refine ⟨?_, hw.symm⟩
    rw [List.take_length]
    have : Lib.containsS ss ⟨#[]⟩ = false := by
      cases hb : Lib.containsS ss ⟨#[]⟩ with
      | false => rfl
      | true => exact absurd rfl (hne _ ((Lib.containsS_iff _ _).1 hb))
    rw [this]
end Go.Proofs.YtcegpcggdcgjbaaGreatDoor
