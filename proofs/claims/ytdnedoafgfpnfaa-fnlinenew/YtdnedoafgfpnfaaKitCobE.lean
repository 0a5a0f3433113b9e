/- CobsPut of the model. -/
import Derived.Test.YtdnedoafgfpnfaaKitCob
import Derived.Test.YtdnedoafgfpnfaaDrawD
namespace Go.Proofs.Ytdnedoafgfpnfaa
open Go.ChangeShapes Go.WideShapes Go.ChangeAt Go.RowKit
theorem blk_at {l : List UInt8} {k : Nat} (hk : k ≤ blkN l) (h4 : k < 254) (hl : k < l.length) : (l[k] ≠ 0 ↔ k < blkN l) := by
  have hi := idx_blk l
  have hg : (l.take 254)[k]? = some l[k] := by rw [List.getElem?_take_of_lt h4, List.getElem?_eq_getElem hl]
  by_cases hz : blkN l < 254 ∧ blkN l < l.length
  · rw [if_pos hz] at hi
    obtain ⟨h1, h2⟩ := Lib.indexByte_some hi
    constructor
    · intro hne
      rcases Nat.lt_or_ge k (blkN l) with h | h
      · exact h
      · have e : k = blkN l := by omega
        rw [← e, hg] at h1
        simp at h1
        exact absurd h1 hne
    · intro h e
      apply h2 k h
      rw [hg, e]
  · rw [if_neg hz] at hi
    have h3 := Lib.indexByte_none hi k
    rw [hg] at h3
    have hb := blkN_le l
    exact ⟨fun _ => by omega, fun _ e => h3 (by rw [e])⟩
theorem string_one (n : Nat) (hn : n ≤ 254) (u : World) : (convert 22 9 (.slice (some ⟨u.heap.size, 0, none⟩) 1 1)).run Try.prog (u.alloc (.cells #[.int .u8 ((n : Int) + 1)] 5)) = .ok (.string ⟨#[UInt8.ofNat (n + 1)]⟩) (u.alloc (.cells #[.int .u8 ((n : Int) + 1)] 5)) := by
  have h := run_string_one u (UInt8.ofNat (n + 1))
  have e : ((UInt8.ofNat (n + 1)).toNat : Int) = (n : Int) + 1 := by rw [UInt8.toNat_ofNat']; omega
  rw [e] at h
  exact h
theorem string_oneD (n : Nat) (hn : n ≤ 254) (u : World) : (convert 22 9 (.slice (some ⟨u.heap.size, 0, none⟩) 1 1)).run Try.prog (u.alloc (.cells #[.int .u8 ((n : Int) + 1)] 5)).drew = .ok (.string ⟨#[UInt8.ofNat (n + 1)]⟩) (u.alloc (.cells #[.int .u8 ((n : Int) + 1)] 5)).drew := by
  have e : ((UInt8.ofNat (n + 1)).toNat : Int) = (n : Int) + 1 := by rw [UInt8.toNat_ofNat']; omega
  have h := run_string_of_OB (P := Try.prog) (u.alloc (.cells #[.int .u8 ((UInt8.ofNat (n + 1)).toNat : Int)] 5)).drew 22 9 5 u.heap.size (.slice (some ⟨u.heap.size, 0, none⟩) 1 1) [UInt8.ofNat (n + 1)] Try.underlying22 Try.underlying5 Try.underlying9
    (OB.drew (.inr ⟨u.heap.size, 1, #[.int .u8 ((UInt8.ofNat (n + 1)).toNat : Int)], (0, 0), rfl, Nat.le_refl _, heap_alloc_new u _, .inl rfl, Nat.le_refl _, by unfold maxLen; omega, rfl, rfl⟩))
  rw [e] at h
  exact h
theorem string_c1 (u : World) : (convert 22 9 (.slice (some ⟨u.heap.size, 0, none⟩) 1 1)).run Try.prog (u.alloc (.cells #[.int .u8 1] 5)) = .ok (.string ⟨#[1]⟩) (u.alloc (.cells #[.int .u8 1] 5)) := run_string_one u 1
theorem string_c1D (u : World) (x : Int) : (convert 22 9 (.slice (some ⟨u.heap.size + 1, 0, none⟩) 1 1)).run Try.prog ((u.alloc (.cells #[.int .u8 x] 5)).alloc (.cells #[.int .u8 1] 5)).drew = .ok (.string ⟨#[1]⟩) ((u.alloc (.cells #[.int .u8 x] 5)).alloc (.cells #[.int .u8 1] 5)).drew := by
  have h := heap_alloc_new (u.alloc (.cells #[.int .u8 x] 5)) (.cells #[.int .u8 1] 5)
  rw [World.size_alloc] at h
  exact run_string_of_OB (P := Try.prog) _ 22 9 5 u.heap.size (.slice (some ⟨u.heap.size + 1, 0, none⟩) 1 1) [1] Try.underlying22 Try.underlying5 Try.underlying9
    (OB.drew (.inr ⟨u.heap.size + 1, 1, #[.int .u8 1], (0, 0), rfl, by omega, h, .inl rfl, Nat.le_refl _, by unfold maxLen; omega, rfl, rfl⟩))
theorem emp_iff (s : ByteArray) : s.toList.isEmpty = decide (s.size = 0) := by
  rw [ByteArray.toList_eq, Bool.eq_iff_iff, List.isEmpty_iff, decide_eq_true_iff, ← size_list, List.length_eq_zero_iff]
theorem cob_nil : cob [] = [1] := by rw [cob_last (by simp)]; rfl
theorem cob_len (l : List UInt8) : (cob l).length ≤ 2 * l.length + 1 := by
  induction hn : l.length using Nat.strongRecOn generalizing l with
  | _ n ih =>
    have hb := blkN_le l
    have hst := stepN_pos l
    have hsb : blkN l ≤ stepN l := by unfold stepN; split <;> omega
    by_cases h : blkN l < l.length
    · rw [cob_more h, List.length_append, putB_len, List.length_take]
      have h2 := ih (l.drop (stepN l)).length (by rw [List.length_drop]; omega) _ rfl
      rw [List.length_drop] at h2
      omega
    · rw [cob_last (by omega), putB_len]; omega
end Go.Proofs.Ytdnedoafgfpnfaa
/- Plain facts on blocks: how a text is cut, two texts with a nought between. -/
namespace Go.Proofs.Ytdnedoafgfpnfaa
open Go.ChangeShapes Go.WideShapes Go.ChangeAt Go.RowKit
def nz (p : List UInt8) : Prop := ∀ x ∈ p, x ≠ 0
theorem blkN_eq {p r : List UInt8} (h : nz p) (hp : p.length ≤ 254) (hr : p.length = 254 ∨ r = [] ∨ ∃ r', r = 0 :: r') : blkN (p ++ r) = p.length := by
  unfold blkN
  rw [List.take_append, List.takeWhile_append_of_pos (by
    intro x hx
    have := h x (List.mem_of_mem_take hx)
    simpa using this), List.take_of_length_le hp, List.length_append]
  have : (r.take (254 - p.length)).takeWhile (· != 0) = [] := by
    rcases hr with hr | hr | ⟨r', hr⟩
    · rw [hr]; simp
    · rw [hr]; simp
    · rw [hr]
      cases 254 - p.length <;> simp
  rw [this]; simp
theorem nz_take (l : List UInt8) : nz (l.take (blkN l)) := by
  intro x hx
  have e : l.take (blkN l) = (l.take 254).takeWhile (· != 0) := by
    have h1 : (l.take 254).takeWhile (· != 0) <+: l := (List.takeWhile_prefix _).trans (List.take_prefix _ _)
    have h2 := List.prefix_iff_eq_take.1 h1
    exact h2.symm
  rw [e] at hx
  have := List.all_takeWhile (p := (· != 0)) (l := l.take 254)
  have h3 := List.all_eq_true.1 this x hx
  simpa using h3
/-- how a text is cut -/
theorem pcs_view (l : List UInt8) : (nz l ∧ l.length ≤ 254 ∧ pcs l = [l]) ∨ (∃ p r, nz p ∧ p.length ≤ 253 ∧ l = p ++ 0 :: r ∧ pcs l = p :: pcs r) ∨ (∃ p r, nz p ∧ p.length = 254 ∧ r ≠ [] ∧ l = p ++ r ∧ pcs l = p :: pcs r) := by
  have hb := blkN_le l
  have hn := nz_take l
  by_cases h : blkN l < l.length
  · by_cases h4 : blkN l < 254
    · right; left
      have hz : l[blkN l] = 0 := by
        rcases Decidable.em (l[blkN l] = 0) with e | e
        · exact e
        · exact absurd ((blk_at (Nat.le_refl _) h4 h).1 e) (Nat.lt_irrefl _)
      refine ⟨l.take (blkN l), l.drop (blkN l + 1), hn, by rw [List.length_take]; omega, ?_, ?_⟩
      · rw [← hz, ← List.drop_eq_getElem_cons h, List.take_append_drop]
      · rw [pcs_more h, stepN, if_pos h4]
    · right; right
      refine ⟨l.take (blkN l), l.drop (blkN l), hn, by rw [List.length_take]; omega, ?_, (List.take_append_drop _ _).symm, ?_⟩
      · intro e
        have : (l.drop (blkN l)).length = 0 := by rw [e]; rfl
        rw [List.length_drop] at this; omega
      · rw [pcs_more h, stepN, if_neg h4]
  · left
    have e : l.take (blkN l) = l := List.take_of_length_le (by omega)
    exact ⟨e ▸ hn, by omega, pcs_last (by omega)⟩
theorem pcs_nz {l : List UInt8} (h : nz l) (hl : l.length ≤ 254) : pcs l = [l] := by
  have := blkN_eq (r := []) h hl (.inr (.inl rfl))
  rw [List.append_nil] at this
  exact pcs_last (by omega)
theorem pcs_zero {p : List UInt8} (r : List UInt8) (h : nz p) (hp : p.length ≤ 253) : pcs (p ++ 0 :: r) = p :: pcs r := by
  have hb := blkN_eq (r := 0 :: r) h (by omega) (.inr (.inr ⟨r, rfl⟩))
  rw [pcs_more (by rw [hb]; simp), stepN, hb, if_pos (by omega), List.take_left]
  congr 2
  rw [show p ++ 0 :: r = (p ++ [0]) ++ r by simp]
  exact List.drop_left' (by simp)
theorem pcs_full {p r : List UInt8} (h : nz p) (hp : p.length = 254) (hr : r ≠ []) : pcs (p ++ r) = p :: pcs r := by
  have hb := blkN_eq (r := r) h (by omega) (.inl hp)
  have hl : 0 < r.length := List.length_pos_iff.2 hr
  rw [pcs_more (by rw [hb, List.length_append]; omega), stepN, hb, if_neg (by omega), List.take_left, List.drop_left]
theorem pcs_join {a : List UInt8} (b : List UInt8) (ha : a.length ≤ 253) : pcs (a ++ 0 :: b) = pcs a ++ pcs b := by
  induction hn : a.length using Nat.strongRecOn generalizing a with
  | _ n ih =>
    rcases pcs_view a with ⟨h1, h2, h3⟩ | ⟨p, r, h1, h2, h3, h4⟩ | ⟨p, r, h1, h2, h3, h4, h5⟩
    · rw [h3, pcs_zero b h1 ha]; rfl
    · have hl : a.length = p.length + (r.length + 1) := by rw [h3]; simp
      rw [h4, h3, List.append_assoc, List.cons_append, pcs_zero _ h1 h2, ih r.length (by omega) (by omega) rfl]; rfl
    · have hl : a.length = p.length + r.length := by rw [h4]; simp
      omega
theorem cob_join {a : List UInt8} (b : List UInt8) (ha : a.length ≤ 253) : cob (a ++ 0 :: b) = cob a ++ cob b := by
  rw [cob, pcs_join b ha, List.flatMap_append]; rfl
end Go.Proofs.Ytdnedoafgfpnfaa
/- LessPut of the program. -/
namespace Go.Proofs.Ytdnedoafgfpnfaa
open Go.ChangeShapes Go.WideShapes Go.ChangeAt Go.RowKit
/-- blocks, the last of which begins behind la bytes, a byte less, where that can be -/
def lessW (out : List UInt8) (la : Nat) : List UInt8 := if la < out.length - 1 ∧ (out.getD la 0).toNat ≤ (out.getD (out.length - 1) 0).toNat then (out.set la (out.getD (out.length - 1) 0)).take (out.length - 1) else out
def laL (l : List UInt8) : Nat := ((pcs l).dropLast.flatMap putB).length
def less (l : List UInt8) : List UInt8 := lessW (cob l) (laL l)
def lessA (l : List UInt8) : List UInt8 := if l.length ≤ 600 then less l else []
theorem OB.take {e : TypeId} {w : World} {base g n cap : Nat} {l : List UInt8} (h : OB e w base (.slice (some ⟨g, 0, none⟩) n cap) l) (k : Nat) (hk : k ≤ l.length) : OB e w base (.slice (some ⟨g, 0, none⟩) k cap) (l.take k) := by
  rcases h with ⟨hv, _⟩ | ⟨g', cap', cur, fz, hv, hb, hg, hfz, h1, h2, h3, h4⟩
  · simp at hv
  · have e1 : g = g' := by injection hv with h; injection h with h; injection h
    have e2 : cap = cap' := by injection hv
    subst e1 e2
    have hkl : (l.take k).length = k := by rw [List.length_take]; omega
    refine .inr ⟨g, cap, cur, fz, by rw [hkl], hb, hg, hfz, by omega, h2, h3, ?_⟩
    rw [hkl, List.map_take, ← h4, List.take_take, Nat.min_eq_left hk]
theorem laP_laL {l : List UInt8} {pre : List Pc} (h : pre.map (·.1) = pcs l) : laP pre = laL l := by
  rw [laP, wrP, List.map_dropLast, h, laL]
theorem pcs_ne (l : List UInt8) : pcs l ≠ [] := by rw [pcs]; simp
theorem cob_la (l : List UInt8) : ∃ a q, q.length ≤ 254 ∧ cob l = a ++ putB q ∧ laL l = a.length ∧ pcs l = (pcs l).dropLast ++ [q] := by
  have h := List.dropLast_concat_getLast (pcs_ne l)
  refine ⟨(pcs l).dropLast.flatMap putB, (pcs l).getLast (pcs_ne l), pcs_mem (List.getLast_mem _), ?_, rfl, h.symm⟩
  show (pcs l).flatMap putB = _
  have e := congrArg (List.flatMap putB) h
  rw [List.flatMap_append] at e
  rw [← e]; simp
theorem laL_lt (l : List UInt8) : laL l < (cob l).length := by
  obtain ⟨a, q, _, h1, h2, _⟩ := cob_la l
  rw [h1, h2, List.length_append, putB_len]; omega
theorem getD_at {l : List UInt8} {k : Nat} (h : k < l.length) : l.getD k 0 = l[k] := by simp [List.getD, h]
end Go.Proofs.Ytdnedoafgfpnfaa
/- LessPut of the model. -/
namespace Go.Proofs.Ytdnedoafgfpnfaa
open Go.ChangeShapes Go.WideShapes Go.ChangeAt Go.RowKit
def posB (B : List (List UInt8)) (k : Nat) : Nat := ((B.take k).flatMap putB).length
theorem posB_succ {B : List (List UInt8)} {k : Nat} (h : k < B.length) : posB B (k + 1) = posB B k + (B[k].length + 1) := by
  rw [posB, ← List.take_append_getElem h, List.flatMap_append, List.length_append, posB]
  simp [putB_len]
theorem posB_all (B : List (List UInt8)) : posB B B.length = (B.flatMap putB).length := by rw [posB, List.take_length]
theorem posB_mono {B : List (List UInt8)} {k m : Nat} (h : k < m) (hm : m ≤ B.length) : posB B k < posB B m := by
  induction m with
  | zero => omega
  | succ m ih =>
    have h1 := posB_succ (B := B) (k := m) (by omega)
    rcases Nat.lt_or_ge k m with h2 | h2
    · have := ih h2 (by omega); omega
    · have : k = m := by omega
      subst this; omega
theorem posB_at {B : List (List UInt8)} {k : Nat} (h : k < B.length) : (B.flatMap putB)[posB B k]? = some (UInt8.ofNat (B[k].length + 1)) := by
  have e : B = B.take k ++ B[k] :: B.drop (k + 1) := by rw [← List.drop_eq_getElem_cons h, List.take_append_drop]
  have e2 : B.flatMap putB = (B.take k).flatMap putB ++ (putB B[k] ++ (B.drop (k + 1)).flatMap putB) := by
    conv => lhs; rw [e, List.flatMap_append, List.flatMap_cons]
  rw [e2, List.getElem?_append_right (by rw [posB]; exact Nat.le_refl _)]
  simp [posB, putB]
theorem laL_pos (l : List UInt8) : laL l = posB (pcs l) ((pcs l).length - 1) := by rw [laL, posB, List.dropLast_eq_take]
theorem set_take (l : List UInt8) (i m : Nat) (b : UInt8) (h : i < m) (hm : m ≤ l.length) : (l.set i b).take m = l.take i ++ b :: (l.take m).drop (i + 1) := by
  rw [List.set_eq_take_append_cons_drop, if_pos (by omega)]
  have h1 : (l.take i).length = i := by rw [List.length_take]; omega
  rw [List.take_append, h1, List.take_of_length_le (by omega)]
  obtain ⟨j, hj⟩ : ∃ j, m - i = j + 1 := ⟨m - i - 1, by omega⟩
  rw [hj, List.take_succ_cons, List.drop_take]
  congr 3
  omega
theorem string_bD (b : UInt8) (u : World) : (convert 22 9 (.slice (some ⟨u.heap.size, 0, none⟩) 1 1)).run Try.prog (u.alloc (.cells #[.int .u8 (b.toNat : Int)] 5)).drew = .ok (.string ⟨#[b]⟩) (u.alloc (.cells #[.int .u8 (b.toNat : Int)] 5)).drew :=
  run_string_of_OB (P := Try.prog) _ 22 9 5 u.heap.size (.slice (some ⟨u.heap.size, 0, none⟩) 1 1) [b] Try.underlying22 Try.underlying5 Try.underlying9
    (OB.drew (.inr ⟨u.heap.size, 1, #[.int .u8 (b.toNat : Int)], (0, 0), rfl, Nat.le_refl _, heap_alloc_new u _, .inl rfl, Nat.le_refl _, by unfold maxLen; omega, rfl, rfl⟩))
theorem slice_mid (s : ByteArray) (i m : Nat) (hi : i ≤ m) (hm : m ≤ s.size) (u : World) : (Instr.slice 9 (.string s) (some (.int .i64 (i : Int))) (some (.int .i64 (m : Int))) none).run Try.prog u = .ok (.string (s.extract i m)) u := by
  rw [run_slice_string u 9 s .i64 .i64 (i : Int) (m : Int) Try.underlying9 (by omega) (by omega) (by omega)]
  rfl
theorem ext_mid (t : ByteArray) (i m : Nat) : (t.extract i m).data.toList = (t.data.toList.take m).drop i := by
  simp [List.drop_take]
end Go.Proofs.Ytdnedoafgfpnfaa
