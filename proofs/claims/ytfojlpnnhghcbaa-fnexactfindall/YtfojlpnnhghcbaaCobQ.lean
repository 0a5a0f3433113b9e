/- Plain facts on blocks written and read back. -/
import Derived.Test.YtfojlpnnhghcbaaCobM
import Derived.Test.YtfojlpnnhghcbaaCobU
namespace Go.Proofs.Ytfojlpnnhghcbaa
open Go.ChangeShapes Go.WideShapes Go.ChangeAt Go.RowKit
theorem ofNat_len {k : Nat} (h : k ≤ 254) : (UInt8.ofNat (k + 1)).toNat = k + 1 := by rw [UInt8.toNat_ofNat']; omega
theorem hdN_putB {p : List UInt8} (h : p.length ≤ 254) (R : List UInt8) : hdN (putB p ++ R) = p.length + 1 := ofNat_len h
theorem rdB_put {p : List UInt8} (h : p.length ≤ 254) (R : List UInt8) : rdB (putB p ++ R) = ((putB p, decide (0 < R.length)) :: (rdB R).1, (rdB R).2) := by
  have hl : (putB p ++ R).length = p.length + 1 + R.length := by rw [List.length_append, putB_len]
  rw [rdB_more (by rw [hdN_putB h]; omega) (by rw [hdN_putB h, hl]; omega), hdN_putB h]
  have e1 : (putB p ++ R).take (p.length + 1) = putB p := List.take_left' (putB_len p)
  have e2 : (putB p ++ R).drop (p.length + 1) = R := List.drop_left' (putB_len p)
  have e3 : decide (p.length + 1 < (putB p ++ R).length) = decide (0 < R.length) := by rw [hl, decide_eq_decide]; omega
  rw [e1, e2, e3]
/-- what blocks tell that are not the last -/
def preT (ps : List (List UInt8)) : List UInt8 := ps.flatMap fun p => txB (putB p, true)
theorem txB_true (p : List UInt8) : txB (putB p, true) = if p.length ≤ 253 then p ++ [0] else p := by
  unfold txB
  rw [putB_len]
  show p ++ _ = _
  by_cases h : p.length ≤ 253
  · rw [if_pos h, if_pos ⟨rfl, by omega⟩]
  · rw [if_neg h, if_neg (by rintro ⟨_, h2⟩; exact h (by simpa using h2)), List.append_nil]
theorem txB_false (p : List UInt8) : txB (putB p, false) = p := by
  unfold txB; simp [putB]
theorem preT_cons (p : List UInt8) (ps : List (List UInt8)) : preT (p :: ps) = txB (putB p, true) ++ preT ps := by rw [preT, List.flatMap_cons, preT]
theorem rd_many {ps : List (List UInt8)} (h : ∀ p ∈ ps, p.length ≤ 254) {X : List UInt8} (hX : X ≠ []) : txt (ps.flatMap putB ++ X) = preT ps ++ txt X ∧ (rdB (ps.flatMap putB ++ X)).2 = (rdB X).2 := by
  induction ps with
  | nil => simp [preT]
  | cons p ps ih =>
    obtain ⟨i1, i2⟩ := ih (fun q hq => h q (by simp [hq]))
    have hp := h p (by simp)
    have hpos : 0 < (ps.flatMap putB ++ X).length := by rw [List.length_append]; have := List.length_pos_iff.2 hX; omega
    rw [List.flatMap_cons, List.append_assoc, txt, rdB_put hp]
    rw [decide_eq_true hpos]
    refine ⟨?_, i2⟩
    rw [List.flatMap_cons]
    show _ ++ txt _ = _
    rw [i1, preT_cons, List.append_assoc]
/-- a text is what its blocks tell -/
theorem pcs_text (l : List UInt8) : ∃ init q, pcs l = init ++ [q] ∧ l = preT init ++ q ∧ ∀ p ∈ init ++ [q], nz p ∧ p.length ≤ 254 := by
  induction hn : l.length using Nat.strongRecOn generalizing l with
  | _ n ih =>
    rcases pcs_view l with ⟨h1, h2, h3⟩ | ⟨p, r, h1, h2, h3, h4⟩ | ⟨p, r, h1, h2, h3, h4, h5⟩
    · exact ⟨[], l, h3, by simp [preT], fun p hp => by simp at hp; subst hp; exact ⟨h1, h2⟩⟩
    · have hl : l.length = p.length + (r.length + 1) := by rw [h3]; simp
      obtain ⟨init, q, e1, e2, e3⟩ := ih r.length (by omega) r rfl
      refine ⟨p :: init, q, by rw [h4, e1]; rfl, ?_, ?_⟩
      · rw [preT_cons, txB_true, if_pos h2, h3, List.append_assoc, List.append_assoc, ← e2]; rfl
      · intro x hx
        rw [List.cons_append, List.mem_cons] at hx
        rcases hx with hx | hx
        · subst hx; exact ⟨h1, by omega⟩
        · exact e3 x hx
    · have hl : l.length = p.length + r.length := by rw [h4]; simp
      obtain ⟨init, q, e1, e2, e3⟩ := ih r.length (by omega) r rfl
      refine ⟨p :: init, q, by rw [h5, e1]; rfl, ?_, ?_⟩
      · rw [preT_cons, txB_true, if_neg (by omega), h4, List.append_assoc, ← e2]
      · intro x hx
        rw [List.cons_append, List.mem_cons] at hx
        rcases hx with hx | hx
        · subst hx; exact ⟨h1, by omega⟩
        · exact e3 x hx
theorem putB_nz {p : List UInt8} (h : nz p) (hl : p.length ≤ 254) : nzL (putB p) := by
  intro x hx
  rw [putB, List.mem_cons] at hx
  rcases hx with hx | hx
  · intro e
    have := ofNat_len hl
    rw [← hx, e] at this
    simp at this
  · exact h x hx
theorem flat_nz {ps : List (List UInt8)} (h : ∀ p ∈ ps, nz p ∧ p.length ≤ 254) : nzL (ps.flatMap putB) := by
  intro x hx
  simp only [List.mem_flatMap] at hx
  obtain ⟨p, hp, hx⟩ := hx
  exact putB_nz (h p hp).1 (h p hp).2 x hx
theorem cob_nz (l : List UInt8) : nzL (cob l) := by
  obtain ⟨init, q, e1, _, e3⟩ := pcs_text l
  rw [cob, e1]; exact flat_nz e3
theorem rd_last (q : List UInt8) (h : q.length ≤ 254) : txt (putB q) = q ∧ (rdB (putB q)).2 = [] := by
  have e := rdB_put h []
  rw [List.append_nil, rdB_nil] at e
  rw [txt, e]
  exact ⟨by simp [txB_false], rfl⟩
theorem cob_read (l : List UInt8) : txt (cob l) = l ∧ (rdB (cob l)).2 = [] := by
  obtain ⟨init, q, e1, e2, e3⟩ := pcs_text l
  have hq := (e3 q (by simp)).2
  have hc : cob l = init.flatMap putB ++ putB q := by rw [cob, e1, List.flatMap_append]; simp
  obtain ⟨r1, r2⟩ := rd_many (ps := init) (X := putB q) (fun p hp => (e3 p (by simp [hp])).2) (by simp [putB])
  obtain ⟨s1, s2⟩ := rd_last q hq
  rw [hc, r1, r2, s1, s2]
  exact ⟨e2.symm, rfl⟩
/-- how long blocks are -/
theorem cob_size (l : List UInt8) : l.length + 1 ≤ (cob l).length ∧ (cob l).length ≤ l.length + 1 + l.length / 254 := by
  induction hn : l.length using Nat.strongRecOn generalizing l with
  | _ n ih =>
    rcases pcs_view l with ⟨h1, h2, h3⟩ | ⟨p, r, h1, h2, h3, h4⟩ | ⟨p, r, h1, h2, h3, h4, h5⟩
    · rw [cob, h3]; simp [putB_len]; omega
    · have hl : l.length = p.length + (r.length + 1) := by rw [h3]; simp
      have hc : (cob l).length = p.length + 1 + (cob r).length := by rw [cob, h4, List.flatMap_cons, List.length_append, putB_len]; rfl
      have := ih r.length (by omega) r rfl
      rw [hc]; omega
    · have hl : l.length = p.length + r.length := by rw [h4]; simp
      have hc : (cob l).length = p.length + 1 + (cob r).length := by rw [cob, h5, List.flatMap_cons, List.length_append, putB_len]; rfl
      have := ih r.length (by omega) r rfl
      rw [hc]; omega
theorem cob_ok {l : List UInt8} (h : l.length ≤ 600) : okG (cob l) = true := by
  have := cob_size l
  exact okG_of (by omega) (by omega) (cob_nz l)
theorem getA_cob {l : List UInt8} (h : l.length ≤ 600) : getA (cob l) = (l, true) := by
  obtain ⟨h1, h2⟩ := cob_read l
  rw [getA, if_pos ⟨cob_ok h, h2⟩, h1]
end Go.Proofs.Ytfojlpnnhghcbaa
