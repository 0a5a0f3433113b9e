/- Plain facts on blocks read and written again, and on blocks with a byte less. -/
import Derived.Test.YtfojlpnnhghcbaaCobQ
namespace Go.Proofs.Ytfojlpnnhghcbaa
open Go.ChangeShapes Go.WideShapes Go.ChangeAt Go.RowKit
/-- how a text of blocks without a nought begins -/
theorem rd_view {t : List UInt8} (h : nzL t) (hne : t ≠ []) : (t.length < hdN t ∧ rdB t = ([], t)) ∨ ∃ b t', nz b ∧ b.length ≤ 254 ∧ t = putB b ++ t' ∧ nzL t' ∧ rdB t = ((putB b, decide (0 < t'.length)) :: (rdB t').1, (rdB t').2) := by
  have h0 := hdN_pos h hne
  rcases Nat.lt_or_ge t.length (hdN t) with h1 | h1
  · exact .inl ⟨h1, rdB_cut (.inr h1)⟩
  · right
    cases t with
    | nil => exact absurd rfl hne
    | cons c r =>
      have hc : hdN (c :: r) = c.toNat := rfl
      have hc255 : c.toNat < 256 := c.toNat_lt
      rw [hc] at h0 h1
      simp only [List.length_cons] at h1
      have hb : (r.take (c.toNat - 1)).length = c.toNat - 1 := by rw [List.length_take]; omega
      have hp : putB (r.take (c.toNat - 1)) = c :: r.take (c.toNat - 1) := by
        rw [putB, hb]; congr 1
        apply UInt8.toNat_inj.1
        rw [UInt8.toNat_ofNat']; omega
      have ht : c :: r = putB (r.take (c.toNat - 1)) ++ r.drop (c.toNat - 1) := by rw [hp, List.cons_append, List.take_append_drop]
      have hb2 : (r.take (c.toNat - 1)).length ≤ 254 := by omega
      refine ⟨r.take (c.toNat - 1), r.drop (c.toNat - 1), fun x hx => h x (List.mem_cons_of_mem _ (List.mem_of_mem_take hx)), hb2, ht, fun x hx => h x (List.mem_cons_of_mem _ (List.mem_of_mem_drop hx)), ?_⟩
      rw [ht, rdB_put hb2]
theorem txt_put {b t' : List UInt8} (hb : b.length ≤ 254) (h : t' ≠ []) : txt (putB b ++ t') = (if b.length ≤ 253 then b ++ [0] else b) ++ txt t' := by
  rw [txt, rdB_put hb, decide_eq_true (List.length_pos_iff.2 h), List.flatMap_cons, txB_true]; rfl
/-- blocks that are read are written in no more -/
theorem cob_again {t : List UInt8} (h : nzL t) (hne : t ≠ []) (hcut : (rdB t).2 = []) : (txt t).length + 1 ≤ t.length ∧ (cob (txt t)).length ≤ t.length := by
  induction hn : t.length using Nat.strongRecOn generalizing t with
  | _ n ih =>
    rcases rd_view h hne with ⟨_, h1⟩ | ⟨b, t', h1, h2, h3, h4, h5⟩
    · rw [h1] at hcut; exact absurd hcut hne
    · have hl : t.length = b.length + 1 + t'.length := by rw [h3, List.length_append, putB_len]
      by_cases ht' : t' = []
      · have e := rd_last b h2
        rw [h3, ht', List.append_nil, e.1, cob, pcs_nz h1 h2]
        rw [ht', List.length_nil] at hl
        simp only [List.flatMap_cons, List.flatMap_nil, List.append_nil, putB_len]
        omega
      · have hc' : (rdB t').2 = [] := by rw [h5] at hcut; exact hcut
        have hi := ih t'.length (by omega) h4 ht' hc' rfl
        rw [h3, txt_put h2 ht']
        by_cases h253 : b.length ≤ 253
        · rw [if_pos h253, show b ++ [0] ++ txt t' = b ++ 0 :: txt t' by simp, cob, pcs_zero _ h1 h253, List.flatMap_cons]
          have : ((pcs (txt t')).flatMap putB).length = (cob (txt t')).length := rfl
          simp only [List.length_append, List.length_cons, putB_len]
          omega
        · rw [if_neg h253]
          have hb : b.length = 254 := by omega
          by_cases hx : txt t' = []
          · rw [hx, List.append_nil, cob, pcs_nz h1 h2]
            simp only [List.flatMap_cons, List.flatMap_nil, List.append_nil, putB_len]
            omega
          · rw [cob, pcs_full h1 hb hx, List.flatMap_cons]
            have : ((pcs (txt t')).flatMap putB).length = (cob (txt t')).length := rfl
            simp only [List.length_append, putB_len]
            omega
def lessB (q : List UInt8) : List UInt8 := if 0 < q.length ∧ q.length + 1 ≤ (q.getD (q.length - 1) 0).toNat then q.getD (q.length - 1) 0 :: q.take (q.length - 1) else putB q
theorem less_eq {l : List UInt8} {init : List (List UInt8)} {q : List UInt8} (h : pcs l = init ++ [q]) (hq : q.length ≤ 254) : less l = init.flatMap putB ++ lessB q := by
  have hla : laL l = (init.flatMap putB).length := by rw [laL, h, List.dropLast_concat]
  have hc : cob l = init.flatMap putB ++ putB q := by rw [cob, h, List.flatMap_append]; simp
  rw [less, lessW, hla, hc]
  generalize init.flatMap putB = a
  have hl : (a ++ putB q).length = a.length + q.length + 1 := by rw [List.length_append, putB_len]; omega
  have e0 : (a ++ putB q).getD a.length 0 = UInt8.ofNat (q.length + 1) := by simp [putB, List.getD]
  have e1 : (a ++ putB q).length - 1 = a.length + q.length := by omega
  rw [e0, e1, ofNat_len hq]
  by_cases hp : 0 < q.length
  · obtain ⟨m, hm⟩ : ∃ m, q.length = m + 1 := ⟨q.length - 1, by omega⟩
    have e2 : (a ++ putB q).getD (a.length + q.length) 0 = q.getD (q.length - 1) 0 := by
      rw [hm, Nat.add_sub_cancel, List.getD_eq_getElem?_getD, List.getD_eq_getElem?_getD, List.getElem?_append_right (by omega), show a.length + (m + 1) - a.length = m + 1 by omega, putB, List.getElem?_cons_succ]
    rw [e2, lessB]
    by_cases hc2 : q.length + 1 ≤ (q.getD (q.length - 1) 0).toNat
    · rw [if_pos ⟨by omega, hc2⟩, if_pos ⟨hp, hc2⟩]
      generalize q.getD (q.length - 1) 0 = c
      rw [putB, List.set_append_right _ _ (Nat.le_refl _), Nat.sub_self, List.set_cons_zero, List.take_append, List.take_of_length_le (by omega), hm]
      congr 1
      rw [show a.length + (m + 1) - a.length = m + 1 by omega, List.take_succ_cons, Nat.add_sub_cancel]
    · rw [if_neg (by rintro ⟨_, h⟩; exact hc2 h), if_neg (by rintro ⟨_, h⟩; exact hc2 h)]
  · rw [if_neg (by omega), lessB, if_neg (by omega)]
theorem less_parts (l : List UInt8) : ∃ init q, pcs l = init ++ [q] ∧ l = preT init ++ q ∧ (∀ p ∈ init ++ [q], nz p ∧ p.length ≤ 254) ∧ less l = init.flatMap putB ++ lessB q ∧ cob l = init.flatMap putB ++ putB q := by
  obtain ⟨init, q, e1, e2, e3⟩ := pcs_text l
  exact ⟨init, q, e1, e2, e3, less_eq e1 (e3 q (by simp)).2, by rw [cob, e1, List.flatMap_append]; simp⟩
theorem lessB_cases {q : List UInt8} (hq : nz q) (hl : q.length ≤ 254) : nzL (lessB q) ∧ lessB q ≠ [] ∧ txt (lessB q) ++ (rdB (lessB q)).2.drop 1 ++ (rdB (lessB q)).2.take 1 = q ∧ ((lessB q).length = q.length ∨ lessB q = putB q) := by
  rw [lessB]
  split
  · rename_i h
    obtain ⟨h1, h2⟩ := h
    have hd : q.getD (q.length - 1) 0 = q[q.length - 1] := getD_at (by omega)
    have hq2 : q = q.take (q.length - 1) ++ [q.getD (q.length - 1) 0] := by
      rw [hd]
      have e := List.take_append_getElem (l := q) (i := q.length - 1) (by omega)
      rw [e, List.take_of_length_le (by omega)]
    have hlen : (q.getD (q.length - 1) 0 :: q.take (q.length - 1)).length = q.length := by rw [List.length_cons, List.length_take]; omega
    have hr : rdB (q.getD (q.length - 1) 0 :: q.take (q.length - 1)) = ([], q.getD (q.length - 1) 0 :: q.take (q.length - 1)) := rdB_cut (.inr (by rw [hlen]; show _ < (q.getD (q.length - 1) 0).toNat; omega))
    refine ⟨?_, by simp, ?_, .inl hlen⟩
    · intro x hx
      rw [List.mem_cons] at hx
      rcases hx with hx | hx
      · rw [hx, hd]; exact hq _ (List.getElem_mem _)
      · exact hq x (List.mem_of_mem_take hx)
    · rw [txt, hr]
      simp only [List.flatMap_nil, List.nil_append, List.drop_succ_cons, List.drop_zero, List.take_succ_cons, List.take_zero]
      exact hq2.symm
  · obtain ⟨r1, r2⟩ := rd_last q hl
    exact ⟨putB_nz hq hl, by simp [putB], by rw [r1, r2]; simp, .inr rfl⟩
theorem less_read (l : List UInt8) : nzL (less l) ∧ txt (less l) ++ (rdB (less l)).2.drop 1 ++ (rdB (less l)).2.take 1 = l ∧ ((cob l).length = (less l).length + 1 ∨ less l = cob l) := by
  obtain ⟨init, q, e1, e2, e3, e4, e5⟩ := less_parts l
  have hq := e3 q (by simp)
  obtain ⟨l1, l2, l3, l4⟩ := lessB_cases hq.1 hq.2
  obtain ⟨r1, r2⟩ := rd_many (ps := init) (X := lessB q) (fun p hp => (e3 p (by simp [hp])).2) l2
  rw [e4, e5]
  refine ⟨?_, ?_, ?_⟩
  · intro x hx
    rcases List.mem_append.1 hx with h | h
    · exact flat_nz (fun p hp => e3 p (by simp [hp])) x h
    · exact l1 x h
  · rw [r1, r2, List.append_assoc, List.append_assoc, ← List.append_assoc (txt (lessB q)), l3, ← e2]
  · rcases l4 with h | h
    · left; rw [List.length_append, List.length_append, putB_len, h]; omega
    · right; rw [h]
theorem less_size (l : List UInt8) : 1 ≤ (less l).length ∧ (less l).length ≤ (cob l).length ∧ (cob l).length ≤ (less l).length + 1 := by
  obtain ⟨init, q, e1, e2, e3, e4, e5⟩ := less_parts l
  have hq := e3 q (by simp)
  obtain ⟨l1, l2, l3, l4⟩ := lessB_cases hq.1 hq.2
  have h0 := List.length_pos_iff.2 l2
  rw [e4, e5]
  simp only [List.length_append, putB_len]
  rcases l4 with h | h
  · omega
  · rw [h, putB_len]; omega
theorem lgetA_less {l : List UInt8} (h : l.length ≤ 600) : lgetA (less l) = (l, true) := by
  obtain ⟨h1, h2, h3⟩ := less_read l
  have h4 := less_size l
  have h5 := cob_size l
  rw [lgetA, if_pos (okG_of (by omega) (by omega) h1), h2]
/-- what is read from blocks the last of which may be short is written in no more -/
theorem less_again {t : List UInt8} (h : nzL t) (hne : t ≠ []) : (less (txt t ++ (rdB t).2.drop 1 ++ (rdB t).2.take 1)).length ≤ t.length := by
  by_cases hcut : (rdB t).2 = []
  · rw [hcut]
    simp only [List.drop_nil, List.take_nil, List.append_nil]
    have h1 := (cob_again h hne hcut).2
    have h2 := (less_size (txt t)).2.1
    omega
  · induction hn : t.length using Nat.strongRecOn generalizing t with
    | _ n ih =>
      rcases rd_view h hne with ⟨h0, h1⟩ | ⟨b, t', h1, h2, h3, h4, h5⟩
      · cases t with
        | nil => exact absurd rfl hne
        | cons c r =>
          have hc255 : c.toNat < 256 := c.toNat_lt
          have hh : (c :: r).length < c.toNat := h0
          simp only [List.length_cons] at hh hn
          rw [txt, h1]
          simp only [List.flatMap_nil, List.nil_append, List.drop_succ_cons, List.drop_zero, List.take_succ_cons, List.take_zero]
          have hnz : nz (r ++ [c]) := by
            intro x hx
            rcases List.mem_append.1 hx with hx | hx
            · exact h x (List.mem_cons_of_mem _ hx)
            · simp at hx; subst hx; exact h x (by simp)
          have hl : (r ++ [c]).length = r.length + 1 := by simp
          have hp : pcs (r ++ [c]) = [] ++ [r ++ [c]] := pcs_nz hnz (by omega)
          rw [less_eq hp (by omega), List.flatMap_nil, List.nil_append, lessB, hl]
          have hg : (r ++ [c]).getD (r.length + 1 - 1) 0 = c := by simp [List.getD]
          rw [hg, if_pos ⟨by omega, by omega⟩, List.length_cons, List.length_take, hl]
          omega
      · have hl : t.length = b.length + 1 + t'.length := by rw [h3, List.length_append, putB_len]
        have hc' : (rdB t').2 = (rdB t).2 := by rw [h5]
        have ht' : t' ≠ [] := by intro e; rw [e, rdB_nil] at hc'; exact hcut hc'.symm
        have hi := ih t'.length (by omega) h4 ht' (by rw [hc']; exact hcut) rfl
        rw [hc'] at hi
        rw [h3, txt_put h2 ht', ← h3]
        generalize hS : (rdB t).2 = cut at *
        have hS' : txt t' ++ cut.drop 1 ++ cut.take 1 ≠ [] := by
          cases cut with
          | nil => exact absurd rfl hcut
          | cons x y => simp
        obtain ⟨init, q, e1, e2, e3, e4, e5⟩ := less_parts (txt t' ++ cut.drop 1 ++ cut.take 1)
        have hq := (e3 q (by simp)).2
        by_cases h253 : b.length ≤ 253
        · rw [if_pos h253]
          have e : b ++ [0] ++ txt t' ++ cut.drop 1 ++ cut.take 1 = b ++ 0 :: (txt t' ++ cut.drop 1 ++ cut.take 1) := by simp
          have hp : pcs (b ++ 0 :: (txt t' ++ cut.drop 1 ++ cut.take 1)) = (b :: init) ++ [q] := by rw [pcs_zero _ h1 h253, e1]; rfl
          rw [e, less_eq hp hq, List.flatMap_cons, List.append_assoc, ← e4, List.length_append, putB_len]
          omega
        · rw [if_neg h253]
          have e : b ++ txt t' ++ cut.drop 1 ++ cut.take 1 = b ++ (txt t' ++ cut.drop 1 ++ cut.take 1) := by simp
          have hp : pcs (b ++ (txt t' ++ cut.drop 1 ++ cut.take 1)) = (b :: init) ++ [q] := by rw [pcs_full h1 (by omega) hS', e1]; rfl
          rw [e, less_eq hp hq, List.flatMap_cons, List.append_assoc, ← e4, List.length_append, putB_len]
          omega
end Go.Proofs.Ytfojlpnnhghcbaa
