/- LessPut of the program. -/
import Derived.Test.YtfojlpnnhghcbaaCobP
namespace Go.Proofs.Ytfojlpnnhghcbaa
open Go.ChangeShapes Go.WideShapes Go.ChangeAt Go.RowKit
/-- blocks, the last of which begins behind la bytes, a byte less, where that can be -/
def lessW (out : List UInt8) (la : Nat) : List UInt8 := if la < out.length - 1 ∧ (out.getD la 0).toNat ≤ (out.getD (out.length - 1) 0).toNat then (out.set la (out.getD (out.length - 1) 0)).take (out.length - 1) else out
def laL (l : List UInt8) : Nat := ((pcs l).dropLast.flatMap putB).length
def less (l : List UInt8) : List UInt8 := lessW (cob l) (laL l)
def lessA (l : List UInt8) : List UInt8 := if l.length ≤ 600 then less l else []
theorem OB.take {e : TypeId} {w : World} {base g n cap : Nat} {l : List UInt8} (h : OB e w base (.slice (some ⟨g, 0, none⟩) n cap) l) (k : Nat) (hk : k ≤ l.length) : OB e w base (.slice (some ⟨g, 0, none⟩) k cap) (l.take k) := by
  rcases h with ⟨hv, _⟩ | ⟨g', cap', cur, fz, hv, hb, hg, hfz, h1, h2, h3, h4⟩
  · simp at hv
  · have e1 : g = g' := by injection hv with h; injection h with h; injection h
    have e2 : cap = cap' := by injection hv
    subst e1 e2
    have hkl : (l.take k).length = k := by rw [List.length_take]; omega
    refine .inr ⟨g, cap, cur, fz, by rw [hkl], hb, hg, hfz, by omega, h2, h3, ?_⟩
    rw [hkl, List.map_take, ← h4, List.take_take, Nat.min_eq_left hk]
theorem laP_laL {l : List UInt8} {pre : List Pc} (h : pre.map (·.1) = pcs l) : laP pre = laL l := by
  rw [laP, wrP, List.map_dropLast, h, laL]
theorem pcs_ne (l : List UInt8) : pcs l ≠ [] := by rw [pcs]; simp
theorem cob_la (l : List UInt8) : ∃ a q, q.length ≤ 254 ∧ cob l = a ++ putB q ∧ laL l = a.length ∧ pcs l = (pcs l).dropLast ++ [q] := by
  have h := List.dropLast_concat_getLast (pcs_ne l)
  refine ⟨(pcs l).dropLast.flatMap putB, (pcs l).getLast (pcs_ne l), pcs_mem (List.getLast_mem _), ?_, rfl, h.symm⟩
  show (pcs l).flatMap putB = _
  have e := congrArg (List.flatMap putB) h
  rw [List.flatMap_append] at e
  rw [← e]; simp
theorem laL_lt (l : List UInt8) : laL l < (cob l).length := by
  obtain ⟨a, q, _, h1, h2, _⟩ := cob_la l
  rw [h1, h2, List.length_append, putB_len]; omega
theorem getD_at {l : List UInt8} {k : Nat} (h : k < l.length) : l.getD k 0 = l[k] := by simp [List.getD, h]
set_option maxRecDepth 100000 in
set_option maxHeartbeats 4000000 in
theorem implLess_any (s : ByteArray) (w : World) :
    Calls Try.prog 150 #[.string s] w fun e w' => e = .returned (.string ⟨(lessA s.data.toList).toArray⟩) ∧ Below w.heap.size w w' := by
  have HSL := Lib.hid (size_list s)
  by_cases h6 : s.size ≤ 600
  · have HV := Lib.hid (show lessA s.data.toList = less s.data.toList by rw [lessA, HSL.out, if_pos h6])
    have hlt := laL_lt s.data.toList
    have hcl := cob_len s.data.toList
    rw [HSL.out] at hcl
    go_enter Try.func150, Try.ntmps150
    go_wp2_with fail
    refine (writeBlocks_any s w h6).mono ?_
    rintro e w1 ⟨v, pre, hpre, rfl, hrow, hb⟩
    have HLess := Lib.hid (show less s.data.toList = lessW (wrP pre) (laP pre) by rw [less, wrP_cob hpre, laP_laL hpre])
    rw [← wrP_cob hpre, ← laP_laL hpre] at hlt
    rw [← wrP_cob hpre] at hcl
    have hob := ownsRow_ob hrow
    have HB := Lib.hid hb
    clear hrow hb hpre
    generalize wrP pre = O at *
    generalize laP pre = la at *
    obtain ⟨g, cap, rfl, hcap, hcapm, hbg, hgl⟩ := hob.pos (by omega)
    obtain ⟨en, hen⟩ : ∃ en, O.length = en + 1 := ⟨O.length - 1, by omega⟩
    have hx := hob.cellAt (k := en) (by omega)
    have hy := hob.cellAt (k := la) (by omega)
    have hf := hob.frozenAt (k := la) (by omega)
    have HO := Lib.hid hob
    have HEn := Lib.hid hen
    rw [hen] at hlt hcl hcap ⊢
    have HW := Lib.hid (show lessW O la = if la < en ∧ O[la].toNat ≤ O[en].toNat then (O.set la O[en]).take en else O by
      have e : O.length - 1 = en := by omega
      rw [lessW, e, getD_at (by omega), getD_at (by omega)])
    have hix : O[en].toNat < 256 := O[en].toNat_lt
    generalize O[en] = X at *
    generalize O[la] = Y at *
    unfold byteV at hx hy
    clear hob hen
    by_cases h1 : la < en
    · by_cases h2 : Y.toNat ≤ X.toNat
      · have HOS := Lib.hid ((HO.out.stored la X).take en (by rw [List.length_set, HEn.out]; omega))
        have HRes := Lib.hid (show lessW O la = (O.set la X).take en by rw [HW.out, if_pos ⟨h1, h2⟩])
        have h2i : ((Y.toNat : Int) ≤ (X.toNat : Int)) := by omega
        go_wp2_with fail
        go_region
        go_wp2_with (refine wpList_string_of_OB _ rfl 22 9 5 _ rfl w.heap.size _ _ rfl Try.underlying22 Try.underlying5 Try.underlying9 (show OB _ _ _ _ _ from HOS.out.drew) ?_)
        go_ret
        exact ⟨by rw [HV.out, HLess.out, HRes.out]; rfl, (HB.out.setCell (p := ⟨g, la, none⟩) hbg _).drew⟩
      · have HRes := Lib.hid (show lessW O la = O by rw [HW.out, if_neg (by omega)])
        have h2i : ¬ ((Y.toNat : Int) ≤ (X.toNat : Int)) := by omega
        go_wp2_with fail
        go_region
        go_wp2_with (refine wpList_string_of_OB _ rfl 22 9 5 _ rfl w.heap.size _ _ rfl Try.underlying22 Try.underlying5 Try.underlying9 (show OB _ _ _ _ _ from (HEn.out ▸ HO.out).drew) ?_)
        go_ret
        exact ⟨by rw [HV.out, HLess.out, HRes.out]; rfl, HB.out.drew⟩
    · have HRes := Lib.hid (show lessW O la = O by rw [HW.out, if_neg (by omega)])
      go_wp2_with fail
      go_region
      go_wp2_with (refine wpList_string_of_OB _ rfl 22 9 5 _ rfl w.heap.size _ _ rfl Try.underlying22 Try.underlying5 Try.underlying9 (show OB _ _ _ _ _ from (HEn.out ▸ HO.out).drew) ?_)
      go_ret
      exact ⟨by rw [HV.out, HLess.out, HRes.out]; rfl, HB.out.drew⟩
  · have HV := Lib.hid (show lessA s.data.toList = [] by rw [lessA, HSL.out, if_neg h6])
    go_enter Try.func150, Try.ntmps150
    go_wp2
    go_ret
    exact ⟨by rw [HV.out]; rfl, Below.refl _ _⟩
end Go.Proofs.Ytfojlpnnhghcbaa
