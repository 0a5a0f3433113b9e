/- MuxOf, in the program and in the model. -/
import Derived.Test.YtplaagkcamjemaaMxC
import Derived.Test.YtplaagkcamjemaaTEvK
import Derived.Test.YtplaagkcamjemaaKitA
namespace Go.Proofs.Ytplaagkcamjemaa
open Go.ChangeShapes Go.WideShapes Go.ChangeAt Go.RowKit
theorem zero_told (w : World) : (zeroValue 32).run Try.prog w = .ok (.agg #[.int .i64 0, .string ⟨#[]⟩]) w := by kernel_rfl
theorem ofL_snoc_yes {l : List Ev} {e : Ev} {ch : Int} (h : e.kind = ch) : ofL (l ++ [e]) ch = ofL l ch ++ [e.text] := by simp [ofL, h]
theorem ofL_snoc_no {l : List Ev} {e : Ev} {ch : Int} (h : ¬ e.kind = ch) : ofL (l ++ [e]) ch = ofL l ch := by simp [ofL, h]
theorem ofL_len (l : List Ev) (ch : Int) : (ofL l ch).length ≤ l.length := by
  unfold ofL; rw [List.length_map]; exact List.length_filter_le _ _
theorem take_ev {l : List Ev} {k : Nat} (h : k < l.length) : l.take (k + 1) = l.take k ++ [l[k]] := List.take_succ_eq_append_getElem h
set_option maxRecDepth 100000 in
set_option maxHeartbeats 4000000 in
theorem implMuxOf_any (v : Value) (l : List Ev) (ch : Int) (w : World) (lo B : Nat) (h : RE w lo B v l) (hB : B ≤ w.heap.size) (hl : l.length ≤ 1048576) (hz : ∀ e ∈ l, e.text.length ≤ 1048576) :
    Calls Try.prog 28 #[v, .int .i64 ch] w (StrsPost w (ofL l ch)) := by
  obtain ⟨i0, hi, hz0, hz1, hz2⟩ := info_parts info_str
  have HI := Lib.hid hi
  have HZ0 := Lib.hid hz0
  have HZ1 := Lib.hid hz1
  have HZ2 := Lib.hid hz2
  have hzt := zero_told
  obtain ⟨a, cap, rfl⟩ := h.shape
  have H := Lib.hid h
  have HZ := Lib.hid hz
  clear h hz hi hz0 hz1 hz2
  go_enter Try.func28, Try.ntmps28
  go_wp2
  go_loopw [5, 10] (fun u j wr => ∃ k : Nat, k ≤ l.length ∧ j = .int .i64 k ∧ OS wr w.heap.size u (strs (ofL (l.take k) ch)) ∧ Below w.heap.size w wr) (fun _ j _ => l.length - (intOf j).toNat)
  case atStart => exact ⟨0, Nat.zero_le _, rfl, OS_nil _ _, Below.refl _ _⟩
  case round =>
    obtain ⟨k, hk, rfl, hown, hb⟩ := hrel
    have HO := Lib.hid hown
    have HB := Lib.hid hb
    have HPL := Lib.hid (Nat.le_trans (ofL_len (l.take k) ch) (List.length_take_le _ _))
    have HPS := Lib.hid (strs_len (ofL (l.take k) ch))
    by_cases hlt : k < l.length
    · obtain ⟨g, e0, hlo, hgB, c0, c1⟩ := RE.at_ (H.out.below (hb.mono hB)) hlt
      subst e0
      have HT := Lib.hid (take_ev hlt)
      have hts := HZ.out l[k] (List.getElem_mem _)
      obtain ⟨E, hE⟩ : ∃ E, E = l[k] := ⟨_, rfl⟩
      rw [← hE] at c0 c1 HT hts
      obtain ⟨kk, tt⟩ := E
      simp only at c0 c1 hts
      obtain ⟨T, hT⟩ : ∃ T : ByteArray, T = ⟨tt.toArray⟩ := ⟨_, rfl⟩
      rw [← hT] at c1
      have hTs : T.size ≤ 1048576 := by rw [hT]; exact hts
      have HTL := Lib.hid hT
      have hbk := BK.new wr #[.int .i64 kk, .string T] 32
      have d0 := hbk.cell (i := 0) rfl
      have d1 := hbk.cell (i := 1) rfl
      clear hown hb hE hT hts hbk
      by_cases hc : kk = ch
      · have HN := Lib.hid (show strs (ofL (l.take (k + 1)) ch) = strs (ofL (l.take k) ch) ++ [T] by
          rw [HT.out, ofL_snoc_yes (e := ⟨kk, tt⟩) hc, strs_append, HTL.out]; rfl)
        subst hc
        go_wp2_with fail
        refine (clone_any T _ (by omega)).mono ?_
        rintro e w2 ⟨rfl, hb2⟩
        have HB2 := Lib.hid ((HB.out.alloc HB.out.size _).trans (hb2.mono (by have := HB.out.size; simp; omega)))
        have HO2 := Lib.hid ((HO.out.alloc _).below hb2)
        clear hb2 c0 c1 d0 d1
        go_wp2_with (at_builtin; refine wpList_append_os _ rfl _ _ 25 rfl w.heap.size i0 Try.underlying25 HI.out HZ0.out HZ1.out HZ2.out _ _ rfl (HO2.out.alloc _) _ _ [T] rfl (RS_one w2 T) (by have := HPL.out; have := HPS.out; simp only [List.length_singleton]; omega) (by have := HB2.out.size; simp; omega) ?_; intro v3 w3 hown3 hg3 _)
        go_roundw
        case rel => exact ⟨k + 1, by omega, by go_num, by rw [HN.out]; exact hown3, (HB2.out.alloc HB2.out.size _).grown hg3 (by have := HB2.out.size; simp; omega) (fun j hj => (HO2.out.low j hj).1)⟩
        case measure => simp [intOf]; omega
      · have HN := Lib.hid (show strs (ofL (l.take (k + 1)) ch) = strs (ofL (l.take k) ch) by
          rw [HT.out, ofL_snoc_no (e := ⟨kk, tt⟩) hc])
        have hcb : (kk == ch) = false := beq_eq_false_iff_ne.2 hc
        go_wp2
        go_roundw
        case rel => exact ⟨k + 1, by omega, by go_num, by rw [HN.out]; exact HO.out.alloc _, HB.out.alloc HB.out.size _⟩
        case measure => simp [intOf]; omega
    · have HE := Lib.hid (show l.take k = l from List.take_of_length_le (by omega))
      clear hown hb
      go_wp2
      go_ret
      exact ⟨⟨_, rfl, by have := HO.out; rw [HE.out] at this; exact this⟩, HB.out⟩
end Go.Proofs.Ytplaagkcamjemaa
