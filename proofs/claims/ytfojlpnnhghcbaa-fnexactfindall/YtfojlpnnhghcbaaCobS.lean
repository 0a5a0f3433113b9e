/- CobsGet and LessGet of the program. -/
import Derived.Test.YtfojlpnnhghcbaaCobR
import Derived.Test.YtfojlpnnhghcbaaCobD
namespace Go.Proofs.Ytfojlpnnhghcbaa
open Go.ChangeShapes Go.WideShapes Go.ChangeAt Go.RowKit
def okG (t : List UInt8) : Bool := decide (t.length ≠ 0) && (decide (t.length ≤ 605) && !t.contains 0)
def txt (t : List UInt8) : List UInt8 := (rdB t).1.flatMap txB
def getA (t : List UInt8) : List UInt8 × Bool := if okG t = true ∧ (rdB t).2 = [] then (txt t, true) else ([], false)
def lgetA (t : List UInt8) : List UInt8 × Bool := if okG t = true then (txt t ++ (rdB t).2.drop 1 ++ (rdB t).2.take 1, true) else ([], false)
theorem okG_yes {t : List UInt8} (h : okG t = true) : t.length ≠ 0 ∧ t.length ≤ 605 ∧ nzL t := by
  simp [okG] at h
  refine ⟨by simpa using h.1, h.2.1, fun x hx e => h.2.2 (by rw [← e]; exact hx)⟩
theorem emp_size (s : ByteArray) : s.toList.isEmpty = decide (s.size = 0) := by
  rw [ByteArray.toList_eq, Bool.eq_iff_iff, List.isEmpty_iff, decide_eq_true_iff, ← size_list, List.length_eq_zero_iff]
theorem idx_zero_lt (l : List UInt8) : (decide (Lib.indexByte l 0 < 0)) = !l.contains 0 := by
  by_cases h : (0 : UInt8) ∈ l
  · have h1 : l.contains 0 = true := by simpa using h
    rw [h1]
    have h2 := Lib.indexByte_ge l 0
    have h3 : Lib.indexByte l 0 ≠ -1 := by
      intro e
      obtain ⟨k, hk, he⟩ := List.getElem_of_mem h
      exact Lib.indexByte_none e k (by rw [List.getElem?_eq_getElem hk, he])
    simp; omega
  · have h1 : l.contains 0 = false := by simpa using h
    rw [h1, idx_none h]; rfl
set_option maxRecDepth 100000 in
theorem getOkC_any (s : ByteArray) (w : World) :
    Calls Try.prog 138 #[.string s] w fun e w' => e = .returned (.bool (okG s.data.toList)) ∧ w = w' := by
  have HSL := Lib.hid (size_list s)
  by_cases h0 : s.size = 0
  · have hemp : s.toList.isEmpty = true := by rw [emp_size]; exact decide_eq_true h0
    have HV := Lib.hid (show okG s.data.toList = false by simp [okG, h0])
    go_enter Try.func138, Try.ntmps138
    go_wp2
    go_ret
    exact ⟨by rw [HV.out]; rfl, rfl⟩
  · have hemp : s.toList.isEmpty = false := by rw [emp_size]; exact decide_eq_false h0
    by_cases h6 : s.size ≤ 605
    · have HI := Lib.hid (idx_zero_lt s.data.toList)
      have HV := Lib.hid (show okG s.data.toList = !s.data.toList.contains 0 by rw [okG, HSL.out]; simp [h0, h6])
      go_enter Try.func138, Try.ntmps138
      go_wp2_with fail
      refine (idx_any _ _ _).mono ?_
      rintro e w' ⟨rfl, rfl⟩
      rw [show ((0 : Int).toNat.toUInt8) = 0 from rfl]
      generalize Lib.indexByte s.data.toList 0 = ix at *
      go_wp2
      go_ret
      exact ⟨by rw [HV.out, ← HI.out]; rfl, rfl⟩
    · have HV := Lib.hid (show okG s.data.toList = false by rw [okG, HSL.out]; simp [h6])
      go_enter Try.func138, Try.ntmps138
      go_wp2
      go_ret
      exact ⟨by rw [HV.out]; rfl, rfl⟩
set_option maxRecDepth 100000 in
theorem implCobsGet_any (s : ByteArray) (w : World) :
    Calls Try.prog 136 #[.string s] w fun e w' => e = .returned (.tuple #[.string ⟨(getA s.data.toList).1.toArray⟩, .bool (getA s.data.toList).2]) ∧ Below w.heap.size w w' := by
  have HSL := Lib.hid (size_list s)
  cases hk : okG s.data.toList with
  | false =>
    have HV := Lib.hid (show getA s.data.toList = ([], false) by rw [getA, if_neg (by rw [hk]; simp)])
    go_enter Try.func136, Try.ntmps136
    go_wp2_with (go_at_call 138; refine (getOkC_any _ _).mono ?_; rintro e w' ⟨rfl, rfl⟩)
    go_ret2
    exact ⟨by rw [HV.out]; rfl, Below.refl _ _⟩
  | true =>
    obtain ⟨k1, k2, k3⟩ := okG_yes hk
    rw [HSL.out] at k1 k2
    have K3 := Lib.hid k3
    clear k3
    by_cases hc : (rdB s.data.toList).2 = []
    · have HV := Lib.hid (show getA s.data.toList = (txt s.data.toList, true) by rw [getA, if_pos ⟨hk, hc⟩])
      have HC := Lib.hid hc
      clear hc
      go_enter Try.func136, Try.ntmps136
      go_wp2_with (go_at_call 138; refine (getOkC_any _ _).mono ?_; rintro e w' ⟨rfl, rfl⟩)
      refine (readBlocks_stops s _ K3.out k2 HC.out).mono ?_
      rintro e w1 ⟨v, rfl, hrow, hb⟩
      have HO := Lib.hid (ownsRow_ob hrow)
      have HB := Lib.hid hb
      rw [HC.out]
      clear hrow hb
      go_wp2_with (refine wpList_string_of_OB _ rfl 22 9 5 _ rfl _ _ _ rfl Try.underlying22 Try.underlying5 Try.underlying9 HO.out ?_)
      go_ret2
      exact ⟨by rw [HV.out]; rfl, HB.out⟩
    · have HV := Lib.hid (show getA s.data.toList = ([], false) by rw [getA, if_neg (by rintro ⟨_, h⟩; exact hc h)])
      have HC := Lib.hid hc
      clear hc
      go_enter Try.func136, Try.ntmps136
      go_wp2_with (go_at_call 138; refine (getOkC_any _ _).mono ?_; rintro e w' ⟨rfl, rfl⟩)
      refine (readBlocks_falls s _ K3.out k2 HC.out).mono ?_
      rintro e w1 ⟨v, rfl, hrow, hb⟩
      have HB := Lib.hid hb
      clear hrow hb
      obtain ⟨X, hX⟩ : ∃ X : ByteArray, X = ⟨(rdB s.data.toList).2.toArray⟩ := ⟨_, rfl⟩
      have hXe : X.toList.isEmpty = false := by
        rw [ByteArray.toList_eq, hX]
        cases hq : (rdB s.data.toList).2 with
        | nil => exact absurd hq HC.out
        | cons => rfl
      rw [← hX]
      clear hX
      go_wp2
      go_ret2
      exact ⟨by rw [HV.out]; rfl, HB.out⟩
theorem txt_len (t : List UInt8) : (txt t).length + (rdB t).2.length ≤ t.length := by
  induction hn : t.length using Nat.strongRecOn generalizing t with
  | _ n ih =>
    rcases Nat.lt_or_ge 0 (hdN t) with h | h
    · rcases Nat.lt_or_ge t.length (hdN t) with h2 | h2
      · rw [txt, rdB_cut (.inr h2)]; simp; omega
      · rw [txt, rdB_more h h2]
        have hd := ih (t.drop (hdN t)).length (by rw [List.length_drop]; omega) _ rfl
        rw [List.length_drop] at hd
        simp only [List.flatMap_cons, List.length_append]
        have e : (txB (t.take (hdN t), decide (hdN t < t.length))).length ≤ hdN t := by
          unfold txB
          rw [List.length_append, List.length_drop, List.length_take]
          split <;> simp <;> omega
        show _ + ((rdB (t.drop (hdN t))).1.flatMap txB).length + _ ≤ _
        unfold txt at hd
        omega
    · rw [txt, rdB_cut (.inl (by omega))]; simp; omega
theorem slice_from35 (s : ByteArray) (hk : 1 ≤ s.size) (u : World) : (Instr.slice 149 (.string s) (some (.int .i64 1)) none none).run Try.prog u = .ok (.string (s.extract 1 s.size)) u := by
  rw [run_slice_string_from_if u 149 s .i64 1 Try.underlying149]
  simp; omega
set_option maxRecDepth 100000 in
set_option maxHeartbeats 1000000 in
theorem implLessGet_any (s : ByteArray) (w : World) :
    Calls Try.prog 149 #[.string s] w fun e w' => e = .returned (.tuple #[.string ⟨(lgetA s.data.toList).1.toArray⟩, .bool (lgetA s.data.toList).2]) ∧ Below w.heap.size w w' := by
  obtain ⟨i0, hi, hz0, hz1, hz2⟩ := info_parts info_u8
  have HI := Lib.hid hi
  have HZ0 := Lib.hid hz0
  have HZ1 := Lib.hid hz1
  have HZ2 := Lib.hid hz2
  have HSL := Lib.hid (size_list s)
  clear hi hz0 hz1 hz2
  cases hk : okG s.data.toList with
  | false =>
    have HV := Lib.hid (show lgetA s.data.toList = ([], false) by rw [lgetA, if_neg (by rw [hk]; simp)])
    go_enter Try.func149, Try.ntmps149
    go_wp2_with (go_at_call 138; refine (getOkC_any _ _).mono ?_; rintro e w' ⟨rfl, rfl⟩)
    go_ret2
    exact ⟨by rw [HV.out]; rfl, Below.refl _ _⟩
  | true =>
    obtain ⟨k1, k2, k3⟩ := okG_yes hk
    rw [HSL.out] at k1 k2
    have K3 := Lib.hid k3
    clear k3
    have HV0 := Lib.hid (show lgetA s.data.toList = (txt s.data.toList ++ (rdB s.data.toList).2.drop 1 ++ (rdB s.data.toList).2.take 1, true) by rw [lgetA, if_pos hk])
    by_cases hc : (rdB s.data.toList).2 = []
    · have HV := Lib.hid (show lgetA s.data.toList = (txt s.data.toList, true) by rw [HV0.out, hc]; simp)
      have HC := Lib.hid hc
      clear hc
      go_enter Try.func149, Try.ntmps149
      go_wp2_with (go_at_call 138; refine (getOkC_any _ _).mono ?_; rintro e w' ⟨rfl, rfl⟩)
      refine (readBlocks_stops s _ K3.out k2 HC.out).mono ?_
      rintro e w1 ⟨v, rfl, hrow, hb⟩
      have HO := Lib.hid (ownsRow_ob hrow)
      have HB := Lib.hid hb
      rw [HC.out]
      clear hrow hb
      go_wp2_with (refine wpList_string_of_OB _ rfl 22 9 5 _ rfl _ _ _ rfl Try.underlying22 Try.underlying5 Try.underlying9 HO.out ?_)
      go_ret2
      exact ⟨by rw [HV.out]; rfl, HB.out⟩
    · have HC := Lib.hid hc
      have hlen := txt_len s.data.toList
      rw [HSL.out] at hlen
      clear hc
      go_enter Try.func149, Try.ntmps149
      go_wp2_with (go_at_call 138; refine (getOkC_any _ _).mono ?_; rintro e w' ⟨rfl, rfl⟩)
      refine (readBlocks_falls s w K3.out k2 HC.out).mono ?_
      rintro e w1 ⟨v, rfl, hrow, hb⟩
      have HB := Lib.hid hb
      have HRow := Lib.hid (show w1.ownsRow w.heap.size 5 1 v (txt s.data.toList).length ((txt s.data.toList).map byteV) from hrow)
      clear hrow hb
      obtain ⟨X, hX⟩ : ∃ X : ByteArray, X = ⟨(rdB s.data.toList).2.toArray⟩ := ⟨_, rfl⟩
      have HXL := Lib.hid (show X.data.toList = (rdB s.data.toList).2 by rw [hX])
      rw [← HXL.out] at hlen
      have hX0 : X.size ≠ 0 := fun e => HC.out (by rw [← HXL.out]; exact List.length_eq_zero_iff.1 (by rw [size_list]; exact e))
      have hXe : X.toList.isEmpty = false := by rw [emp_size]; exact decide_eq_false hX0
      rw [size_list] at hlen
      obtain ⟨Y, hY⟩ : ∃ Y : ByteArray, Y = X.extract 1 X.size := ⟨_, rfl⟩
      have s1 : ∀ u : World, (Instr.slice 149 (.string X) (some (.int .i64 1)) none none).run Try.prog u = .ok (.string Y) u := fun u => by rw [hY]; exact slice_from35 X (by omega) u
      have HYL := Lib.hid (show Y.data.toList = X.data.toList.drop 1 by rw [hY, ext_from])
      have hYs : Y.size ≤ X.size := by rw [← size_list Y, HYL.out, List.length_drop, size_list]; omega
      have hXp : 0 < X.size := by omega
      have HH := Lib.hid (show X.data.toList.take 1 = [X[0]] by
        have e := List.drop_eq_getElem_cons (l := X.data.toList) (i := 0) (by simpa using hXp)
        rw [List.drop_zero] at e
        rw [e]; rfl)
      have HV := Lib.hid (show lgetA s.data.toList = (txt s.data.toList ++ Y.data.toList ++ [X[0]], true) by rw [HV0.out, ← HXL.out, HYL.out, HH.out])
      rw [← hX]
      clear hX hY
      generalize txt s.data.toList = out at *
      go_wp2_with (first | (at_builtin; refine Lib.wpList_append_own_string _ rfl _ _ 22 149 rfl w.heap.size 5 i0 Try.underlying22 Try.underlying149 HI.out HZ0.out HZ1.out HZ2.out _ out.length (out.map byteV) rfl HRow.out Y rfl (by unfold maxLen; omega) (by omega) HB.out.size ?_; intro v2 w2 hown2 hg2 _; have HR2 := Lib.hid (show w2.ownsRow w.heap.size 5 1 v2 (out ++ Y.data.toList).length ((out ++ Y.data.toList).map byteV) from (by rw [List.length_append, size_list, List.map_append, ← strCells_map]; exact hown2)); have HB2 := Lib.hid (HB.out.grown hg2 HB.out.size (fun j e => ((ownsRow_ob HRow.out).lt j e).1)); have hn2 := HB2.out.size; clear hown2 hg2) | (at_builtin; refine wpList_append_own _ rfl _ _ 22 rfl w.heap.size 5 i0 (.int .u8 0) 1 1 Try.underlying22 HI.out HZ0.out HZ1.out HZ2.out rfl (by decide) _ _ _ rfl (HR2.out.alloc _) ⟨w2.heap.size, 0, none⟩ 1 1 [.int .u8 (X[0].toNat : Int)] rfl rfl (one_cell w2 _ _) (by simp [Value.oneCell']) (by rw [List.length_append, size_list]; unfold maxLen; omega) (by rw [List.length_append, size_list]; omega) (by rw [World.size_alloc]; omega) ?_; intro v3 w3 hown3 hg3 _; have HO3 := Lib.hid (ownsRow_ob (show w3.ownsRow w.heap.size 5 1 v3 (out ++ Y.data.toList ++ [X[0]]).length ((out ++ Y.data.toList ++ [X[0]]).map byteV) from (by rw [List.length_append, List.map_append]; exact hown3))); have HB3 := Lib.hid ((HB2.out.alloc hn2 _).grown hg3 (by rw [World.size_alloc]; omega) (fun j e => ((ownsRow_ob HR2.out).lt j e).1)); clear hown3 hg3) | (refine wpList_string_of_OB _ rfl 22 9 5 _ rfl w.heap.size _ (out ++ Y.data.toList ++ [X[0]]) rfl Try.underlying22 Try.underlying5 Try.underlying9 HO3.out ?_))
      go_ret2
      exact ⟨by rw [HV.out, List.append_assoc]; rfl, HB3.out⟩
end Go.Proofs.Ytfojlpnnhghcbaa
