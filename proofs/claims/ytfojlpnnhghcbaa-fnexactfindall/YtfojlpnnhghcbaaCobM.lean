/- LessPut of the model. -/
import Derived.Test.YtfojlpnnhghcbaaCobL
namespace Go.Proofs.Ytfojlpnnhghcbaa
open Go.ChangeShapes Go.WideShapes Go.ChangeAt Go.RowKit
def posB (B : List (List UInt8)) (k : Nat) : Nat := ((B.take k).flatMap putB).length
theorem posB_succ {B : List (List UInt8)} {k : Nat} (h : k < B.length) : posB B (k + 1) = posB B k + (B[k].length + 1) := by
  rw [posB, ← List.take_append_getElem h, List.flatMap_append, List.length_append, posB]
  simp [putB_len]
theorem posB_all (B : List (List UInt8)) : posB B B.length = (B.flatMap putB).length := by rw [posB, List.take_length]
theorem posB_mono {B : List (List UInt8)} {k m : Nat} (h : k < m) (hm : m ≤ B.length) : posB B k < posB B m := by
  induction m with
  | zero => omega
  | succ m ih =>
    have h1 := posB_succ (B := B) (k := m) (by omega)
    rcases Nat.lt_or_ge k m with h2 | h2
    · have := ih h2 (by omega); omega
    · have : k = m := by omega
      subst this; omega
theorem posB_at {B : List (List UInt8)} {k : Nat} (h : k < B.length) : (B.flatMap putB)[posB B k]? = some (UInt8.ofNat (B[k].length + 1)) := by
  have e : B = B.take k ++ B[k] :: B.drop (k + 1) := by rw [← List.drop_eq_getElem_cons h, List.take_append_drop]
  have e2 : B.flatMap putB = (B.take k).flatMap putB ++ (putB B[k] ++ (B.drop (k + 1)).flatMap putB) := by
    conv => lhs; rw [e, List.flatMap_append, List.flatMap_cons]
  rw [e2, List.getElem?_append_right (by rw [posB]; exact Nat.le_refl _)]
  simp [posB, putB]
theorem laL_pos (l : List UInt8) : laL l = posB (pcs l) ((pcs l).length - 1) := by rw [laL, posB, List.dropLast_eq_take]
theorem set_take (l : List UInt8) (i m : Nat) (b : UInt8) (h : i < m) (hm : m ≤ l.length) : (l.set i b).take m = l.take i ++ b :: (l.take m).drop (i + 1) := by
  rw [List.set_eq_take_append_cons_drop, if_pos (by omega)]
  have h1 : (l.take i).length = i := by rw [List.length_take]; omega
  rw [List.take_append, h1, List.take_of_length_le (by omega)]
  obtain ⟨j, hj⟩ : ∃ j, m - i = j + 1 := ⟨m - i - 1, by omega⟩
  rw [hj, List.take_succ_cons, List.drop_take]
  congr 3
  omega
theorem string_bD (b : UInt8) (u : World) : (convert 22 9 (.slice (some ⟨u.heap.size, 0, none⟩) 1 1)).run Try.prog (u.alloc (.cells #[.int .u8 (b.toNat : Int)] 5)).drew = .ok (.string ⟨#[b]⟩) (u.alloc (.cells #[.int .u8 (b.toNat : Int)] 5)).drew :=
  run_string_of_OB (P := Try.prog) _ 22 9 5 u.heap.size (.slice (some ⟨u.heap.size, 0, none⟩) 1 1) [b] Try.underlying22 Try.underlying5 Try.underlying9
    (OB.drew (.inr ⟨u.heap.size, 1, #[.int .u8 (b.toNat : Int)], (0, 0), rfl, Nat.le_refl _, heap_alloc_new u _, .inl rfl, Nat.le_refl _, by unfold maxLen; omega, rfl, rfl⟩))
theorem slice_mid (s : ByteArray) (i m : Nat) (hi : i ≤ m) (hm : m ≤ s.size) (u : World) : (Instr.slice 9 (.string s) (some (.int .i64 (i : Int))) (some (.int .i64 (m : Int))) none).run Try.prog u = .ok (.string (s.extract i m)) u := by
  rw [run_slice_string u 9 s .i64 .i64 (i : Int) (m : Int) Try.underlying9 (by omega) (by omega) (by omega)]
  rfl
theorem ext_mid (t : ByteArray) (i m : Nat) : (t.extract i m).data.toList = (t.data.toList.take m).drop i := by
  simp [List.drop_take]
set_option maxRecDepth 100000 in
set_option maxHeartbeats 4000000 in
theorem l6Less_any (l : List UInt8) (t : ByteArray) (w : World) (ht : t.data.toList = cob l) (hl : l.length ≤ 600) :
    Calls Try.prog 84 #[.string t] w fun e w' => e = .returned (.string ⟨(less l).toArray⟩) ∧ Below w.heap.size w w' := by
  have HTL := Lib.hid (size_list t)
  have hts : t.size ≤ 1201 := by have := cob_len l; rw [← HTL.out, ht]; omega
  have hpos : ∀ k, k < (pcs l).length → ∃ q : Nat, posB (pcs l) k < t.size ∧ posB (pcs l) (k + 1) = posB (pcs l) k + (q + 1) ∧ q ≤ 254 ∧ ∀ hi : posB (pcs l) k < t.size, (t[posB (pcs l) k].toNat : Int) = (q : Int) + 1 := by
    intro k h
    have h0 := posB_mono h (Nat.le_refl _)
    rw [posB_all] at h0
    have h1 : posB (pcs l) k < t.size := by rw [← HTL.out, ht]; exact h0
    have h2 : (pcs l)[k].length ≤ 254 := pcs_mem (List.getElem_mem h)
    refine ⟨(pcs l)[k].length, h1, posB_succ h, h2, fun hi => ?_⟩
    have h3 := posB_at h
    have h4 : t.data.toList[posB (pcs l) k]? = some t[posB (pcs l) k] := by rw [List.getElem?_eq_getElem (by rw [HTL.out]; exact hi)]; rfl
    rw [ht] at h4
    rw [cob, h3] at h4
    injection h4 with h4
    rw [← h4, UInt8.toNat_ofNat']; omega
  have HPos := Lib.hid hpos
  have HNE := Lib.hid (pcs_ne l)
  have HT := Lib.hid ht
  clear hpos ht
  go_enter Try.func84, Try.ntmps84
  go_wp2
  go_loopw [3] (fun i wr => ∃ k : Nat, k < (pcs l).length ∧ i = .int .i64 (posB (pcs l) k) ∧ wr = w) (fun i _ => t.size - (intOf i).toNat)
  case atStart => exact ⟨0, List.length_pos_iff.2 HNE.out, by simp [posB], rfl⟩
  case round =>
    obtain ⟨k, hk, rfl, hw⟩ := hrel
    obtain rfl := hw.symm
    obtain ⟨q, p1, p2, p3, p4⟩ := HPos.out k hk
    have p5 := p4 p1
    have HK := Lib.hid hk
    have hP2 : posB (pcs l) (k + 1) ≤ t.size ∧ (k + 1 < (pcs l).length ↔ posB (pcs l) (k + 1) < t.size) := by
      have e : t.size = posB (pcs l) (pcs l).length := by rw [posB_all, ← HTL.out, HT.out]; rfl
      rw [e]
      rcases Nat.lt_or_ge (k + 1) (pcs l).length with h | h
      · have := posB_mono h (Nat.le_refl _)
        exact ⟨by omega, by simp [h, this]⟩
      · have e2 : k + 1 = (pcs l).length := by omega
        rw [e2]; simp
    obtain ⟨P, hP⟩ : ∃ P, P = posB (pcs l) k := ⟨_, rfl⟩
    rw [← hP] at p2
    rw [p2] at hP2
    have HP := Lib.hid hP
    have p1' : P < t.size := by rw [hP]; exact p1
    have p5' : (t[P].toNat : Int) = (q : Int) + 1 := by subst hP; exact p5
    simp only [← hP]
    clear p4 p5 p1
    by_cases hm : P + (q + 1) < t.size
    · have HK1 := Lib.hid (hP2.2.2 hm)
      have HP2 := Lib.hid p2
      clear hP hk p2 hP2
      go_wp2
      go_roundw
      case rel => exact ⟨k + 1, HK1.out, by rw [HP2.out]; go_num, by trivial⟩
      case measure => simp [intOf]; omega
    · have HLa := Lib.hid (show laL l = P by
        have : ¬ k + 1 < (pcs l).length := fun h => hm (hP2.2.1 h)
        have e : (pcs l).length - 1 = k := by omega
        rw [laL_pos, e, hP])
      have hsz : t.size = P + q + 1 := by omega
      have HSZ := Lib.hid hsz
      clear hP hk p2 hP2
      obtain ⟨en, hen⟩ : ∃ en, en = P + q := ⟨_, rfl⟩
      have hte : t.size = en + 1 := by omega
      have hsub : (t.size : Int) - 1 = (en : Int) := by omega
      have hsubw : IntKind.i64.wrap ((t.size : Int) - 1) = (en : Int) := by rw [IntKind.wrap_i64]; omega
      have hel : en < t.size := by omega
      have hxl : t[en].toNat < 256 := t[en].toNat_lt
      obtain ⟨X, hX⟩ : ∃ X, X = t[en] := ⟨_, rfl⟩
      have HWL := Lib.hid (show less l = if P < en ∧ q + 1 ≤ X.toNat then (t.data.toList.set P X).take en else t.data.toList by
        rw [less, HLa.out, ← HT.out, lessW]
        have e1 : t.data.toList.length - 1 = en := by rw [HTL.out]; omega
        have e2 : t.data.toList.getD en 0 = X := by rw [getD_at (by rw [HTL.out]; exact hel), hX]; rfl
        have e3 : (t.data.toList.getD P 0).toNat = q + 1 := by
          rw [getD_at (by rw [HTL.out]; exact p1')]
          have : (t[P].toNat : Int) = (q : Int) + 1 := p5'
          show t[P].toNat = _
          omega
        rw [e1, e2, e3])
      have HX := Lib.hid hX
      have HSZ2 := Lib.hid hte
      have hgap : (t.size : Int) - (P : Int) = (q : Int) + 1 := by omega
      clear hsz hen hte HSZ
      by_cases h1 : 0 < q
      · by_cases h2 : q + 1 ≤ X.toNat
        · have HRes := Lib.hid (show less l = (t.data.toList.set P X).take en by rw [HWL.out, if_pos (by omega)])
          have h2i : (q : Int) + 1 ≤ (t[en].toNat : Int) := by rw [← hX]; omega
          obtain ⟨P1, hP1⟩ : ∃ P1, P1 = P + 1 := ⟨_, rfl⟩
          have hP1i : (P : Int) + 1 = (P1 : Int) := by omega
          have hP1w : IntKind.i64.wrap ((P : Int) + 1) = (P1 : Int) := by rw [IntKind.wrap_i64]; omega
          have s1 := slice_to t P (by omega)
          have s2 : ∀ u : World, (Instr.slice 9 (.string t) (some (.int .i64 (P1 : Int))) (some (.int .i64 (en : Int))) none).run Try.prog u = .ok (.string (t.extract P1 en)) u := fun u => slice_mid t P1 en (by omega) (by omega) u
          have hcv := fun u => run_string_one u t[en]
          have hcvd := string_bD t[en]
          have hadd1 : ∀ u : World, (Op.stringOp .add (t.extract 0 P) ⟨#[t[en]]⟩).run Try.prog u = .ok (.string (t.extract 0 P ++ ⟨#[t[en]]⟩)) u := fun u => run_string_add_sum u _ _ (by have : (⟨#[t[en]]⟩ : ByteArray).size = 1 := rfl; rw [ByteArray.size_extract]; omega)
          have hadd2 : ∀ u : World, (Op.stringOp .add (t.extract 0 P ++ ⟨#[t[en]]⟩) (t.extract P1 en)).run Try.prog u = .ok (.string (t.extract 0 P ++ ⟨#[t[en]]⟩ ++ t.extract P1 en)) u := fun u => run_string_add_sum u _ _ (by have : (⟨#[t[en]]⟩ : ByteArray).size = 1 := rfl; rw [ByteArray.size_append, ByteArray.size_extract, ByteArray.size_extract]; omega)
          have HE := Lib.hid (show (t.extract 0 P ++ ⟨#[t[en]]⟩ ++ t.extract P1 en : ByteArray) = ⟨(less l).toArray⟩ by
            have hq1 : P < en := by omega
            have hq2 : en ≤ t.data.toList.length := by rw [HTL.out]; omega
            rw [HRes.out, set_take t.data.toList P en X hq1 hq2, ← Lib.mk_data (t.extract 0 P ++ ⟨#[t[en]]⟩ ++ t.extract P1 en)]
            congr 2
            rw [ByteArray.data_append, ByteArray.data_append, Array.toList_append, Array.toList_append, ext_mid, ext_mid, hP1, hX]
            simp)
          clear hX hP1
          go_wp2
          go_region
          go_wp2
          go_ret
          refine ⟨?_, ?_⟩
          · rw [← HE.out]; rfl
          · exact ((Below.refl w.heap.size w).alloc (Nat.le_refl _) (.cells #[.int .u8 (t[en].toNat : Int)] 5)).drew
        · have HRes := Lib.hid (show less l = t.data.toList by rw [HWL.out, if_neg (by omega)])
          have h2i : ¬ (q : Int) + 1 ≤ (t[en].toNat : Int) := by rw [← hX]; omega
          clear hX
          go_wp2
          go_ret
          exact ⟨by rw [HRes.out, Lib.mk_data]; rfl, Below.refl _ _⟩
      · have HRes := Lib.hid (show less l = t.data.toList by rw [HWL.out, if_neg (by omega)])
        clear hX
        go_wp2
        go_ret
        exact ⟨by rw [HRes.out, Lib.mk_data]; rfl, Below.refl _ _⟩
end Go.Proofs.Ytfojlpnnhghcbaa
