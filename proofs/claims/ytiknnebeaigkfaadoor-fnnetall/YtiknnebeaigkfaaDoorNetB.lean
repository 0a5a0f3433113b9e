/- Nets in the model: written, read, all that stand one behind the other. -/
import Derived.Test.YtiknnebeaigkfaaDoorNetA
import Derived.RegionTactic
namespace Go.Proofs.YtiknnebeaigkfaaDoor
open Go.ChangeShapes Go.WideShapes Go.ChangeAt Go.RowKit
open Go.Lib (decDigits itoa)
theorem net_fail {t : List UInt8} (h : ¬ (0 ≤ numL (wordL t) ∧ numL (wordL t) ≤ 600 ∧ numL (wordL t) < (restL t).length ∧ (restL t).getD (numL (wordL t)).toNat 0 = 44)) : netGetL t = ([], 0) := by
  unfold netGetL
  rw [if_neg]
  unfold netOkB
  rw [decide_eq_false h]
  decide
theorem net_none {t : List UInt8} (h : 58 ∉ t) : netGetL t = ([], 0) := by
  refine net_fail (fun hh => ?_)
  have := (word_none h).2
  rw [this] at hh
  have h1 := hh.1
  have h2 := hh.2.2.1
  rw [List.length_nil] at h2
  omega
theorem net_yes {t : List UInt8} {m : Nat} (hz : numL (wordL t) = (m : Int)) (h6 : m ≤ 600) (hl : m < (restL t).length) (h44 : (restL t)[m] = 44) : netGetL t = ((restL t).take m, (wordL t).length + 1 + m + 1) := by
  unfold netGetL
  rw [if_pos, hz]
  · rfl
  · unfold netOkB
    rw [hz]
    refine decide_eq_true ⟨by omega, by omega, by omega, ?_⟩
    rw [show ((m : Int)).toNat = m from rfl, List.getD_eq_getElem?_getD, List.getElem?_eq_getElem hl]
    exact h44
theorem put_yes {s : List UInt8} (h : s.length ≤ 600) : netPutL s = decDigits s.length ++ [58] ++ s ++ [44] := by unfold netPutL; rw [if_neg (by omega)]
theorem put_no {s : List UInt8} (h : 600 < s.length) : netPutL s = [] := by unfold netPutL; rw [if_pos h]
def NPutPost (w : World) (s : ByteArray) (e : Ending) (w' : World) : Prop := e = .returned (.string ⟨(netPutL s.data.toList).toArray⟩) ∧ Below w.heap.size w w'
def NGetPost (w : World) (s : ByteArray) (e : Ending) (w' : World) : Prop := e = .returned (.tuple #[.string ⟨(netGetL s.data.toList).1.toArray⟩, .int .i64 ((netGetL s.data.toList).2 : Nat)]) ∧ Below w.heap.size w w'
def strN (l : List UInt8) : ByteArray := ⟨l.toArray⟩
def NAllPost (w : World) (s : ByteArray) (e : Ending) (w' : World) : Prop := (∃ v, e = .returned (.tuple #[v, .bool (netAllL s.data.toList).2]) ∧ OS w' w.heap.size v ((netAllL s.data.toList).1.map strN)) ∧ Below w.heap.size w w'
set_option maxRecDepth 100000 in
set_option maxHeartbeats 800000 in
theorem specNetPut_any (s : ByteArray) (w : World) :
    Calls Tryd.prog 11 #[.string s] w (NPutPost w s) := by
  have HSL := Lib.hid (size_list s)
  by_cases hbig : 600 < s.size
  · have HE := Lib.hid (put_no (s := s.data.toList) (by rw [HSL.out]; exact hbig))
    go_enter Tryd.func11, Tryd.ntmps11
    go_wp2
    go_ret
    exact ⟨by rw [HE.out]; rfl, Below.refl _ _⟩
  obtain ⟨D, hD⟩ : ∃ D : ByteArray, D = ⟨(decDigits s.size).toArray⟩ := ⟨_, rfl⟩
  have hDs : D.size ≤ 4 := by rw [hD, size_of_list]; exact dec_len 3 s.size (by omega)
  have HPE := Lib.hid (show ((D ++ ⟨#[58]⟩) ++ s) ++ ⟨#[44]⟩ = ⟨(netPutL s.data.toList).toArray⟩ by
    rw [put_yes (by rw [HSL.out]; omega), HSL.out, hD]
    exact (Lib.mk_data _).symm.trans (by congr 1))
  have HDD := Lib.hid (fun u => l1Dec_any s.size (by omega) u)
  rw [← hD] at HDD
  clear hD
  go_enter Tryd.func11, Tryd.ntmps11
  go_wp2_with fail
  refine (HDD.out _).mono ?_
  rintro e w1 ⟨rfl, hb⟩
  have HB := Lib.hid hb
  clear hb
  go_wp2
  go_ret
  exact ⟨by rw [← HPE.out]; rfl, HB.out⟩
theorem l1InN_any (x a b : Int) (w : World) :
    Calls Tryd.prog 33 #[.int .i64 x, .int .i64 a, .int .i64 b] w fun e w' => e = .returned (.bool (decide (a ≤ x ∧ x ≤ b))) ∧ w = w' := by
  by_cases h1 : a ≤ x
  · by_cases h2 : x ≤ b
    · rw [decide_eq_true ⟨h1, h2⟩]
      go_enter Tryd.func33, Tryd.ntmps33
      go_wp2
      go_ret
      exact ⟨rfl, rfl⟩
    · rw [decide_eq_false (fun h => h2 h.2)]
      go_enter Tryd.func33, Tryd.ntmps33
      go_wp2
      go_ret
      exact ⟨rfl, rfl⟩
  · rw [decide_eq_false (fun h => h1 h.1)]
    go_enter Tryd.func33, Tryd.ntmps33
    go_wp2
    go_ret
    exact ⟨rfl, rfl⟩
set_option maxRecDepth 100000 in
set_option maxHeartbeats 1600000 in
theorem specNetGet_any (s : ByteArray) (w : World) (hs : s.size ≤ 1048576) :
    Calls Tryd.prog 14 #[.string s] w (NGetPost w s) := by
  by_cases hin : 58 ∈ s.data.toList
  · have hc : cutN s = [⟨(wordL s.data.toList).toArray⟩, ⟨(restL s.data.toList).toArray⟩] := by unfold cutN; rw [if_pos hin]
    have hsp := congrArg List.length (word_split hin).1
    have HSL := Lib.hid (size_list s)
    obtain ⟨W, hW⟩ : ∃ W : ByteArray, W = ⟨(wordL s.data.toList).toArray⟩ := ⟨_, rfl⟩
    obtain ⟨R, hR⟩ : ∃ R : ByteArray, R = ⟨(restL s.data.toList).toArray⟩ := ⟨_, rfl⟩
    have hWl : W.data.toList = wordL s.data.toList := by rw [hW]
    have hRl : R.data.toList = restL s.data.toList := by rw [hR]
    have hWs : W.size = (wordL s.data.toList).length := by rw [← hWl, size_list]
    have hRs : R.size = (restL s.data.toList).length := by rw [← hRl, size_list]
    have hWR : W.size + R.size < s.size := by
      rw [List.length_append, List.length_cons, ← hWs, ← hRs, HSL.out] at hsp; omega
    rw [← hW, ← hR] at hc
    obtain ⟨z, hz⟩ : ∃ z, z = numL (wordL s.data.toList) := ⟨_, rfl⟩
    have hzb := num_lt (wordL s.data.toList)
    rw [← hz] at hzb
    have HC := Lib.hid (fun u => l1CutN_any s u hs)
    have HN := Lib.hid (fun u => l1Num_any W u)
    rw [hWl, ← hz] at HN
    have HWL := Lib.hid hWl
    have HRL := Lib.hid hRl
    have HWS := Lib.hid hWs
    have HRS := Lib.hid hRs
    have HCC := Lib.hid hc
    have HZ := Lib.hid hz
    clear hsp hWl hRl hWs hRs hc hW hR hz hin
    go_enter Tryd.func14, Tryd.ntmps14
    go_wp2_with fail
    refine (HC.out _).mono ?_
    rintro e w1 ⟨⟨v, rfl, hos⟩, hb⟩
    rw [HCC.out] at hos
    have HB := Lib.hid hb
    obtain ⟨g, cap, rfl, hgl, hgh⟩ := hos.pos (by simp)
    have c0 := hos.cellAt (k := 0) (by simp)
    have c1 := hos.cellAt (k := 1) (by simp)
    have e0 : ([W, R] : List ByteArray)[0] = W := rfl
    have e1 : ([W, R] : List ByteArray)[1] = R := rfl
    rw [e0] at c0
    rw [e1] at c1
    clear hos hb e0 e1
    rw [show ([W, R] : List ByteArray).length = 2 from rfl]
    go_wp2_with fail
    refine (HN.out _).mono ?_
    rintro e w1b ⟨rfl, rfl⟩
    have HI := Lib.hid (fun u => l1InN_any z 0 600 u)
    by_cases hok : 0 ≤ z ∧ z ≤ 600
    · rw [decide_eq_true hok] at HI
      obtain ⟨m, rfl⟩ := Int.eq_ofNat_of_zero_le hok.1
      have hm6 : m ≤ 600 := by omega
      clear hok hzb
      by_cases hlt : m < R.size
      · have hb8 := UInt8.toNat_lt R[m]
        by_cases h44 : R[m].toNat = 44
        · have HY := Lib.hid (net_yes (t := s.data.toList) HZ.out.symm hm6 (by rw [← HRS.out]; exact hlt) (by
            have : (restL s.data.toList)[m]'(by rw [← HRS.out]; exact hlt) = R[m] := by
              simp only [← HRL.out]; rfl
            rw [this]; exact UInt8.toNat_inj.1 h44))
          have hsl := nsl_to R m (by omega)
          have HXV := Lib.hid (nx_to R m)
          obtain ⟨X, hX⟩ : ∃ X : ByteArray, X = R.extract 0 m := ⟨_, rfl⟩
          rw [← hX] at hsl HXV
          have hn44 : ((R[m].toNat : Int) != 44) = false := by rw [h44]; rfl
          have hw1 : IntKind.i64.wrap ((W.size : Int) + (m : Int)) = (W.size : Int) + (m : Int) := wrap_in _ (by omega) (by omega)
          have hw2 : IntKind.i64.wrap ((W.size : Int) + (m : Int) + 2) = (W.size : Int) + (m : Int) + 2 := wrap_in _ (by omega) (by omega)
          clear h44 hX
          go_wp2_with fail
          refine (HI.out _).mono ?_
          rintro e w1b ⟨rfl, rfl⟩
          go_wp2_with fail
          go_region
          go_wp2
          go_ret2
          refine ⟨?_, HB.out.drew⟩
          rw [HY.out, HXV.out, HRL.out, ← HWS.out]
          show _ = Ending.returned (.tuple #[.string _, .int .i64 ((W.size + 1 + m + 1 : Nat) : Int)])
          rw [show ((W.size + 1 + m + 1 : Nat) : Int) = (W.size : Int) + (m : Int) + 2 by omega]
          rfl
        · have HY := Lib.hid (net_fail (t := s.data.toList) (fun h => h44 (by
            have h2 := h.2.2.2
            rw [← HZ.out, show ((m : Int)).toNat = m from rfl, ← HRL.out, List.getD_eq_getElem?_getD, List.getElem?_eq_getElem (by rw [size_list]; exact hlt)] at h2
            have h3 : R[m] = 44 := h2
            rw [h3]; rfl)))
          have hn44 : ((R[m].toNat : Int) != 44) = true := bne_iff_ne.2 (by omega)
          clear h44
          go_wp2_with fail
          refine (HI.out _).mono ?_
          rintro e w1b ⟨rfl, rfl⟩
          go_wp2
          go_ret2
          exact ⟨by rw [HY.out]; rfl, HB.out⟩
      · have HY := Lib.hid (net_fail (t := s.data.toList) (fun h => hlt (by
          have h2 := h.2.2.1
          rw [← HZ.out, ← HRS.out] at h2; omega)))
        go_wp2_with fail
        refine (HI.out _).mono ?_
        rintro e w1b ⟨rfl, rfl⟩
        go_wp2
        go_ret2
        exact ⟨by rw [HY.out]; rfl, HB.out⟩
    · have HY := Lib.hid (net_fail (t := s.data.toList) (fun h => hok (by rw [HZ.out]; exact ⟨h.1, h.2.1⟩)))
      rw [decide_eq_false hok] at HI
      clear hok
      go_wp2_with fail
      refine (HI.out _).mono ?_
      rintro e w1b ⟨rfl, rfl⟩
      go_wp2
      go_ret2
      exact ⟨by rw [HY.out]; rfl, HB.out⟩
  · have HY := Lib.hid (net_none hin)
    have HCC := Lib.hid (show cutN s = [s] by unfold cutN; rw [if_neg hin])
    have HN := Lib.hid (fun u => l1Num_any s u)
    have HC := Lib.hid (fun u => l1CutN_any s u hs)
    clear hin
    go_enter Tryd.func14, Tryd.ntmps14
    go_wp2_with fail
    refine (HC.out _).mono ?_
    rintro e w1 ⟨⟨v, rfl, hos⟩, hb⟩
    rw [HCC.out] at hos
    have HB := Lib.hid hb
    obtain ⟨g, cap, rfl, hgl, hgh⟩ := hos.pos (by simp)
    have c0 := hos.cellAt (k := 0) (by simp)
    have e0 : ([s] : List ByteArray)[0] = s := rfl
    rw [e0] at c0
    clear hos hb e0
    rw [show ([s] : List ByteArray).length = 1 from rfl]
    go_wp2_with fail
    refine (HN.out _).mono ?_
    rintro e w1b ⟨rfl, rfl⟩
    go_wp2
    go_ret2
    exact ⟨by rw [HY.out]; rfl, HB.out⟩
theorem nb_list (s : ByteArray) : s.toList.isEmpty = decide (s.size = 0) := by
  rw [Lib.toList_data, ← size_list]
  cases s.data.toList <;> rfl
theorem nb_zero {s : ByteArray} (h : s.size = 0) : s.data.toList = [] := List.eq_nil_of_length_eq_zero (by rw [size_list]; exact h)
theorem nb_ne {s : ByteArray} (h : s.size ≠ 0) : s.data.toList ≠ [] := fun e => h (by rw [← size_list, e]; rfl)
def strLen : Value → Nat
  | .string s => s.size
  | _ => 0
theorem all_end {t : List UInt8} {ys : List (List UInt8)} (h : curRun netGetL 12 t = (ys, [])) : netAllL t = (ys, true) := by unfold netAllL; rw [h, if_pos rfl]
theorem all_left {t r : List UInt8} {ys : List (List UInt8)} (h : curRun netGetL 12 t = (ys, r)) (hr : r ≠ []) : netAllL t = ([], false) := by unfold netAllL; rw [h, if_neg hr]
set_option maxRecDepth 100000 in
set_option maxHeartbeats 1600000 in
theorem specNetAll_any (s : ByteArray) (w : World) (hs : s.size ≤ 1048576) :
    Calls Tryd.prog 17 #[.string s] w (NAllPost w s) := by
  obtain ⟨i0, hi, hz0, hz1, hz2⟩ := info_parts info_str
  have HI := Lib.hid hi
  have HZ0 := Lib.hid hz0
  have HZ1 := Lib.hid hz1
  have HZ2 := Lib.hid hz2
  have HSL := Lib.hid (size_list s)
  clear hi hz0 hz1 hz2
  go_enter Tryd.func17, Tryd.ntmps17
  go_wp2
  go_loopw [0, 4] (fun t v wr => ∃ (ys : List (List UInt8)) (r : ByteArray), t = .string r ∧ CurAt netGetL 12 s.data.toList ys r.data.toList ∧ r.size ≤ s.size ∧ OS wr w.heap.size v (ys.map strN) ∧ Below w.heap.size w wr) (fun t _ _ => strLen t)
  case atStart => exact ⟨[], s, rfl, CurAt.start _ _ _, Nat.le_refl _, OS_made w rfl, (Below.refl _ _).alloc (Nat.le_refl _) _⟩
  case round =>
    obtain ⟨ys, r, rfl, hcur, hr, hown, hb⟩ := hrel
    have HC := Lib.hid hcur
    have HO := Lib.hid hown
    have HB := Lib.hid hb
    have hyl : ys.length ≤ 12 := hcur.1
    obtain ⟨va, vc, rfl⟩ := hown.reads.shape
    clear hown hb hcur
    rw [List.length_map] at HO ⊢
    by_cases h0 : r.size = 0
    · have HE := Lib.hid (all_end (by have := HC.out.done (by rw [nb_zero h0]; exact netGet_nil); rw [nb_zero h0] at this; exact this))
      have hem : r.toList.isEmpty = true := by rw [nb_list]; exact decide_eq_true h0
      clear h0
      go_wp2
      go_ret2
      refine ⟨⟨_, by rw [HE.out]; rfl, ?_⟩, HB.out⟩
      rw [HE.out]
      exact HO.out
    · have HNE := Lib.hid (nb_ne h0)
      have hem : r.toList.isEmpty = false := by rw [nb_list]; exact decide_eq_false h0
      have HG := Lib.hid (fun u => specNetGet_any r u (by omega))
      have hgl := netGet_le r.data.toList
      rw [size_list] at hgl
      go_wp2_with fail
      refine (HG.out _).mono ?_
      rintro e w2 ⟨rfl, hb2⟩
      have HB2 := Lib.hid (HB.out.trans (hb2.mono HB.out.size))
      have HO2 := Lib.hid (HO.out.below hb2)
      clear hb2
      by_cases hn : (netGetL r.data.toList).2 = 0
      · have HE := Lib.hid (all_left (HC.out.done hn) HNE.out)
        rw [hn]
        go_wp2
        go_ret2
        refine ⟨⟨_, by rw [HE.out]; rfl, ?_⟩, HB2.out⟩
        rw [HE.out]
        exact OS_nil _ _
      · by_cases h12 : ys.length < 12
        · have HST := Lib.hid (HC.out.step h12 hn)
          have HNX := Lib.hid (nx_from r (netGetL r.data.toList).2)
          have hsl := nsl_from r (netGetL r.data.toList).2 hgl
          have hnz : (((netGetL r.data.toList).2 : Int) == 0) = false := beq_eq_false_iff_ne.2 (by omega)
          generalize (netGetL r.data.toList).1 = x at *
          generalize (netGetL r.data.toList).2 = n at *
          obtain ⟨X, hX⟩ : ∃ X : ByteArray, X = r.extract n r.size := ⟨_, rfl⟩
          rw [← hX] at hsl HNX
          have hXs : X.size = r.size - n := by rw [HNX.out, size_of_list, List.length_drop, size_list]
          clear hX
          go_wp2_with (at_builtin; refine wpList_append_os _ rfl _ _ 29 rfl w.heap.size i0 Tryd.underlying29 HI.out HZ0.out HZ1.out HZ2.out _ (ys.map strN) rfl (HO2.out.alloc _) _ _ [strN x] rfl (RS_one w2 (strN x)) (by simp; omega) (by have := HB2.out.size; simp; omega) ?_; intro v2 w3 hos3 hg3 hat3)
          go_roundw
          case rel =>
            refine ⟨ys ++ [x], X, rfl, ?_, by omega, ?_, (HB2.out.alloc HB2.out.size _).grown hg3 (by have := HB2.out.size; simp; omega) (fun j hj => (HO2.out.low j hj).1)⟩
            · have : X.data.toList = r.data.toList.drop n := by rw [HNX.out]
              rw [this]; exact HST.out
            · rw [List.map_append]; exact hos3
          case measure => simp [strLen]; omega
        · have HE := Lib.hid (all_left (HC.out.full (by omega)) HNE.out)
          have hnz : (((netGetL r.data.toList).2 : Int) == 0) = false := beq_eq_false_iff_ne.2 (by omega)
          go_wp2
          go_ret2
          refine ⟨⟨_, by rw [HE.out]; rfl, ?_⟩, HB2.out⟩
          rw [HE.out]
          exact OS_nil _ _
end Go.Proofs.YtiknnebeaigkfaaDoor
