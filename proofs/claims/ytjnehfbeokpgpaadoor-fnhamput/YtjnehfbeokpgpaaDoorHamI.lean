/- Groups read, in the program: HamGet. -/
import Derived.Test.YtjnehfbeokpgpaaDoorHamH
namespace Go.Proofs.YtjnehfbeokpgpaaDoor
open Go.ChangeShapes Go.WideShapes Go.ChangeAt Go.RowKit
def getOk7 (l : List UInt8) : Bool := okB l && decide (l.length % 7 = 0)
theorem getOk7_parts {s : ByteArray} (h : getOk7 s.data.toList = true) : okB s.data.toList = true ∧ s.size % 7 = 0 := by
  unfold getOk7 at h
  rw [Bool.and_eq_true, decide_eq_true_iff, size_list] at h
  exact h
theorem take_seven (s : ByteArray) (i : Nat) (h : i + 7 ≤ s.size) : s.data.toList.take (i + 7) = s.data.toList.take i ++ [s[i], s[i + 1], s[i + 2], s[i + 3], s[i + 4], s[i + 5], s[i + 6]] := by
  rw [snoc_take s (i + 6) (by omega), snoc_take s (i + 5) (by omega), snoc_take s (i + 4) (by omega), snoc_take s (i + 3) (by omega), snoc_take s (i + 2) (by omega), snoc_take s (i + 1) (by omega), snoc_take s i (by omega)]
  simp
theorem unhamL_take (s : ByteArray) (i : Nat) (h7 : i % 7 = 0) (h : i + 7 ≤ s.size) : unhamL (s.data.toList.take (i + 7)) = ((unhamL (s.data.toList.take i)).1 ++ data4 (mend [s[i], s[i + 1], s[i + 2], s[i + 3], s[i + 4], s[i + 5], s[i + 6]]), (unhamL (s.data.toList.take i)).2 + wrongN [s[i], s[i + 1], s[i + 2], s[i + 3], s[i + 4], s[i + 5], s[i + 6]]) := by
  rw [take_seven s i h, unhamL_append _ _ (by rw [List.length_take, size_list]; omega), unhamL_seven]
  simp [unhamL]
theorem unhamL_take_len (s : ByteArray) (i : Nat) (h7 : i % 7 = 0) (h : i ≤ s.size) : (unhamL (s.data.toList.take i)).1.length ≤ s.size ∧ (unhamL (s.data.toList.take i)).2 ≤ s.size := by
  have := unhamL_len (s.data.toList.take i) (by rw [List.length_take, size_list]; omega)
  rw [List.length_take, size_list] at this
  omega
/-- the group behind mending, and whether there was something to mend -/
def mendG (l : List Bool) : List Bool := if synN l = 0 then l else flipAt l (synN l)
theorem flip_is (x0 x1 x2 x3 x4 x5 x6 x7 : Bool) (k : Nat) (hk : k < 8) : ∃ z0 z1 z2 z3 z4 z5 z6 z7 : Bool, flipAt [x0, x1, x2, x3, x4, x5, x6, x7] k = [z0, z1, z2, z3, z4, z5, z6, z7] := by
  rcases (show k = 0 ∨ k = 1 ∨ k = 2 ∨ k = 3 ∨ k = 4 ∨ k = 5 ∨ k = 6 ∨ k = 7 by omega) with rfl | rfl | rfl | rfl | rfl | rfl | rfl | rfl <;> exact ⟨_, _, _, _, _, _, _, _, rfl⟩
def MendPost (w : World) (l : List Bool) (e : Ending) (w' : World) : Prop := ∃ z0 z1 z2 z3 z4 z5 z6 z7 : Bool, e = .returned (.tuple #[.agg (g8 z0 z1 z2 z3 z4 z5 z6 z7), .bool (decide (synN l ≠ 0))]) ∧ mendG l = [z0, z1, z2, z3, z4, z5, z6, z7] ∧ Below w.heap.size w w'
theorem mended_any (x0 x1 x2 x3 x4 x5 x6 x7 : Bool) (w : World) :
    Calls Tryd.prog 25 #[.agg (g8 x0 x1 x2 x3 x4 x5 x6 x7)] w (MendPost w [x0, x1, x2, x3, x4, x5, x6, x7]) := by
  have hlt := synN_lt8 x0 x1 x2 x3 x4 x5 x6 x7
  by_cases h0 : synN [x0, x1, x2, x3, x4, x5, x6, x7] = 0
  · refine (mended_no x0 x1 x2 x3 x4 x5 x6 x7 w h0).mono ?_
    rintro e w' ⟨rfl, hb⟩
    exact ⟨_, _, _, _, _, _, _, _, by rw [decide_eq_false (by simpa using h0)], by unfold mendG; rw [if_pos h0], hb⟩
  · obtain ⟨z0, z1, z2, z3, z4, z5, z6, z7, hz⟩ := flip_is x0 x1 x2 x3 x4 x5 x6 x7 (synN [x0, x1, x2, x3, x4, x5, x6, x7]) hlt
    refine (mended_yes x0 x1 x2 x3 x4 x5 x6 x7 (synN [x0, x1, x2, x3, x4, x5, x6, x7]) w rfl (by omega) hlt).mono ?_
    rintro e w' ⟨rfl, hb⟩
    rw [hz]
    exact ⟨z0, z1, z2, z3, z4, z5, z6, z7, by rw [decide_eq_true h0]; rfl, by unfold mendG; rw [if_neg h0, hz], hb⟩
theorem mend_facts : ∀ y0 y1 y2 y3 y4 y5 y6 : Bool, (data4 (mend [bitC y0, bitC y1, bitC y2, bitC y3, bitC y4, bitC y5, bitC y6]) = [bitC ((mendG [false, y0, y1, y2, y3, y4, y5, y6]).getD 3 false), bitC ((mendG [false, y0, y1, y2, y3, y4, y5, y6]).getD 5 false), bitC ((mendG [false, y0, y1, y2, y3, y4, y5, y6]).getD 6 false), bitC ((mendG [false, y0, y1, y2, y3, y4, y5, y6]).getD 7 false)]) ∧
    wrongN [bitC y0, bitC y1, bitC y2, bitC y3, bitC y4, bitC y5, bitC y6] = if synN [false, y0, y1, y2, y3, y4, y5, y6] ≠ 0 then 1 else 0 := by decide +kernel
theorem implHamGet_no (s : ByteArray) (w : World) (hs : s.size ≤ maxLen) (h : getOk7 s.data.toList = false) :
    Calls Tryd.prog 11 #[.string s] w fun e w' => e = .returned (.tuple #[.string ⟨#[]⟩, .int .i64 0, .bool false]) ∧ w = w' := by
  have hs0 := hs
  unfold maxLen at hs0
  cases hk : okB s.data.toList with
  | false =>
    clear h
    go_enter Tryd.func11, Tryd.ntmps11
    go_wp2_with (go_at_call 19; refine (implOk_any _ _ hs).mono ?_; rintro e w' ⟨rfl, rfl⟩)
    exact bodyPost_ret (v := .tuple #[.string ⟨#[]⟩, .int .i64 0, .bool false]) (by simp [results, Tryd.results11, go_sem]) rfl ⟨rfl, rfl⟩
  | true =>
    have hm7 : ((s.size : Int) % 7 != 0) = true := by
      rw [bne_iff_ne]
      intro h0
      unfold getOk7 at h
      rw [hk, Bool.true_and, size_list, decide_eq_false_iff_not] at h
      omega
    clear h
    go_enter Tryd.func11, Tryd.ntmps11
    go_wp2_with (go_at_call 19; refine (implOk_any _ _ hs).mono ?_; rintro e w' ⟨rfl, rfl⟩)
    exact bodyPost_ret (v := .tuple #[.string ⟨#[]⟩, .int .i64 0, .bool false]) (by simp [results, Tryd.results11, go_sem]) rfl ⟨rfl, rfl⟩
set_option maxRecDepth 100000 in
set_option maxHeartbeats 16000000 in
theorem implHamGet_yes (s : ByteArray) (w : World) (h : getOk7 s.data.toList = true) (hdp : DP w) :
    Calls Tryd.prog 11 #[.string s] w fun e w' => e = .returned (.tuple #[.string ⟨(unhamL s.data.toList).1.toArray⟩, .int .i64 ((unhamL s.data.toList).2 : Int), .bool true]) ∧ Below w.heap.size w w' := by
  obtain ⟨hok, h7⟩ := getOk7_parts h
  have hsz := ok_size hok
  have hmax : s.size ≤ maxLen := by unfold maxLen; omega
  obtain ⟨i0, hi, hz0, hz1, hz2⟩ := info_parts info_u8
  have HI := Lib.hid hi
  have HZ0 := Lib.hid hz0
  have HZ1 := Lib.hid hz1
  have HZ2 := Lib.hid hz2
  have H := Lib.hid hok
  have HDP := Lib.hid hdp
  have hm7 : ((s.size : Int) % 7 != 0) = false := by rw [show (s.size : Int) % 7 = 0 by omega]; rfl
  have H7 := Lib.hid h7
  clear hi hz0 hz1 hz2 h h7 hdp
  go_enter Tryd.func11, Tryd.ntmps11
  go_wp2_with (go_at_call 19; refine (implOk_any _ _ hmax).mono ?_; rintro e w' ⟨rfl, rfl⟩)
  clear hok hm7
  go_loopw [5, 6, 7, 8, 9] (fun v n i _ _ wr => ∃ k : Nat, 7 * k ≤ s.size ∧ i = .int .i64 ((7 * k : Nat) : Int) ∧ OB 5 wr w.heap.size v (unhamL (s.data.toList.take (7 * k))).1 ∧ n = .int .i64 ((unhamL (s.data.toList.take (7 * k))).2 : Int) ∧ Below w.heap.size w wr) (fun _ _ i _ _ _ => s.size + 7 - (intOf i).toNat)
  case atStart => exact ⟨0, by omega, rfl, OB.nil _ _ _, rfl, Below.refl _ _⟩
  case round =>
    obtain ⟨k, hk, rfl, hown, rfl, hb⟩ := hrel
    obtain ⟨i, hi7⟩ : ∃ i, 7 * k = i := ⟨_, rfl⟩
    rw [hi7] at hk hown ⊢
    have HI7 := Lib.hid hi7
    have HO := Lib.hid hown
    have HB := Lib.hid hb
    clear hown hb hi7
    obtain ⟨hL1, hL2⟩ := unhamL_take_len s i (by have := HI7.out; omega) (by omega)
    by_cases hlt : i < s.size
    · obtain ⟨i7, hi7, hi7s⟩ : ∃ i7 : Nat, (i : Int) + 7 = (i7 : Int) ∧ i7 ≤ s.size := ⟨i + 7, by omega, by have := HI7.out; have := H7.out; omega⟩
      have hi7n : i7 = i + 7 := by omega
      have hii : (i : Int) ≤ (i7 : Int) := by omega
      have hi7i : (i7 : Int) ≤ (s.size : Int) := by omega
      obtain ⟨t, ht⟩ : ∃ t, s.extract i i7 = t := ⟨_, rfl⟩
      have ht7 : 7 ≤ t.size := by rw [← ht, ByteArray.size_extract]; omega
      have ht7b : t.size ≤ 7 := by rw [← ht, ByteArray.size_extract]; omega
      have e0 : t[0] = s[i + 0]'(by omega) := by subst ht; exact ext_at s i i7 0 hi7s (by omega)
      have e1 : t[1] = s[i + 1]'(by omega) := by subst ht; exact ext_at s i i7 1 hi7s (by omega)
      have e2 : t[2] = s[i + 2]'(by omega) := by subst ht; exact ext_at s i i7 2 hi7s (by omega)
      have e3 : t[3] = s[i + 3]'(by omega) := by subst ht; exact ext_at s i i7 3 hi7s (by omega)
      have e4 : t[4] = s[i + 4]'(by omega) := by subst ht; exact ext_at s i i7 4 hi7s (by omega)
      have e5 : t[5] = s[i + 5]'(by omega) := by subst ht; exact ext_at s i i7 5 hi7s (by omega)
      have e6 : t[6] = s[i + 6]'(by omega) := by subst ht; exact ext_at s i i7 6 hi7s (by omega)
      have HT := Lib.hid (show [s[i], (s[i + 1]'(by omega)), (s[i + 2]'(by omega)), (s[i + 3]'(by omega)), (s[i + 4]'(by omega)), (s[i + 5]'(by omega)), (s[i + 6]'(by omega))] = [bitC ((t[0].toNat : Int) == 49), bitC ((t[1].toNat : Int) == 49), bitC ((t[2].toNat : Int) == 49), bitC ((t[3].toNat : Int) == 49), bitC ((t[4].toNat : Int) == 49), bitC ((t[5].toNat : Int) == 49), bitC ((t[6].toNat : Int) == 49)] by
        rw [e0, e1, e2, e3, e4, e5, e6, one_bit (ok_bit H.out (by omega)), one_bit (ok_bit H.out (by omega)), one_bit (ok_bit H.out (by omega)), one_bit (ok_bit H.out (by omega)), one_bit (ok_bit H.out (by omega)), one_bit (ok_bit H.out (by omega)), one_bit (ok_bit H.out (by omega))]; rfl)
      have HS := Lib.hid (show unhamL (s.data.toList.take i7) = ((unhamL (s.data.toList.take i)).1 ++ data4 (mend [s[i], (s[i + 1]'(by omega)), (s[i + 2]'(by omega)), (s[i + 3]'(by omega)), (s[i + 4]'(by omega)), (s[i + 5]'(by omega)), (s[i + 6]'(by omega))]), (unhamL (s.data.toList.take i)).2 + wrongN [s[i], (s[i + 1]'(by omega)), (s[i + 2]'(by omega)), (s[i + 3]'(by omega)), (s[i + 4]'(by omega)), (s[i + 5]'(by omega)), (s[i + 6]'(by omega))]) by
        subst hi7n
        exact unhamL_take s i (by have := HI7.out; omega) hi7s)
      rw [HT.out] at HS
      have HTE := Lib.hid ht
      clear e0 e1 e2 e3 e4 e5 e6 ht hi7n HT
      generalize unhamL (s.data.toList.take i) = M at *
      obtain ⟨m1, m2⟩ := M
      simp only at hL1 hL2
      go_wp2_with fail
      have hw : (s.extract i i7) = t := HTE.out
      rw [hw]
      clear hw
      refine (groupOf_any t _ _ _ _ _ _ _ _ ht7 rfl rfl rfl rfl rfl rfl rfl ht7b).mono ?_
      rintro e w1 ⟨rfl, hb1⟩
      have HO1 := Lib.hid (HO.out.below hb1 (Nat.le_refl _))
      have HB1 := Lib.hid (HB.out.trans (hb1.mono HB.out.size))
      clear hb1
      generalize ((t[0].toNat : Int) == 49) = y0 at *
      generalize ((t[1].toNat : Int) == 49) = y1 at *
      generalize ((t[2].toNat : Int) == 49) = y2 at *
      generalize ((t[3].toNat : Int) == 49) = y3 at *
      generalize ((t[4].toNat : Int) == 49) = y4 at *
      generalize ((t[5].toNat : Int) == 49) = y5 at *
      generalize ((t[6].toNat : Int) == 49) = y6 at *
      obtain ⟨hF1, hF2⟩ := mend_facts y0 y1 y2 y3 y4 y5 y6
      rw [hF1, hF2] at HS
      clear hF1 hF2
      go_wp2_with fail
      refine (mended_any false y0 y1 y2 y3 y4 y5 y6 _).mono ?_
      rintro e w2 ⟨z0, z1, z2, z3, z4, z5, z6, z7, rfl, hmd, hb2⟩
      rw [hmd] at HS
      simp only [List.getD_cons_succ, List.getD_cons_zero] at HS
      have HO2 := Lib.hid (HO1.out.below hb2 (Nat.le_refl _))
      have HB2 := Lib.hid (HB1.out.trans (hb2.mono HB1.out.size))
      have hsz2 : w.heap.size ≤ w2.heap.size := HB2.out.size
      clear hb2 hmd
      obtain ⟨b, hbb⟩ : ∃ b, decide (synN [false, y0, y1, y2, y3, y4, y5, y6] ≠ 0) = b := ⟨_, rfl⟩
      have HS2 := Lib.hid (show unhamL (s.data.toList.take i7) = (m1 ++ [bitC z3, bitC z5, bitC z6, bitC z7], m2 + if b then 1 else 0) by
        rw [HS.out, ← hbb]
        simp)
      rw [hbb]
      clear hbb HS
      have hz := BK.new w2 (g8 false false false false false false false false) 38
      have f0 := hz.free 0
      have f1 := hz.free 1
      have f2 := hz.free 2
      have f3 := hz.free 3
      have f4 := hz.free 4
      have f5 := hz.free 5
      have f6 := hz.free 6
      have f7 := hz.free 7
      have q0 := hz.cell (i := 0) rfl
      have q1 := hz.cell (i := 1) rfl
      have q2 := hz.cell (i := 2) rfl
      have q3 := hz.cell (i := 3) rfl
      have q4 := hz.cell (i := 4) rfl
      have q5 := hz.cell (i := 5) rfl
      have q6 := hz.cell (i := 6) rfl
      have q7 := hz.cell (i := 7) rfl
      have hre := BK.new w2 (g8 z0 z1 z2 z3 z4 z5 z6 z7) 38
      have r0 := hre.cell (i := 0) rfl
      have r1 := hre.cell (i := 1) rfl
      have r2 := hre.cell (i := 2) rfl
      have r3 := hre.cell (i := 3) rfl
      have r4 := hre.cell (i := 4) rfl
      have r5 := hre.cell (i := 5) rfl
      have r6 := hre.cell (i := 6) rfl
      have r7 := hre.cell (i := 7) rfl
      have HB3 := Lib.hid (HB2.out.alloc HB2.out.size (.cells (g8 z0 z1 z2 z3 z4 z5 z6 z7) 38))
      have HO3 := Lib.hid (HO2.out.alloc (.cells (g8 z0 z1 z2 z3 z4 z5 z6 z7) 38))
      clear hz hre
      cases b
      all_goals
        go_wp2_with fail
        refine (data_any z0 z1 z2 z3 z4 z5 z6 z7 _ (HDP.out.from HB3.out)).mono ?_
        rintro e w3 ⟨v2, rfl, ho2, hb3⟩
        obtain ⟨g, cap, hv, _, _, _, _⟩ := ho2.pos (by simp)
        subst hv
        have HC := Lib.hid (ho2.cells (g := g) rfl)
        have HO4 := Lib.hid (HO3.out.below hb3 (Nat.le_refl _))
        have HB4 := Lib.hid (HB3.out.trans (hb3.mono HB3.out.size))
        clear hb3 ho2
        go_wp2_with (at_builtin; refine wpList_append_OB _ rfl _ _ 22 rfl w.heap.size 5 i0 Tryd.underlying22 HI.out HZ0.out HZ1.out HZ2.out _ m1 rfl HO4.out ⟨g, 0, none⟩ 4 cap [bitC z3, bitC z5, bitC z6, bitC z7] rfl rfl HC.out (by simp; omega) (by have := HB4.out.size; omega) ?_; intro v3 w4 hown3 hg3)
        go_roundw
        case rel =>
          refine ⟨k + 1, by have := HI7.out; omega, val_int (by have := HI7.out; omega), ?_, ?_, ?_⟩
          · rw [show 7 * (k + 1) = i7 by have := HI7.out; omega, HS2.out]; exact hown3
          · rw [show 7 * (k + 1) = i7 by have := HI7.out; omega, HS2.out]; first | rfl | exact val_int (by simp)
          · exact HB4.out.grown hg3 (by have := HB4.out.size; omega) (fun k hk => (HO4.out.lt k hk).1)
        case measure => simp [intOf]; omega
    · have HE := Lib.hid (take_all s i (by omega))
      go_wp2_with (refine wpList_string_of_OB _ rfl 22 9 5 _ rfl w.heap.size _ _ rfl Tryd.underlying22 Tryd.underlying5 Tryd.underlying9 HO.out ?_)
      rw [HE.out]
      exact bodyPost_ret (v := .tuple #[.string ⟨(unhamL s.data.toList).1.toArray⟩, .int .i64 ((unhamL s.data.toList).2 : Int), .bool true]) (by simp [results, Tryd.results11, go_sem]) rfl ⟨rfl, HB.out⟩
end Go.Proofs.YtjnehfbeokpgpaaDoor
