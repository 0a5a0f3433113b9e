/- Draws for the laws of groups. -/
import Derived.Test.YtjnehfbeokpgpaaDoorHamM
import Derived.Test.YtjnehfbeokpgpaaDoorKitDraw
namespace Go.Proofs.YtjnehfbeokpgpaaDoor
open Go.ChangeShapes Go.WideShapes Go.ChangeAt Go.RowKit
theorem bel_grown {w w' : World} (hb : Below w.heap.size w w') (row : Option Nat) : w.grownBy w' row := ⟨hb.os, hb.tape, hb.output, hb.size, fun k hk _ => hb.block k hk⟩
theorem four_cut (s : ByteArray) (hs : s.size ≤ 100000) : ∃ q : Nat, (s.size : Int) / 4 * 4 = (q : Int) ∧ q ≤ s.size ∧ (q : Int) ≤ (s.size : Int) ∧ (s.size : Int).tdiv 4 * 4 = (q : Int) := by
  refine ⟨s.size / 4 * 4, by omega, by omega, by omega, ?_⟩
  rw [Int.tdiv_eq_ediv_of_nonneg (by omega)]; omega
set_option maxHeartbeats 4000000 in
theorem drawHamPut_any {w : World} (a : Option Addr) (len cap : Nat) (zs : List Int) (h : IsRow .u8 w a len cap zs) :
    Calls Tryd.prog 8 #[.slice a len cap] w fun e w' => ∃ s : ByteArray, e = .returned (.string s) ∧ s.size ≤ 1205 ∧ Below w.heap.size w w' := by
  have HH := Lib.hid h
  clear h
  go_enter Tryd.func8, Tryd.ntmps8
  go_wp2_with fail
  refine (open_any a len cap zs HH.out).mono ?_
  rintro e w1 ⟨rfl, hr1, hb1, _⟩
  have HR1 := Lib.hid hr1
  have HB1 := Lib.hid hb1
  clear hr1 hb1
  go_wp2_with fail
  refine (anyBits_any HR1.out (by omega)).mono ?_
  rintro e w2 ⟨s, rfl, hs, hr2, hg2⟩
  have HR2 := Lib.hid hr2
  have HB2 := Lib.hid (HB1.out.trans (grown_below hg2 HB1.out.size (Nat.le_refl _)))
  clear hr2 hg2
  go_wp2_with fail
  refine (pick_any 6 HR2.out (by omega)).mono ?_
  rintro e w3 ⟨⟨x, rfl, _, _⟩, hr3, hg3⟩
  have HB3 := Lib.hid (HB2.out.trans (grown_below hg3 HB2.out.size (Nat.le_refl _)))
  clear hr3 hg3
  by_cases hx : 0 < x
  · obtain ⟨q, hq1, hq2, hq3, hq4⟩ := four_cut s (by omega)
    have hsl : ∀ u : World, (Instr.slice 9 (.string s) none (some (.int .i64 (q : Int))) none).run Tryd.prog u = .ok (.string (s.extract 0 q)) u := fun u => by
      rw [run_slice_string_to_if u 9 s .i64 (q : Int) Tryd.underlying9]
      simp [hq3]
    go_wp2
    go_ret
    exact ⟨_, rfl, by first | omega | (rw [ByteArray.size_extract]; omega), HB3.out⟩
  · go_wp2
    go_ret
    exact ⟨s, rfl, hs, HB3.out⟩
theorem hamPut_size (s : ByteArray) (hs : s.size ≤ 100) : (⟨(hamPutL s.data.toList).toArray⟩ : ByteArray).size ≤ 700 := by
  rw [← size_list]
  simp only
  cases hk : hamOkB s.data.toList with
  | false => rw [hamPutL_no hk]; simp
  | true =>
    rw [hamPutL_yes hk, hamL_len _ (by rw [size_list]; exact (hamOk_parts hk).2.2), size_list]; omega
set_option maxHeartbeats 4000000 in
theorem drawHamGet_any {w : World} (a : Option Addr) (len cap : Nat) (zs : List Int) (h : IsRow .u8 w a len cap zs) :
    Calls Tryd.prog 13 #[.slice a len cap] w fun e w' => ∃ s : ByteArray, e = .returned (.string s) ∧ s.size ≤ 1205 ∧ Below w.heap.size w w' := by
  have HH := Lib.hid h
  clear h
  go_enter Tryd.func13, Tryd.ntmps13
  go_wp2_with fail
  refine (open_any a len cap zs HH.out).mono ?_
  rintro e w1 ⟨rfl, hr1, hb1, _⟩
  have HR1 := Lib.hid hr1
  have HB1 := Lib.hid hb1
  clear hr1 hb1
  go_wp2_with fail
  refine (bits_any 40 HR1.out (by omega) (by omega)).mono ?_
  rintro e w2 ⟨s, rfl, hs, _, hr2, hg2⟩
  have HR2 := Lib.hid hr2
  have HB2 := Lib.hid (HB1.out.trans (grown_below hg2 HB1.out.size (Nat.le_refl _)))
  clear hr2 hg2
  obtain ⟨q, hq1, hq2, hq3, hq4⟩ := four_cut s (by omega)
  have hsl : ∀ u : World, (Instr.slice 9 (.string s) none (some (.int .i64 (q : Int))) none).run Tryd.prog u = .ok (.string (s.extract 0 q)) u := fun u => by
    rw [run_slice_string_to_if u 9 s .i64 (q : Int) Tryd.underlying9]
    simp [hq3]
  obtain ⟨s2, hs2⟩ : ∃ s2, s.extract 0 q = s2 := ⟨_, rfl⟩
  have hs2s : s2.size ≤ 100 := by rw [← hs2, ByteArray.size_extract]; omega
  rw [hs2] at hsl
  clear hs2
  go_wp2_with fail
  refine (specHam_any s2 _ (by unfold maxLen; omega)).mono ?_
  rintro e w3 ⟨rfl, hb3⟩
  have HR3 := Lib.hid (HR2.out.grow (bel_grown hb3 none) (by simp) (by simp))
  have HB3 := Lib.hid (HB2.out.trans (hb3.mono HB2.out.size))
  have hTs := hamPut_size s2 hs2s
  obtain ⟨T, hT⟩ : ∃ T : ByteArray, T = ⟨(hamPutL s2.data.toList).toArray⟩ := ⟨_, rfl⟩
  rw [← hT] at hTs ⊢
  clear hb3 hT hsl hq1 hq2 hq3 hq4
  go_wp2_with fail
  refine (pick_any 5 HR3.out (by omega)).mono ?_
  rintro e w4 ⟨⟨x, rfl, hx, _⟩, hr4, hg4⟩
  obtain ⟨hx0, hx1⟩ := hx (by omega)
  have HR4 := Lib.hid hr4
  have HB4 := Lib.hid (HB3.out.trans (grown_below hg4 HB3.out.size (Nat.le_refl _)))
  clear hr4 hg4 hx
  rcases (show x = 0 ∨ x = 1 ∨ x = 2 ∨ 3 ≤ x by omega) with rfl | rfl | rfl | h3
  · go_wp2_with fail
    refine (anyBits_any HR4.out (by omega)).mono ?_
    rintro e w5 ⟨u, rfl, hu, hr5, hg5⟩
    have HB5 := Lib.hid (HB4.out.trans (grown_below hg5 HB4.out.size (Nat.le_refl _)))
    clear hr5 hg5
    go_wp2
    go_ret
    exact ⟨u, rfl, hu, HB5.out⟩
  rotate_right
  · have n0 : (x == 0) = false := beq_eq_false_iff_ne.2 (by omega)
    have n1 : (x == 1) = false := beq_eq_false_iff_ne.2 (by omega)
    have n2 : (x == 2) = false := beq_eq_false_iff_ne.2 (by omega)
    go_wp2
    go_ret
    exact ⟨T, rfl, by omega, HB4.out⟩
  all_goals
    go_wp2_with fail
    refine (pick_any _ HR4.out (by omega)).mono ?_
    rintro e w5 ⟨⟨y, rfl, _, _⟩, hr5, hg5⟩
    have HB5 := Lib.hid (HB4.out.trans (grown_below hg5 HB4.out.size (Nat.le_refl _)))
    clear hr5 hg5
    cases hk : turnOkB T.data.toList y with
    | false =>
      have HK := Lib.hid hk
      clear hk
      go_wp2_with fail
      refine (specTurn_no T y _ (by unfold maxLen; omega) HK.out).mono ?_
      rintro e w' ⟨rfl, rfl⟩
      go_wp2
      go_ret
      exact ⟨T, rfl, by omega, HB5.out⟩
    | true =>
      obtain ⟨h1, j, rfl, hj⟩ := turnOk_parts hk
      have H1 := Lib.hid h1
      clear hk h1
      go_wp2_with fail
      refine (specTurn_yes T j _ H1.out hj).mono ?_
      rintro e w6 ⟨rfl, hb6⟩
      have HB6 := Lib.hid (HB5.out.trans (hb6.mono HB5.out.size))
      clear hb6
      obtain ⟨U, hU⟩ : ∃ U : ByteArray, U = ⟨(turnL T.data.toList j).toArray⟩ := ⟨_, rfl⟩
      have hUs : U.size = T.size := by rw [← size_list, hU]; simp only; rw [turnL_len, size_list]
      have hUs2 : U.size ≤ 1205 := by omega
      rw [← hU]
      clear hU hUs
      go_wp2
      go_ret
      exact ⟨U, rfl, hUs2, HB6.out⟩
end Go.Proofs.YtjnehfbeokpgpaaDoor
