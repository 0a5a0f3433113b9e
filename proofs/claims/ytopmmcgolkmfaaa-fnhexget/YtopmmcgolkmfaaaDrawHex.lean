/- Draws for the laws of figures. -/
import Derived.Test.YtopmmcgolkmfaaaDrawD
import Derived.Test.YtopmmcgolkmfaaaDrawStr
import Derived.Test.YtopmmcgolkmfaaaHexC
namespace Go.Proofs.Ytopmmcgolkmfaaa
open Go.ChangeShapes Go.WideShapes Go.ChangeAt Go.RowKit
theorem drawHexPut_any {w : World} (a : Option Addr) (len cap : Nat) (zs : List Int) (h : IsRow .u8 w a len cap zs) :
    Calls Try.prog 7 #[.slice a len cap] w fun e w' => ∃ s : ByteArray, e = .returned (.string s) ∧ s.size ≤ 41 ∧ Below w.heap.size w w' := by
  have HH := Lib.hid h
  clear h
  go_enter Try.func7, Try.ntmps7
  go_wp2_with fail
  refine (open_any a len cap zs HH.out).mono ?_
  rintro e w1 ⟨rfl, hr1, hb1, _⟩
  have HR1 := Lib.hid hr1
  have HB1 := Lib.hid hb1
  clear hr1 hb1
  go_wp2_with fail
  refine (bytes_any 41 HR1.out (by omega) (by omega)).mono ?_
  rintro e w3 ⟨s, rfl, hs, hr3, hg3⟩
  have HB3 := Lib.hid (HB1.out.trans (grown_below hg3 HB1.out.size (Nat.le_refl _)))
  clear hr3 hg3
  go_wp2
  go_ret
  exact ⟨s, rfl, hs, HB3.out⟩
theorem drawHexGet_any {w : World} (a : Option Addr) (len cap : Nat) (zs : List Int) (h : IsRow .u8 w a len cap zs) :
    Calls Try.prog 11 #[.slice a len cap] w fun e w' => ∃ s : ByteArray, e = .returned (.string s) ∧ s.size ≤ 100 ∧ Below w.heap.size w w' := by
  have HH := Lib.hid h
  clear h
  go_enter Try.func11, Try.ntmps11
  go_wp2_with fail
  refine (open_any a len cap zs HH.out).mono ?_
  rintro e w1 ⟨rfl, hr1, hb1, _⟩
  have HR1 := Lib.hid hr1
  have HB1 := Lib.hid hb1
  clear hr1 hb1
  go_wp2_with fail
  refine (bytes_any 10 HR1.out (by omega) (by omega)).mono ?_
  rintro e w2 ⟨s0, rfl, hs0, hr2, hg2⟩
  have HR2 := Lib.hid hr2
  have HB2 := Lib.hid (HB1.out.trans (grown_below hg2 HB1.out.size (Nat.le_refl _)))
  clear hr2 hg2
  go_wp2_with fail
  refine (specHexPut_any s0 _).mono ?_
  rintro e w3 ⟨rfl, hb3⟩
  have HR3 := Lib.hid (HR2.out.grow (below_grown hb3 none) (by simp) (by simp))
  have HB3 := Lib.hid (HB2.out.trans (hb3.mono HB2.out.size))
  clear hb3
  have hsz := putH_len s0.data.toList
  obtain ⟨s, hs⟩ : ∃ s : ByteArray, s = ⟨(putH s0.data.toList).toArray⟩ := ⟨_, rfl⟩
  have hss : s.size ≤ 80 := by rw [← size_list s, hs]; exact hsz
  rw [← hs]
  clear hs hsz
  go_wp2_with fail
  refine (pick_any _ HR3.out (by omega)).mono ?_
  rintro e w4 ⟨⟨x, rfl, _, _⟩, hr4, hg4⟩
  have HR4 := Lib.hid hr4
  have HB4 := Lib.hid (HB3.out.trans (grown_below hg4 HB3.out.size (Nat.le_refl _)))
  clear hr4 hg4
  by_cases hx0 : x = 0
  · subst hx0
    go_wp2
    go_ret
    exact ⟨s, rfl, by omega, HB4.out⟩
  have hxb : ((x : Int) == 0) = false := beq_eq_false_iff_ne.2 hx0
  have hadd : ∀ u : World, (Op.stringOp .add s ⟨#[48]⟩).run Try.prog u = .ok (.string (s ++ ⟨#[48]⟩)) u := fun u => run_string_add_sum u _ _ (by have : (⟨#[48]⟩ : ByteArray).size = 1 := rfl; omega)
  go_wp2_with fail
  refine (bent_any s HR4.out (by omega) (by omega)).mono ?_
  rintro e w6 ⟨u, rfl, hu, hr6, hg6⟩
  have HR6 := Lib.hid hr6
  have HB6 := Lib.hid (HB4.out.trans (grown_below hg6 HB4.out.size (Nat.le_refl _)))
  have hgl := hr6.lt
  clear hr6 hg6
  go_wp2_with fail
  refine (of_any (m := w6.heap.size) [s ++ ⟨#[48]⟩, ⟨#[45]⟩, ⟨#[]⟩, ⟨#[48, 65]⟩, ⟨#[103, 48]⟩, ⟨#[45, 45]⟩, u] 9 (HR6.out.alloc _) (by omega) (by simp) (by simp) (by omega) (heap_alloc_new w6 _)).mono ?_
  rintro e w7 ⟨q, hq, rfl, hr7, hg7⟩
  have HB7 := Lib.hid ((HB6.out.alloc HB6.out.size _).trans (grown_below hg7 (Nat.le_trans HB6.out.size (by simp)) (Nat.le_refl _)))
  have hqs : q.size ≤ 100 := by
    simp only [List.mem_cons, List.not_mem_nil, or_false] at hq
    rcases hq with rfl | rfl | rfl | rfl | rfl | rfl | rfl
    · rw [ByteArray.size_append]; have : (⟨#[48]⟩ : ByteArray).size = 1 := rfl; omega
    · exact of_decide_eq_true rfl
    · exact of_decide_eq_true rfl
    · exact of_decide_eq_true rfl
    · exact of_decide_eq_true rfl
    · exact of_decide_eq_true rfl
    · omega
  clear hr7 hg7 hq
  go_wp2
  go_ret
  exact ⟨q, rfl, hqs, HB7.out⟩
end Go.Proofs.Ytopmmcgolkmfaaa
