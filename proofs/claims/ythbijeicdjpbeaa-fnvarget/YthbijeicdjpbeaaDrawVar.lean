/- Draws for the laws of numbers in bytes. -/
import Derived.Test.YthbijeicdjpbeaaDrawD
import Derived.Test.YthbijeicdjpbeaaDrawStr
import Derived.Test.YthbijeicdjpbeaaVarB
namespace Go.Proofs.Ythbijeicdjpbeaa
open Go.ChangeShapes Go.WideShapes Go.ChangeAt Go.RowKit
theorem slice_top (s : ByteArray) (k : Nat) (hk : k ≤ s.size) (u : World) : (Instr.slice 9 (.string s) none (some (.int .i64 (k : Int))) none).run Try.prog u = .ok (.string (s.extract 0 k)) u := by
  rw [run_slice_string_to_if u 9 s .i64 (k : Int) Try.underlying9]
  simp; omega
theorem drawVarPut_any {w : World} (a : Option Addr) (len cap : Nat) (zs : List Int) (h : IsRow .u8 w a len cap zs) :
    Calls Try.prog 17 #[.slice a len cap] w fun e w' => ∃ x : Int, e = .returned (.int .i64 x) ∧ (-1 ≤ x ∧ x ≤ 9223372036854775807) ∧ Below w.heap.size w w' := by
  have HH := Lib.hid h
  clear h
  go_enter Try.func17, Try.ntmps17
  go_wp2_with fail
  refine (open_any a len cap zs HH.out).mono ?_
  rintro e w1 ⟨rfl, hr1, hb1, _⟩
  have HR1 := Lib.hid hr1
  have HB1 := Lib.hid hb1
  clear hr1 hb1
  go_wp2_with fail
  refine (pick_any _ HR1.out (by omega)).mono ?_
  rintro e w2 ⟨⟨x, rfl, hx, _⟩, hr2, hg2⟩
  obtain ⟨x0, x1⟩ := hx (by omega)
  have HR2 := Lib.hid hr2
  have HB2 := Lib.hid (HB1.out.trans (grown_below hg2 HB1.out.size (Nat.le_refl _)))
  clear hr2 hg2 hx
  go_wp2_with fail
  refine (pick_any _ HR2.out (by omega)).mono ?_
  rintro e w3 ⟨⟨y, rfl, hy, _⟩, hr3, hg3⟩
  obtain ⟨y0, y1⟩ := hy (by omega)
  have HR3 := Lib.hid hr3
  have HB3 := Lib.hid (HB2.out.trans (grown_below hg3 HB2.out.size (Nat.le_refl _)))
  have hgl := hr3.lt
  clear hr3 hg3 hy
  go_wp2_with fail
  refine (one_any (m := w3.heap.size) [0, 127, 128, 16383, 16384, x * 65536 + y, 9223372036854775807, -1] 3 (HR3.out.alloc _) (by omega) (by simp) (by simp) (by omega) (heap_alloc_new w3 _)).mono ?_
  rintro e w4 ⟨z, hz, rfl, hr4, hg4⟩
  have HB4 := Lib.hid ((HB3.out.alloc HB3.out.size _).trans (grown_below hg4 (Nat.le_trans HB3.out.size (by simp)) (Nat.le_refl _)))
  have hzb : -1 ≤ z ∧ z ≤ 9223372036854775807 := by
    simp only [List.mem_cons, List.not_mem_nil, or_false] at hz
    omega
  clear hr4 hg4 hz
  go_wp2
  go_ret
  exact ⟨z, rfl, hzb, HB4.out⟩
theorem drawVarGet_any {w : World} (a : Option Addr) (len cap : Nat) (zs : List Int) (h : IsRow .u8 w a len cap zs) :
    Calls Try.prog 21 #[.slice a len cap] w fun e w' => ∃ s : ByteArray, e = .returned (.string s) ∧ s.size ≤ 100 ∧ Below w.heap.size w w' := by
  have HH := Lib.hid h
  clear h
  go_enter Try.func21, Try.ntmps21
  go_wp2_with fail
  refine (open_any a len cap zs HH.out).mono ?_
  rintro e w1 ⟨rfl, hr1, hb1, _⟩
  have HR1 := Lib.hid hr1
  have HB1 := Lib.hid hb1
  clear hr1 hb1
  go_wp2_with fail
  refine (pick_any _ HR1.out (by omega)).mono ?_
  rintro e w2 ⟨⟨x, rfl, _, _⟩, hr2, hg2⟩
  have HR2 := Lib.hid hr2
  have HB2 := Lib.hid (HB1.out.trans (grown_below hg2 HB1.out.size (Nat.le_refl _)))
  clear hr2 hg2
  by_cases hx0 : x = 0
  · subst hx0
    go_wp2_with fail
    refine (bytes_any 10 HR2.out (by omega) (by omega)).mono ?_
    rintro e w3 ⟨u, rfl, hu, hr3, hg3⟩
    have HR3 := Lib.hid hr3
    have HB3 := Lib.hid (HB2.out.trans (grown_below hg3 HB2.out.size (Nat.le_refl _)))
    have hgl := hr3.lt
    clear hr3 hg3
    go_wp2_with fail
    refine (of_any (m := w3.heap.size) [⟨#[128, 0]⟩, ⟨#[255, 255, 255, 255, 255, 255, 255, 255, 127]⟩, ⟨#[255, 255, 255, 255, 255, 255, 255, 255, 255, 1]⟩, ⟨#[128]⟩, ⟨#[]⟩, u] 9 (HR3.out.alloc _) (by omega) (by simp) (by simp) (by omega) (heap_alloc_new w3 _)).mono ?_
    rintro e w4 ⟨q, hq, rfl, hr4, hg4⟩
    have HB4 := Lib.hid ((HB3.out.alloc HB3.out.size _).trans (grown_below hg4 (Nat.le_trans HB3.out.size (by simp)) (Nat.le_refl _)))
    have hqs : q.size ≤ 100 := by
      simp only [List.mem_cons, List.not_mem_nil, or_false] at hq
      rcases hq with rfl | rfl | rfl | rfl | rfl | rfl
      · exact of_decide_eq_true rfl
      · exact of_decide_eq_true rfl
      · exact of_decide_eq_true rfl
      · exact of_decide_eq_true rfl
      · exact of_decide_eq_true rfl
      · omega
    clear hr4 hg4 hq
    go_wp2
    go_ret
    exact ⟨q, rfl, hqs, HB4.out⟩
  have hxb : ((x : Int) == 0) = false := beq_eq_false_iff_ne.2 hx0
  go_wp2_with fail
  refine (drawVarPut_any a len cap zs (HH.out.keep HB2.out)).mono ?_
  rintro e w3 ⟨n, rfl, hn, hb3⟩
  have HR3 := Lib.hid (HR2.out.grow (below_grown hb3 none) (by simp) (by simp))
  have HB3 := Lib.hid (HB2.out.trans (hb3.mono HB2.out.size))
  clear hb3
  go_wp2_with fail
  refine (specVarPut_any n _ hn.2).mono ?_
  rintro e w4 ⟨rfl, hb4⟩
  have HR4 := Lib.hid (HR3.out.grow (below_grown hb4 none) (by simp) (by simp))
  have HB4 := Lib.hid (HB3.out.trans (hb4.mono HB3.out.size))
  have hsz := putVI_len hn.2
  clear hb4
  obtain ⟨s, hs⟩ : ∃ s : ByteArray, s = ⟨(putVI n).toArray⟩ := ⟨_, rfl⟩
  have hss : s.size ≤ 9 := by rw [← size_list s, hs]; exact hsz
  rw [← hs]
  clear hs hsz
  go_wp2_with fail
  refine (bytes_any 3 HR4.out (by omega) (by omega)).mono ?_
  rintro e w5 ⟨u, rfl, hu, hr5, hg5⟩
  have HB5 := Lib.hid (HB4.out.trans (grown_below hg5 HB4.out.size (Nat.le_refl _)))
  clear hr5 hg5
  have hadd : ∀ v : World, (Op.stringOp .add s u).run Try.prog v = .ok (.string (s ++ u)) v := fun v => run_string_add_sum v _ _ (by omega)
  go_wp2
  go_ret
  exact ⟨s ++ u, rfl, by rw [ByteArray.size_append]; omega, HB5.out⟩
end Go.Proofs.Ythbijeicdjpbeaa
