/- Contracts of StuffPut, StuffGet and StuffMany, in the program. -/
import Derived.Test.YtabdejafmhnaaaaStuffP
namespace Go.Proofs.Ytabdejafmhnaaaa
open Go.ChangeShapes Go.WideShapes Go.ChangeAt Go.RowKit
theorem putA_yes {l : List UInt8} (h : okB l = true) : putA l = putR l := if_pos h
theorem putA_no {l : List UInt8} (h : okB l = false) : putA l = [] := if_neg (by rw [h]; exact Bool.false_ne_true)
theorem putA_len (l : List UInt8) : 5 * (putA l).length ≤ 6 * l.length := by
  unfold putA; split
  · have := (put_len l 0 (by omega)).2; omega
  · simp
set_option maxHeartbeats 1000000 in
theorem implPut_any (s : ByteArray) (w : World) (hs : s.size ≤ 1000000000) :
    Calls Try.prog 33 #[.string s] w fun e w' => e = .returned (.string ⟨(putA s.data.toList).toArray⟩) ∧ Below w.heap.size w w' := by
  have hmax : s.size ≤ maxLen := by unfold maxLen; omega
  cases hk : okB s.data.toList with
  | false =>
    have HK := Lib.hid hk
    go_enter Try.func33, Try.ntmps33
    go_wp2_with (go_at_call 22; refine (implOk_any _ _ hmax).mono ?_; rintro e w' ⟨rfl, rfl⟩)
    go_ret
    exact ⟨by rw [putA_no HK.out]; rfl, Below.refl _ _⟩
  | true =>
    have HK := Lib.hid hk
    go_enter Try.func33, Try.ntmps33
    go_wp2_with (go_at_call 22; refine (implOk_any _ _ hmax).mono ?_; rintro e w' ⟨rfl, rfl⟩)
    refine (putMake _ _).mono ?_
    rintro e w' ⟨rfl, rfl⟩
    go_wp2_with fail
    refine (putWrite s w.heap.size _ (by omega) (heap_alloc_new w _)).mono ?_
    rintro e w2 ⟨rfl, hb⟩
    have HB := Lib.hid (((Below.refl _ _).alloc (Nat.le_refl _) _ : Below w.heap.size w (w.alloc _)).trans (hb.mono (by simp)))
    clear hb
    go_wp2
    go_ret
    exact ⟨by rw [putA_yes HK.out, stuffS_rec]; rfl, HB.out⟩
set_option maxHeartbeats 1000000 in
theorem implGet_any (s : ByteArray) (w : World) (hs : s.size ≤ 100000000) :
    Calls Try.prog 35 #[.string s] w fun e w' => e = .returned (.tuple #[.string ⟨(getA s.data.toList).toArray⟩, .bool (getOk s.data.toList)]) ∧ Below w.heap.size w w' := by
  go_enter Try.func35, Try.ntmps35
  go_wp2_with fail
  refine (getMake _ _).mono ?_
  rintro e w' ⟨rfl, rfl⟩
  go_wp2_with fail
  refine (getWrite s w.heap.size _ (by omega) (heap_alloc_new w _)).mono ?_
  rintro e w2 ⟨rfl, hb⟩
  have HB := Lib.hid (((Below.refl _ _).alloc (Nat.le_refl _) _ : Below w.heap.size w (w.alloc _)).trans (hb.mono (by simp)))
  clear hb
  rw [stuffS_rec]
  have hgl := get_len s.data.toList 0
  rw [size_list] at hgl
  obtain ⟨T, hT⟩ : ∃ T : ByteArray, T = ⟨(getR s.data.toList).toArray⟩ := ⟨_, rfl⟩
  have HTL := Lib.hid (show T.data.toList = getR s.data.toList by rw [hT])
  have hTs : T.size ≤ s.size := by rw [← size_list, HTL.out]; exact hgl
  have HT := Lib.hid hT
  rw [show (⟨(recS getStep 0 s.data.toList).toArray⟩ : ByteArray) = T from hT.symm]
  clear hT hgl
  go_wp2_with fail
  refine (implPut_any T _ (by omega)).mono ?_
  rintro e w3 ⟨rfl, hb⟩
  have HB3 := Lib.hid (HB.out.trans (hb.mono HB.out.size))
  clear hb
  rw [HTL.out]
  obtain ⟨X, hX⟩ : ∃ X : ByteArray, X = ⟨(putA (getR s.data.toList)).toArray⟩ := ⟨_, rfl⟩
  have HXL := Lib.hid (show X.data.toList = putA (getR s.data.toList) by rw [hX])
  rw [← hX]
  clear hX
  by_cases he : X = s
  · have HE := Lib.hid (show putA (getR s.data.toList) = s.data.toList by rw [← HXL.out, he])
    subst he
    go_wp2
    go_ret2
    refine ⟨?_, HB3.out⟩
    rw [getA, if_pos HE.out, getOk, decide_eq_true HE.out, HT.out]
    rfl
  · have HE := Lib.hid (show ¬ putA (getR s.data.toList) = s.data.toList by
      rw [← HXL.out]; intro h; apply he; rw [← Lib.mk_data X, h, Lib.mk_data])
    have hne : (X.toList == s.toList) = false := beq_eq_false_iff_ne.2 (by rw [ByteArray.toList_eq, ByteArray.toList_eq]; intro h; exact HE.out (by rw [← HXL.out, h]))
    clear he
    go_wp2
    go_ret2
    refine ⟨?_, HB3.out⟩
    rw [getA, if_neg HE.out, getOk, decide_eq_false HE.out]
    rfl
def manyA (l : List UInt8) : Int := if okB l = true then ((putR l).length : Int) - (l.length : Int) else -1
set_option maxHeartbeats 1000000 in
theorem implMany_any (s : ByteArray) (w : World) (hs : s.size ≤ 100000000) :
    Calls Try.prog 36 #[.string s] w fun e w' => e = .returned (.int .i64 (manyA s.data.toList)) ∧ Below w.heap.size w w' := by
  have hmax : s.size ≤ maxLen := by unfold maxLen; omega
  cases hk : okB s.data.toList with
  | false =>
    have HK := Lib.hid hk
    go_enter Try.func36, Try.ntmps36
    go_wp2_with (go_at_call 22; refine (implOk_any _ _ hmax).mono ?_; rintro e w' ⟨rfl, rfl⟩)
    go_ret
    exact ⟨ret_int (by rw [manyA, HK.out]; rfl), Below.refl _ _⟩
  | true =>
    have HK := Lib.hid hk
    go_enter Try.func36, Try.ntmps36
    go_wp2_with (first | (go_at_call 22; refine (implOk_any _ _ hmax).mono ?_; rintro e w' ⟨rfl, rfl⟩))
    refine (implPut_any s _ (by omega)).mono ?_
    rintro e w3 ⟨rfl, hb⟩
    rw [putA_yes HK.out]
    obtain ⟨X, hX⟩ : ∃ X : ByteArray, X = ⟨(putR s.data.toList).toArray⟩ := ⟨_, rfl⟩
    have hXl : X.data.toList = putR s.data.toList := by rw [hX]
    rw [show (⟨(recS putStep 0 s.data.toList).toArray⟩ : ByteArray) = X from hX.symm]
    clear hX
    have h1 := put_len s.data.toList 0 (by omega)
    rw [show recS putStep 0 s.data.toList = X.data.toList from hXl.symm, size_list, size_list] at h1
    have HXL := Lib.hid hXl
    have HSL := Lib.hid (size_list s)
    have HSX := Lib.hid (size_list X)
    clear hXl
    go_wp2
    go_ret
    exact ⟨ret_int (by rw [manyA, if_pos HK.out, ← HXL.out, HSL.out, HSX.out]), hb⟩
end Go.Proofs.Ytabdejafmhnaaaa
