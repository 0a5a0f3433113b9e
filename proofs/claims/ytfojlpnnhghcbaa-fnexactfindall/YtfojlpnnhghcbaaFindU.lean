/- FindAll at every argument, in the program and in the model. -/
import Derived.Test.YtfojlpnnhghcbaaFindT
namespace Go.Proofs.Ytfojlpnnhghcbaa
open Go.ChangeShapes Go.WideShapes Go.ChangeAt Go.RowKit
set_option maxHeartbeats 1000000 in
theorem implFindAll_any (a b d m : Int) (s : ByteArray) (w : World) (wa : (Lit.int .i64 a).wf = true) (hs : s.size ≤ maxLen) :
    Calls Try.prog 26 #[cfV a b d m, .string s] w (AllPost w (allF ⟨a, b, d, m⟩ s.data.toList)) := by
  unfold maxLen at hs
  cases hc : confB ⟨a, b, d, m⟩ with
  | false =>
    have HE := Lib.hid (show allF ⟨a, b, d, m⟩ s.data.toList = [] by unfold allF; rw [if_neg (by rw [hc]; simp)])
    have HC := Lib.hid hc
    clear hc
    go_enter Try.func26, Try.ntmps26
    go_wp2_with fail
    refine (codecOf_any a b d m _ wa).mono ?_
    rintro e w1 ⟨rfl, hb1⟩
    have HB := Lib.hid (alloc_below hb1)
    rw [HC.out]
    clear hb1
    go_wp2
    go_ret
    exact ⟨_, rfl, by rw [HE.out]; exact World.ownsRow_nil _ _ _ _, HB.out⟩
  | true =>
    by_cases hle : s.size ≤ 600
    · have HE := Lib.hid (show allF ⟨a, b, d, m⟩ s.data.toList = allL ⟨a, b, d, m⟩ s.data.toList by unfold allF; rw [if_pos ⟨hc, by rw [size_list]; exact hle⟩])
      rw [HE.out]
      exact implFindAll_yes a b d m s w wa hc hle
    · have HE := Lib.hid (show allF ⟨a, b, d, m⟩ s.data.toList = [] by unfold allF; rw [if_neg (by rw [size_list]; omega)])
      have HC := Lib.hid hc
      clear hc
      go_enter Try.func26, Try.ntmps26
      go_wp2_with fail
      refine (codecOf_any a b d m _ wa).mono ?_
      rintro e w1 ⟨rfl, hb1⟩
      have HB := Lib.hid (alloc_below hb1)
      rw [HC.out]
      clear hb1
      go_wp2
      go_ret
      exact ⟨_, rfl, by rw [HE.out]; exact World.ownsRow_nil _ _ _ _, HB.out⟩
set_option maxHeartbeats 1000000 in
theorem specFindAll_any (a b d m : Int) (s : ByteArray) (w : World) (hs : s.size ≤ maxLen) :
    Calls Try.prog 27 #[cfV a b d m, .string s] w (AllPost w (allF ⟨a, b, d, m⟩ s.data.toList)) := by
  unfold maxLen at hs
  cases hc : confB ⟨a, b, d, m⟩ with
  | false =>
    have HE := Lib.hid (show allF ⟨a, b, d, m⟩ s.data.toList = [] by unfold allF; rw [if_neg (by rw [hc]; simp)])
    have HC := Lib.hid hc
    clear hc
    go_enter Try.func27, Try.ntmps27
    go_wp2_with fail
    refine (l7ConfOk_any a b d m _).mono ?_
    rintro e w1 ⟨rfl, hb1⟩
    have HB := Lib.hid (alloc_below hb1)
    rw [HC.out]
    clear hb1
    go_wp2
    go_ret
    exact ⟨_, rfl, by rw [HE.out]; exact World.ownsRow_nil _ _ _ _, HB.out⟩
  | true =>
    by_cases hle : s.size ≤ 600
    · have HE := Lib.hid (show allF ⟨a, b, d, m⟩ s.data.toList = allL ⟨a, b, d, m⟩ s.data.toList by unfold allF; rw [if_pos ⟨hc, by rw [size_list]; exact hle⟩])
      rw [HE.out]
      exact specFindAll_yes a b d m s w hc hle
    · have HE := Lib.hid (show allF ⟨a, b, d, m⟩ s.data.toList = [] by unfold allF; rw [if_neg (by rw [size_list]; omega)])
      have HC := Lib.hid hc
      clear hc
      go_enter Try.func27, Try.ntmps27
      go_wp2_with fail
      refine (l7ConfOk_any a b d m _).mono ?_
      rintro e w1 ⟨rfl, hb1⟩
      have HB := Lib.hid (alloc_below hb1)
      rw [HC.out]
      clear hb1
      go_wp2
      go_ret
      exact ⟨_, rfl, by rw [HE.out]; exact World.ownsRow_nil _ _ _ _, HB.out⟩
theorem allF_len (c : Cf) (l : List UInt8) : (allF c l).length ≤ 600 := by
  unfold allF
  split
  · rename_i h; have := allL_len c l; omega
  · simp
end Go.Proofs.Ytfojlpnnhghcbaa
