/- A line cut at its spaces, in the model. -/
import Derived.Test.YtcegpcggdcgjbaaGreatDoorSesP
import Derived.Test.YtcegpcggdcgjbaaGreatDoorOs
import Derived.Test.YtcegpcggdcgjbaaGreatDoorKitCobE
namespace Go.Proofs.YtcegpcggdcgjbaaGreatDoor
open Go.ChangeShapes Go.WideShapes Go.ChangeAt Go.RowKit
theorem ext_segC (s : ByteArray) (i m : Nat) : (s.extract i m).data.toList = (s.data.toList.take m).drop i := by rw [Lib.extract_data, List.drop_take]
theorem cutS_mono (c : UInt8) (l : List UInt8) (k : Nat) : (cutS c (l.take k)).1.length ≤ (cutS c l).1.length := by
  have h : ∀ (m : List UInt8) (p : List (List UInt8) × List UInt8), p.1.length ≤ (m.foldl (cutG c) p).1.length := by
    intro m
    induction m with
    | nil => exact fun p => Nat.le_refl _
    | cons b m ih =>
      intro p
      refine Nat.le_trans ?_ (ih (cutG c p b))
      unfold cutG
      split
      · simp
      · exact Nat.le_refl _
  have e : cutS c l = (l.drop k).foldl (cutG c) (cutS c (l.take k)) := by
    unfold cutS
    rw [← List.foldl_append, List.take_append_drop]
  rw [e]
  exact h _ _
def Cut5Post (w : World) (s : ByteArray) (c : UInt8) (e : Ending) (w' : World) : Prop := ∃ v ss, e = .returned v ∧ OS w' w.heap.size v ss ∧ ss.map (fun t => t.data.toList) = (cutS c s.data.toList).1 ++ [(cutS c s.data.toList).2] ∧ Below w.heap.size w w'
set_option maxRecDepth 100000 in
set_option maxHeartbeats 4000000 in
theorem l1Cut5_any (s : ByteArray) (c : UInt8) (w : World) (hs : s.size ≤ 600) (h4 : (cutS c s.data.toList).1.length ≤ 4) :
    Calls Tryz.prog 32 #[.string s, .int .u8 c.toNat, .int .i64 5] w (Cut5Post w s c) := by
  have HSL := Lib.hid (size_list s)
  have hcl := c.toNat_lt
  obtain ⟨i0, hi, hz0, hz1, hz2⟩ := info_parts info_str
  have HI := Lib.hid hi
  have HZ0 := Lib.hid hz0
  have HZ1 := Lib.hid hz1
  have HZ2 := Lib.hid hz2
  have HM := Lib.hid (show ∀ k, (cutS c (s.data.toList.take k)).1.length ≤ 4 from fun k => Nat.le_trans (cutS_mono c _ k) h4)
  clear hi hz0 hz1 hz2 h4
  go_enter Tryz.func32, Tryz.ntmps32
  go_wp2
  go_loopw [7, 8, 9] (fun ov fv iv wr => ∃ (k f : Nat) (ss : List ByteArray), k ≤ s.size ∧ f ≤ k ∧ iv = .int .i64 k ∧ fv = .int .i64 f ∧ OS wr w.heap.size ov ss ∧ ss.length ≤ k ∧ ss.map (fun t => t.data.toList) = (cutS c (s.data.toList.take k)).1 ∧ (s.data.toList.take k).drop f = (cutS c (s.data.toList.take k)).2 ∧ Below w.heap.size w wr) (fun _ _ iv _ => s.size - (intOf iv).toNat)
  case atStart => exact ⟨0, 0, [], Nat.zero_le _, Nat.le_refl _, rfl, rfl, OS_made _ rfl, Nat.le_refl _, rfl, rfl, (Below.refl _ _).alloc (Nat.le_refl _) _⟩
  case round =>
    obtain ⟨k, f, ss, hk, hf, rfl, rfl, hos, hsl, hp, hq, hb⟩ := hrel
    obtain ⟨ad, cap, hsh⟩ := hos.reads.shape
    have HOS := Lib.hid hos
    have HP := Lib.hid hp
    have HQ := Lib.hid hq
    have HB := Lib.hid hb
    subst hsh
    clear hos hp hq hb
    by_cases hlt : k < s.size
    · have HC := Lib.hid (show cutS c (s.data.toList.take (k + 1)) = cutG c (cutS c (s.data.toList.take k)) s[k] by rw [snoc_take s k hlt, cutS_snoc])
      have hsl7 : ss.length < 5 := by
        have h1 := HM.out k
        rw [← HP.out, List.length_map] at h1
        omega
      have hsl6 : (ss.length : Int) < 5 := by omega
      by_cases hxc : s[k].toNat = c.toNat
      · have hce : s[k] = c := UInt8.toNat_inj.1 hxc
        have hcb : ((s[k].toNat : Int) == (c.toNat : Int)) = true := by rw [beq_iff_eq, hxc]
        have hsm := slice_mid s f k hf (by omega)
        obtain ⟨P, hP⟩ : ∃ P : ByteArray, s.extract f k = P := ⟨_, rfl⟩
        rw [hP] at hsm
        have HPd := Lib.hid (show P.data.toList = (cutS c (s.data.toList.take k)).2 by rw [← hP, ext_segC]; exact HQ.out)
        have hg : cutS c (s.data.toList.take (k + 1)) = ((cutS c (s.data.toList.take k)).1 ++ [(cutS c (s.data.toList.take k)).2], []) := by rw [HC.out]; unfold cutG; rw [if_pos hce]
        have HG := Lib.hid hg
        clear hxc hce hP hg
        go_wp2_with (at_builtin; refine wpList_append_os _ rfl _ _ 23 rfl w.heap.size i0 Tryz.underlying23 HI.out HZ0.out HZ1.out HZ2.out _ ss rfl (HOS.out.alloc _) _ _ [P] rfl (RS_one wr P) (by simp; omega) (by have := HB.out.size; simp; omega) ?_; intro v2 w2 hos2 hg2 hat2)
        go_roundw
        case rel =>
          refine ⟨k + 1, k + 1, ss ++ [P], by omega, Nat.le_refl _, by go_num, by go_num, hos2, by simp; omega, ?_, ?_, (HB.out.alloc HB.out.size _).grown hg2 (by have := HB.out.size; simp; omega) (fun k hk => (HOS.out.low k hk).1)⟩
          · rw [HG.out, List.map_append, HP.out]; show _ ++ [P.data.toList] = _; rw [HPd.out]
          · rw [HG.out, List.drop_eq_nil_of_le (by rw [List.length_take]; omega)]
        case measure => simp [intOf]; omega
      · have hcn : s[k] ≠ c := fun e => hxc (by rw [e])
        have hcb : ((s[k].toNat : Int) == (c.toNat : Int)) = false := beq_eq_false_iff_ne.2 (by have := s[k].toNat_lt; omega)
        have hg : cutS c (s.data.toList.take (k + 1)) = ((cutS c (s.data.toList.take k)).1, (cutS c (s.data.toList.take k)).2 ++ [s[k]]) := by rw [HC.out]; unfold cutG; rw [if_neg hcn]
        have HG := Lib.hid hg
        clear hxc hcn hg
        go_wp2
        go_roundw
        case rel =>
          refine ⟨k + 1, f, ss, by omega, by omega, by go_num, rfl, HOS.out, by omega, ?_, ?_, HB.out⟩
          · rw [HG.out]; exact HP.out
          · rw [HG.out, ← HQ.out, snoc_take s k hlt, List.drop_append_of_le_length (by rw [List.length_take, HSL.out]; omega)]
        case measure => simp [intOf]; omega
    · have HE := Lib.hid (take_all s k (by omega))
      rw [HE.out] at HP HQ
      have hsm := slice_from s f (by omega)
      obtain ⟨P, hP⟩ : ∃ P : ByteArray, s.extract f s.size = P := ⟨_, rfl⟩
      rw [hP] at hsm
      have HPd := Lib.hid (show P.data.toList = (cutS c s.data.toList).2 by rw [← hP, ext_from]; exact HQ.out)
      clear hP
      go_wp2_with (at_builtin; refine wpList_append_os _ rfl _ _ 23 rfl w.heap.size i0 Tryz.underlying23 HI.out HZ0.out HZ1.out HZ2.out _ ss rfl (HOS.out.alloc _) _ _ [P] rfl (RS_one wr P) (by simp; omega) (by have := HB.out.size; simp; omega) ?_; intro v2 w2 hos2 hg2 hat2)
      go_ret
      refine ⟨_, _, rfl, hos2, ?_, (HB.out.alloc HB.out.size _).grown hg2 (by have := HB.out.size; simp; omega) (fun k hk => (HOS.out.low k hk).1)⟩
      rw [List.map_append, HP.out]; show _ ++ [P.data.toList] = _; rw [HPd.out]
end Go.Proofs.YtcegpcggdcgjbaaGreatDoor
