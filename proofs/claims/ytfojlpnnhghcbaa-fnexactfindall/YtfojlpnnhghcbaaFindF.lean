/- A frame's bytes, in the program and in the model. -/
import Derived.Test.YtfojlpnnhghcbaaFindE
namespace Go.Proofs.Ytfojlpnnhghcbaa
open Go.ChangeShapes Go.WideShapes Go.ChangeAt Go.RowKit
theorem putL_len (kd : Int) (l : List UInt8) : (putL kd l).length = l.length + kd.toNat := by simp [putL, leB_length]
theorem writeL_len (c : Cf) (l : List UInt8) (h : l.length ≤ 600) : (writeL c l).length ≤ 2 * l.length + 4 := by
  unfold writeL
  split
  · have := escR_len c.map.toNat l; omega
  · have h1 := cob_size l
    split
    · omega
    · have h2 := less_size l; omega
def boxC (a b d m : Int) : Obj := .cells #[.int .i64 a, .int .i64 b, .int .i64 d, .int .i64 m] 24
theorem own_one (s : ByteArray) (c : UInt8) : (⟨(s.data.toList ++ [c]).toArray⟩ : ByteArray).data.toList = s.data.toList ++ [c] := rfl
set_option maxRecDepth 100000 in
set_option maxHeartbeats 4000000 in
theorem implFindSend_any (a b d m : Int) (s : ByteArray) (w : World) (wa : (Lit.int .i64 a).wf = true) (hs : s.size ≤ maxLen) :
    Calls Try.prog 14 #[cfV a b d m, .string s] w fun e w' => e = .returned (.string ⟨(sendA ⟨a, b, d, m⟩ s.data.toList).toArray⟩) ∧ Below w.heap.size w w' := by
  unfold maxLen at hs
  have HSL := Lib.hid (size_list s)
  cases hc : confB ⟨a, b, d, m⟩ with
  | false =>
    have HE := Lib.hid (show sendA ⟨a, b, d, m⟩ s.data.toList = [] by simp [sendA, sendOk, hc])
    have HC := Lib.hid hc
    clear hc
    go_enter Try.func14, Try.ntmps14
    go_wp2_with fail
    refine (codecOf_any a b d m _ wa).mono ?_
    rintro e w1 ⟨rfl, hb1⟩
    have HB := Lib.hid (alloc_below hb1)
    rw [HC.out]
    clear hb1
    go_wp2
    go_ret
    exact ⟨by rw [HE.out]; rfl, HB.out⟩
  | true =>
    obtain ⟨_, hkb, hd, _, _⟩ := confB_yes hc
    simp only at hkb hd
    have hkb2 := kind_ge hkb
    have HKB := Lib.hid hkb
    obtain ⟨t, v, fd, fw, fr, rd, rw_, rr, hway, HW⟩ := way_of hc
    have HWV := Lib.hid hway
    have HC := Lib.hid hc
    clear hc hway hkb
    by_cases hle : (s.size : Int) ≤ d
    · have HE := Lib.hid (show sendA ⟨a, b, d, m⟩ s.data.toList = writeL ⟨a, b, d, m⟩ (putL b s.data.toList) ++ [endOf ⟨a, b, d, m⟩] by
        simp [sendA, sendOk, HC.out, HSL.out, hle, sendL])
      obtain ⟨P, hP⟩ : ∃ P : ByteArray, (⟨(putL b s.data.toList).toArray⟩ : ByteArray) = P := ⟨_, rfl⟩
      obtain ⟨X, hX⟩ : ∃ X : ByteArray, (⟨(writeL ⟨a, b, d, m⟩ (putL b s.data.toList)).toArray⟩ : ByteArray) = X := ⟨_, rfl⟩
      have hPs : P.size ≤ 44 := by
        rw [← size_list, ← hP]; show (putL b s.data.toList).length ≤ 44
        rw [putL_len, HSL.out]; omega
      have hPd : P.data.toList = putL b s.data.toList := by rw [← hP]
      have hXd : X.data.toList = writeL ⟨a, b, d, m⟩ (putL b s.data.toList) := by rw [← hX]
      have hXs : X.size ≤ 100 := by
        have h1 := writeL_len ⟨a, b, d, m⟩ (putL b s.data.toList) (by rw [← hPd, size_list]; omega)
        rw [← hXd, ← hPd, size_list, size_list] at h1; omega
      have HP := Lib.hid hP
      have HX := Lib.hid hX
      have HPd := Lib.hid hPd
      have HXd := Lib.hid hXd
      have HSP := Lib.hid (fun w => implPut_yes b s w HKB.out (by omega))
      have q1 := HW.dm
      have q2 := HW.de
      have q3 := HW.wn
      have q4 := HW.wm
      have q5 := HW.we
      have HDC := Lib.hid HW.dc
      have HWC := Lib.hid HW.wc
      obtain ⟨i0, hi, hz0, hz1, hz2⟩ := info_parts info_u8
      have HI := Lib.hid hi
      have HZ0 := Lib.hid hz0
      have HZ1 := Lib.hid hz1
      have HZ2 := Lib.hid hz2
      have hmf : ∀ (fn : Fn) (first cap : Array Value) (w : World), (Instr.makeFunc fn first cap).run Try.prog w = .ok (.func fn first cap) w := fun _ _ _ _ => rfl
      clear hP hX hPd hXd HW hi hz0 hz1 hz2
      go_enter Try.func14, Try.ntmps14
      go_wp2_with fail
      refine (codecOf_any a b d m _ wa).mono ?_
      rintro e w1 ⟨rfl, hb1⟩
      obtain ⟨c0, c1, c2, c3⟩ := four_cells hb1
      have HB := Lib.hid (alloc_below hb1)
      have hw1 : w.heap.size < w1.heap.size := by have := hb1.size; simp at this; omega
      rw [HC.out, HWV.out]
      clear hb1
      go_wp2_with fail
      have hS : w1.drew.cell? ⟨w.heap.size, 1, none⟩ = some (.int .i64 b) := c1
      refine wp_region_held_drew (S := (fun wx => wx.cell? ⟨w.heap.size, 1, none⟩ = some (.int .i64 b))) (by kernel_rfl) hS (fun hHeld => ?_)
      refine wpAnyH_take (i := 0) (v := ?_) rfl (by kernel_rfl) (by kernel_rfl) (by kernel_rfl) (fun _ _ _ h => h) (Or.inl ⟨by rfl, ?_⟩) (by assumption) ?_
      rotate_left
      · intro wq hSw
        (try dsimp only at hSw)
        (try simp only [List.getElem_toArray, List.getElem_cons_zero])
        go_simp
        (try with_reducible rfl)
      simp only [Act.put, List.getElem_toArray, List.getElem_cons_zero, List.setIfInBounds_toArray, List.set_cons_zero, List.set_cons_succ]
      refine wpAnyH_take (i := 1) (v := ?_) rfl (by kernel_rfl) (by kernel_rfl) (by kernel_rfl) (fun _ _ _ h => h) (Or.inl ⟨by rfl, ?_⟩) (by assumption) ?_
      rotate_left
      · intro wq hSw
        (try dsimp only at hSw)
        (try simp only [List.getElem_toArray, List.getElem_cons_succ, List.getElem_cons_zero])
        go_simp
        (try with_reducible rfl)
      simp only [Act.put, List.getElem_toArray, List.getElem_cons_succ, List.getElem_cons_zero, List.setIfInBounds_toArray, List.set_cons_zero, List.set_cons_succ]
      refine wpAnyH_take (i := 2) (v := ?_) rfl (by kernel_rfl) (by kernel_rfl) (by kernel_rfl) (fun _ _ _ h => h) (Or.inl ⟨by rfl, ?_⟩) (by assumption) ?_
      rotate_left
      · intro wq hSw
        (try dsimp only at hSw)
        (try simp only [List.getElem_toArray, List.getElem_cons_succ, List.getElem_cons_zero])
        go_simp
        (try with_reducible rfl)
      simp only [Act.put, List.getElem_toArray, List.getElem_cons_succ, List.getElem_cons_zero, List.setIfInBounds_toArray, List.set_cons_zero, List.set_cons_succ]
      refine wpAnyH_take (i := 3) (v := ?_) rfl (by kernel_rfl) (by kernel_rfl) (by kernel_rfl) (fun _ _ _ h => h) (Or.inl ⟨by rfl, ?_⟩) (by assumption) ?_
      rotate_left
      · intro wq hSw
        (try dsimp only at hSw)
        (try simp only [List.getElem_toArray, List.getElem_cons_succ, List.getElem_cons_zero])
        go_simp
        (try with_reducible rfl)
      simp only [Act.put, List.getElem_toArray, List.getElem_cons_succ, List.getElem_cons_zero, List.setIfInBounds_toArray, List.set_cons_zero, List.set_cons_succ]
      refine wpAnyH_take (i := 5) (v := ?_) rfl (by kernel_rfl) (by kernel_rfl) (by kernel_rfl) (fun _ _ _ h => h) (Or.inl ⟨by rfl, ?_⟩) (by assumption) ?_
      rotate_left
      · intro wq hSw
        (try dsimp only at hSw)
        (try simp only [List.getElem_toArray, List.getElem_cons_succ, List.getElem_cons_zero])
        go_simp
        (try with_reducible rfl)
      simp only [Act.put, List.getElem_toArray, List.getElem_cons_succ, List.getElem_cons_zero, List.setIfInBounds_toArray, List.set_cons_zero, List.set_cons_succ]
      refine wpAnyH_take (i := 6) (v := ?_) rfl (by kernel_rfl) (by kernel_rfl) (by kernel_rfl) (fun _ _ _ h => h) (Or.inl ⟨by rfl, ?_⟩) (by assumption) ?_
      rotate_left
      · intro wq hSw
        (try dsimp only at hSw)
        (try simp only [List.getElem_toArray, List.getElem_cons_succ, List.getElem_cons_zero])
        go_simp
        (try with_reducible rfl)
      simp only [Act.put, List.getElem_toArray, List.getElem_cons_succ, List.getElem_cons_zero, List.setIfInBounds_toArray, List.set_cons_zero, List.set_cons_succ]
      refine wpAnyH_take (i := 7) (v := ?_) rfl (by kernel_rfl) (by kernel_rfl) (by kernel_rfl) (fun _ _ _ h => h) (Or.inl ⟨by rfl, ?_⟩) (by assumption) ?_
      rotate_left
      · intro wq hSw
        (try dsimp only at hSw)
        (try simp only [List.getElem_toArray, List.getElem_cons_succ, List.getElem_cons_zero])
        go_simp
        (try with_reducible rfl)
      simp only [Act.put, List.getElem_toArray, List.getElem_cons_succ, List.getElem_cons_zero, List.setIfInBounds_toArray, List.set_cons_zero, List.set_cons_succ]
      refine wpAnyH_ready (rs := [4]) (by kernel_rfl) (by simp) ?_
      refine AllReadyH.cons rfl (fun K hK => ?_) AllReadyH.nil
      (try simp only [List.getElem_toArray, List.getElem_cons_succ, List.getElem_cons_zero])
      go_simp
      go_at_call 43
      refine (HSP.out _).mono ?_
      rintro e w2 ⟨rfl, hb2⟩
      have hS := (hb2.cell (p := ⟨w.heap.size, 1, none⟩) hw1).trans hS
      rw [show (⟨(s.data.toList ++ leB (sumN b s.data.toList) b.toNat).toArray⟩ : ByteArray) = P from HP.out]
      refine hK.out _ _ hS (fun hHeld => ?_)
      clear hK K
      refine wpAnyH_ready (rs := [8]) (by kernel_rfl) (by simp) ?_
      refine AllReadyH.cons rfl (fun K hK => ?_) AllReadyH.nil
      (try simp only [List.getElem_toArray, List.getElem_cons_succ, List.getElem_cons_zero])
      go_simp
      refine (HWC.out _ P (by omega)).mono ?_
      rintro e w3 ⟨rfl, hb3⟩
      have hS := (hb3.cell (p := ⟨w.heap.size, 1, none⟩) (Nat.lt_of_lt_of_le hw1 hb2.size)).trans hS
      rw [HPd.out, HX.out]
      refine hK.out _ _ hS (fun hHeld => ?_)
      clear hK K
      refine wpAnyH_ready (rs := [9]) (by kernel_rfl) (by simp) ?_
      refine AllReadyH.cons rfl (fun K hK => ?_) AllReadyH.nil
      (try simp only [List.getElem_toArray, List.getElem_cons_succ, List.getElem_cons_zero])
      have hr := run_bytes_of_string (P := Try.prog) w3 9 22 5 X Try.underlying9 Try.underlying22 Try.underlying5
      have hob := OB_of_string 5 w3 X (by unfold maxLen; omega) w.heap.size (by have := HB.out.size; have h2 := hb2.size; have h3 := hb3.size; simp at h2; omega)
      generalize (Obj.cells (bytesRow X (grownCap w3 X.size 0 5)) 5 ((bytesRow X (grownCap w3 X.size 0 5)).size, (bytesRow X (grownCap w3 X.size 0 5)).size + 1)) = O at hr hob
      generalize grownCap w3 X.size 0 5 = gc at hr hob
      go_simp
      have hb4 := Below.of_marked w3 O
      have hS := (hb4.cell (p := ⟨w.heap.size, 1, none⟩) (Nat.lt_of_lt_of_le (Nat.lt_of_lt_of_le hw1 hb2.size) hb3.size)).trans hS
      refine hK.out _ _ hS (fun hHeld => ?_)
      clear hK K
      refine wpAnyH_take (i := 10) (v := ?_) rfl (by kernel_rfl) (by kernel_rfl) (by kernel_rfl) (fun _ _ _ h => h) (Or.inl ⟨by rfl, ?_⟩) (by assumption) ?_
      rotate_left
      · intro wq hSw
        (try dsimp only at hSw)
        (try simp only [List.getElem_toArray, List.getElem_cons_succ, List.getElem_cons_zero])
        go_simp
        (try with_reducible rfl)
      simp only [Act.put, List.getElem_toArray, List.getElem_cons_succ, List.getElem_cons_zero, List.setIfInBounds_toArray, List.set_cons_zero, List.set_cons_succ]
      refine wpAnyH_done (by kernel_rfl) ?_ _
      have hb44 := (HB.out.drew.trans (hb2.mono HB.out.size)).trans ((hb3.mono (Nat.le_trans HB.out.size hb2.size)).trans (hb4.mono (Nat.le_trans HB.out.size (Nat.le_trans hb2.size hb3.size))))
      clear hb2 hb3 hb4 hr hS c0 c1 c2 c3
      rw [show w3.drew.alloc O = (w3.alloc O).drew from rfl] at hob hb44
      generalize (w3.alloc O).drew = w4 at *
      generalize (Value.slice (some ⟨w3.heap.size, 0, none⟩) X.size gc) = v4 at *
      have HOB := Lib.hid hob
      have HB4 := Lib.hid hb44
      clear hob hb44
      go_wp2_with fail
      refine (HDC.out _).mono ?_
      rintro e w5 ⟨rfl, hb5⟩
      have HOB5 := Lib.hid (HOB.out.below hb5 (Nat.le_refl _))
      have HB5 := Lib.hid (HB4.out.trans (hb5.mono HB4.out.size))
      clear hb5
      go_wp2_with (first | (at_builtin; refine wpList_append_OB _ rfl _ _ 22 rfl w.heap.size 5 i0 Try.underlying22 HI.out HZ0.out HZ1.out HZ2.out _ X.data.toList rfl (HOB5.out.alloc _) ⟨w5.heap.size, 0, none⟩ 1 1 [endOf ⟨a, b, d, m⟩] rfl rfl (one_new w5 _ _ _ rfl) (by rw [size_list]; simp; omega) (by have := HB5.out.size; simp; omega) ?_; intro v6 w6 hown6 hg6; have HO6 := Lib.hid hown6; have HB6 := Lib.hid ((HB5.out.alloc HB5.out.size (.cells #[.int .u8 (endOf ⟨a, b, d, m⟩).toNat] 5)).grown hg6 (by have := HB5.out.size; simp; omega) (fun k hk => (HOB5.out.lt k hk).1)); clear hown6 hg6) | (refine wpList_string_of_OB _ rfl 22 9 5 _ rfl w.heap.size _ _ rfl Try.underlying22 Try.underlying5 Try.underlying9 HO6.out ?_))
      go_ret
      exact ⟨by rw [HE.out, ← HXd.out]; rfl, HB6.out⟩
    · have HE := Lib.hid (show sendA ⟨a, b, d, m⟩ s.data.toList = [] by
        simp [sendA, sendOk, HSL.out]; omega)
      clear HW
      go_enter Try.func14, Try.ntmps14
      go_wp2_with fail
      refine (codecOf_any a b d m _ wa).mono ?_
      rintro e w1 ⟨rfl, hb1⟩
      obtain ⟨c0, c1, c2, c3⟩ := four_cells hb1
      have HB := Lib.hid (alloc_below hb1)
      rw [HC.out, HWV.out]
      clear hb1
      go_wp2
      go_ret
      exact ⟨by rw [HE.out]; rfl, HB.out⟩
end Go.Proofs.Ytfojlpnnhghcbaa
