/- A frame's bytes, in the model. -/
import Derived.Test.YtfojlpnnhghcbaaFindF
import Derived.Test.YtfojlpnnhghcbaaMark
namespace Go.Proofs.Ytfojlpnnhghcbaa
open Go.ChangeShapes Go.WideShapes Go.ChangeAt Go.RowKit
set_option maxHeartbeats 1000000 in
theorem l7Write_any (a b d m : Int) (s : ByteArray) (w : World) (hc : confB ⟨a, b, d, m⟩ = true) (hs : s.size ≤ 600) :
    Calls Try.prog 69 #[cfV a b d m, .string s] w fun e w' => e = .returned (.string ⟨(writeL ⟨a, b, d, m⟩ s.data.toList).toArray⟩) ∧ Below w.heap.size w w' := by
  obtain ⟨h1, _, _, h4, h5⟩ := confB_yes hc
  simp only at h1 h4 h5
  clear hc
  rcases h1 with rfl | rfl | rfl
  · obtain ⟨k, rfl, hk, hk2⟩ := toNat_map h4
    have HE := Lib.hid (show writeL ⟨1, b, d, k⟩ s.data.toList = escR k s.data.toList from rfl)
    clear h4 h5 hk
    go_enter Try.func69, Try.ntmps69
    go_wp2_with fail
    refine (l5Put_any k s _ hk2 hs).mono ?_
    rintro e w1 ⟨rfl, hb⟩
    have HB := Lib.hid (alloc_below hb)
    clear hb
    go_wp2
    go_ret
    exact ⟨by rw [HE.out]; rfl, HB.out⟩
  · have HE := Lib.hid (show writeL ⟨2, b, d, m⟩ s.data.toList = cob s.data.toList from rfl)
    clear h4 h5
    go_enter Try.func69, Try.ntmps69
    go_wp2_with fail
    refine (l6Put_any s _ hs).mono ?_
    rintro e w1 ⟨rfl, hb⟩
    have HB := Lib.hid (alloc_below hb)
    clear hb
    go_wp2
    go_ret
    exact ⟨by rw [HE.out]; rfl, HB.out⟩
  · have HE := Lib.hid (show writeL ⟨3, b, d, m⟩ s.data.toList = less s.data.toList from rfl)
    clear h4 h5
    go_enter Try.func69, Try.ntmps69
    go_wp2_with fail
    refine (l6Put_any s _ hs).mono ?_
    rintro e w1 ⟨rfl, hb⟩
    have hb1 := alloc_below hb
    clear hb
    go_wp2_with fail
    refine (l6Less_any s.data.toList _ _ rfl (by rw [size_list]; exact hs)).mono ?_
    rintro e w2 ⟨rfl, hb2⟩
    have HB := Lib.hid (hb1.trans (hb2.mono hb1.size))
    clear hb2 hb1
    go_wp2
    go_ret
    exact ⟨by rw [HE.out]; rfl, HB.out⟩
set_option maxRecDepth 100000 in
set_option maxHeartbeats 2000000 in
theorem l7Send_any (a b d m : Int) (s : ByteArray) (w : World) (hc : confB ⟨a, b, d, m⟩ = true) (hs : s.size ≤ 500) :
    Calls Try.prog 45 #[cfV a b d m, .string s] w fun e w' => e = .returned (.string ⟨(sendL ⟨a, b, d, m⟩ s.data.toList).toArray⟩) ∧ Below w.heap.size w w' := by
  obtain ⟨_, hkb, hd, _, _⟩ := confB_yes hc
  simp only at hkb hd
  have hkb2 := kind_ge hkb
  have HKB := Lib.hid hkb
  have HC := Lib.hid hc
  obtain ⟨P, hP⟩ : ∃ P : ByteArray, (⟨(putL b s.data.toList).toArray⟩ : ByteArray) = P := ⟨_, rfl⟩
  obtain ⟨X, hX⟩ : ∃ X : ByteArray, (⟨(writeL ⟨a, b, d, m⟩ (putL b s.data.toList)).toArray⟩ : ByteArray) = X := ⟨_, rfl⟩
  have hPs : P.size ≤ 504 := by
    rw [← size_list, ← hP]; show (putL b s.data.toList).length ≤ 504
    rw [putL_len, size_list]; omega
  have hPd : P.data.toList = putL b s.data.toList := by rw [← hP]
  have hXd : X.data.toList = writeL ⟨a, b, d, m⟩ (putL b s.data.toList) := by rw [← hX]
  have hXs : X.size ≤ 2000 := by
    have h1 := writeL_len ⟨a, b, d, m⟩ (putL b s.data.toList) (by rw [← hPd, size_list]; omega)
    rw [← hXd, ← hPd, size_list, size_list] at h1; omega
  have HP := Lib.hid hP
  have HX := Lib.hid hX
  have HPd := Lib.hid hPd
  have HXd := Lib.hid hXd
  have HSP := Lib.hid (fun w => l1Put_any b s w HKB.out (by omega))
  have HWR := Lib.hid (fun w => l7Write_any a b d m P w HC.out (by omega))
  clear hP hX hPd hXd hkb hc
  go_enter Try.func45, Try.ntmps45
  go_wp2_with fail
  have hB := (Below.refl w.heap.size w).alloc (Nat.le_refl _) (.cells #[.int .i64 a, .int .i64 b, .int .i64 d, .int .i64 m] 24)
  have hCB := CB_new w a b d m 24
  have hlt : w.heap.size < (w.alloc (.cells #[.int .i64 a, .int .i64 b, .int .i64 d, .int .i64 m] 24)).heap.size := by simp
  generalize w.alloc (.cells #[.int .i64 a, .int .i64 b, .int .i64 d, .int .i64 m] 24) = w1 at *
  have hB := hB.drew
  have hS : w1.drew.cell? ⟨w.heap.size, 0, none⟩ = some (.int .i64 a) ∧ w1.drew.cell? ⟨w.heap.size, 1, none⟩ = some (.int .i64 b) ∧ w1.drew.cell? ⟨w.heap.size, 2, none⟩ = some (.int .i64 d) ∧ w1.drew.cell? ⟨w.heap.size, 3, none⟩ = some (.int .i64 m) := hCB
  refine wp_region_held_drew (S := (fun wx => wx.cell? ⟨w.heap.size, 0, none⟩ = some (.int .i64 a) ∧ wx.cell? ⟨w.heap.size, 1, none⟩ = some (.int .i64 b) ∧ wx.cell? ⟨w.heap.size, 2, none⟩ = some (.int .i64 d) ∧ wx.cell? ⟨w.heap.size, 3, none⟩ = some (.int .i64 m))) (by kernel_rfl) hS (fun hHeld => ?_)
  refine wpAnyH_take (i := 0) (v := ?_) rfl (by kernel_rfl) (by kernel_rfl) (by kernel_rfl) (fun _ _ _ h => h) (Or.inl ⟨by rfl, ?_⟩) (by assumption) ?_
  rotate_left
  · intro wq hSw
    (try dsimp only at hSw)
    (try simp only [List.getElem_toArray, List.getElem_cons_zero])
    go_simp
    (try with_reducible rfl)
  simp only [Act.put, List.getElem_toArray, List.getElem_cons_zero, List.setIfInBounds_toArray, List.set_cons_zero, List.set_cons_succ]
  refine wpAnyH_take (i := 1) (v := ?_) rfl (by kernel_rfl) (by kernel_rfl) (by kernel_rfl) (fun _ _ _ h => h) (Or.inl ⟨by rfl, ?_⟩) (by assumption) ?_
  rotate_left
  · intro wq hSw
    (try dsimp only at hSw)
    (try simp only [List.getElem_toArray, List.getElem_cons_succ, List.getElem_cons_zero])
    go_simp
    (try with_reducible rfl)
  simp only [Act.put, List.getElem_toArray, List.getElem_cons_succ, List.getElem_cons_zero, List.setIfInBounds_toArray, List.set_cons_zero, List.set_cons_succ]
  refine wpAnyH_take (i := 2) (v := ?_) rfl (by kernel_rfl) (by kernel_rfl) (by kernel_rfl) (fun _ _ _ h => h) (Or.inl ⟨by rfl, ?_⟩) (by assumption) ?_
  rotate_left
  · intro wq hSw
    (try dsimp only at hSw)
    (try simp only [List.getElem_toArray, List.getElem_cons_succ, List.getElem_cons_zero])
    go_simp
    (try with_reducible rfl)
  simp only [Act.put, List.getElem_toArray, List.getElem_cons_succ, List.getElem_cons_zero, List.setIfInBounds_toArray, List.set_cons_zero, List.set_cons_succ]
  refine wpAnyH_take (i := 3) (v := ?_) rfl (by kernel_rfl) (by kernel_rfl) (by kernel_rfl) (fun _ _ _ h => h) (Or.inl ⟨by rfl, ?_⟩) (by assumption) ?_
  rotate_left
  · intro wq hSw
    (try dsimp only at hSw)
    (try simp only [List.getElem_toArray, List.getElem_cons_succ, List.getElem_cons_zero])
    go_simp
    (try with_reducible rfl)
  simp only [Act.put, List.getElem_toArray, List.getElem_cons_succ, List.getElem_cons_zero, List.setIfInBounds_toArray, List.set_cons_zero, List.set_cons_succ]
  refine wpAnyH_take (i := 6) (v := ?_) rfl (by kernel_rfl) (by kernel_rfl) (by kernel_rfl) (fun _ _ _ h => h) (Or.inl ⟨by rfl, ?_⟩) (by assumption) ?_
  rotate_left
  · intro wq hSw
    (try dsimp only at hSw)
    (try simp only [List.getElem_toArray, List.getElem_cons_succ, List.getElem_cons_zero])
    go_simp
    (try with_reducible rfl)
  simp only [Act.put, List.getElem_toArray, List.getElem_cons_succ, List.getElem_cons_zero, List.setIfInBounds_toArray, List.set_cons_zero, List.set_cons_succ]
  refine wpAnyH_ready (rs := [4]) (by kernel_rfl) (by simp) ?_
  refine AllReadyH.cons rfl (fun K hK => ?_) AllReadyH.nil
  (try simp only [List.getElem_toArray, List.getElem_cons_succ, List.getElem_cons_zero])
  go_simp
  go_at_call 70
  refine (HSP.out _).mono ?_
  rintro e w2 ⟨rfl, hb2⟩
  have hS := (show CB w1.drew w.heap.size a b d m from hS).below hb2 hlt
  have hB := hB.trans (hb2.mono hB.size)
  have hlt := Nat.lt_of_lt_of_le hlt hb2.size
  rw [show (⟨(s.data.toList ++ leB (sumN b s.data.toList) b.toNat).toArray⟩ : ByteArray) = P from HP.out]
  refine hK.out _ _ hS (fun hHeld => ?_)
  clear hK K
  refine wpAnyH_ready (rs := [5]) (by kernel_rfl) (by simp) ?_
  refine AllReadyH.cons rfl (fun K hK => ?_) AllReadyH.nil
  (try simp only [List.getElem_toArray, List.getElem_cons_succ, List.getElem_cons_zero])
  go_simp
  go_at_call 69
  refine (HWR.out _).mono ?_
  rintro e w3 ⟨rfl, hb3⟩
  have hS := (show CB w2 w.heap.size a b d m from hS).below hb3 hlt
  have hB := hB.trans (hb3.mono hB.size)
  have hlt := Nat.lt_of_lt_of_le hlt hb3.size
  rw [HPd.out, HX.out]
  refine hK.out _ _ hS (fun hHeld => ?_)
  clear hK K
  refine wpAnyH_ready (rs := [7]) (by kernel_rfl) (by simp) ?_
  refine AllReadyH.cons rfl (fun K hK => ?_) AllReadyH.nil
  (try simp only [List.getElem_toArray, List.getElem_cons_succ, List.getElem_cons_zero])
  go_simp
  go_at_call 57
  refine (l7End_any a b d m _).mono ?_
  rintro e w4 ⟨rfl, hb4⟩
  have hS := (show CB w3 w.heap.size a b d m from hS).below hb4 hlt
  have hB := hB.trans (hb4.mono hB.size)
  have hlt := Nat.lt_of_lt_of_le hlt hb4.size
  refine hK.out _ _ hS (fun hHeld => ?_)
  clear hK K
  refine wpAnyH_ready (rs := [8]) (by kernel_rfl) (by simp) ?_
  refine AllReadyH.cons rfl (fun K hK => ?_) AllReadyH.nil
  (try simp only [List.getElem_toArray, List.getElem_cons_succ, List.getElem_cons_zero])
  skip
  go_simp
  have hS := (show CB w4 w.heap.size a b d m from hS).below ((Below.refl _ w4).alloc (Nat.le_refl _) (.cells #[.int .u8 (endOf ⟨a, b, d, m⟩).toNat] 5)) hlt
  refine hK.out _ _ hS (fun hHeld => ?_)
  clear hK K
  have hob := OB_one 5 w4 w.heap.size hB.size (endOf ⟨a, b, d, m⟩) (.int .u8 (endOf ⟨a, b, d, m⟩).toNat) rfl
  have hB := hB.alloc hB.size (.cells #[.int .u8 (endOf ⟨a, b, d, m⟩).toNat] 5)
  have hr := run_string_of_OB (P := Try.prog) _ 22 9 5 _ _ _ Try.underlying22 Try.underlying5 Try.underlying9 hob
  refine wpAnyH_ready (rs := [9]) (by kernel_rfl) (by simp) ?_
  refine AllReadyH.cons rfl (fun K hK => ?_) AllReadyH.nil
  (try simp only [List.getElem_toArray, List.getElem_cons_succ, List.getElem_cons_zero])
  skip
  go_simp
  skip
  refine hK.out _ _ hS (fun hHeld => ?_)
  clear hK K
  have hcat : ¬ 9223372036854775807 < X.size + 1 := by omega
  refine wpAnyH_take (i := 10) (v := ?_) rfl (by kernel_rfl) (by kernel_rfl) (by kernel_rfl) (fun _ _ _ h => h) (Or.inl ⟨by rfl, ?_⟩) (by assumption) ?_
  rotate_left
  · intro wq hSw
    (try dsimp only at hSw)
    (try simp only [List.getElem_toArray, List.getElem_cons_succ, List.getElem_cons_zero])
    go_simp
    (try with_reducible rfl)
  simp only [Act.put, List.getElem_toArray, List.getElem_cons_succ, List.getElem_cons_zero, List.setIfInBounds_toArray, List.set_cons_zero, List.set_cons_succ]
  refine wpAnyH_take (i := 11) (v := ?_) rfl (by kernel_rfl) (by kernel_rfl) (by kernel_rfl) (fun _ _ _ h => h) (Or.inl ⟨by rfl, ?_⟩) (by assumption) ?_
  rotate_left
  · intro wq hSw
    (try dsimp only at hSw)
    (try simp only [List.getElem_toArray, List.getElem_cons_succ, List.getElem_cons_zero])
    go_simp
    (try with_reducible rfl)
  simp only [Act.put, List.getElem_toArray, List.getElem_cons_succ, List.getElem_cons_zero, List.setIfInBounds_toArray, List.set_cons_zero, List.set_cons_succ]
  refine wpAnyH_done (by kernel_rfl) ?_ _
  go_wp2
  go_ret
  refine ⟨?_, hB⟩
  have e1 : (⟨(sendL ⟨a, b, d, m⟩ s.data.toList).toArray⟩ : ByteArray) = X ++ ⟨[endOf ⟨a, b, d, m⟩].toArray⟩ := by
    have : (X ++ ⟨[endOf ⟨a, b, d, m⟩].toArray⟩ : ByteArray).data.toList = sendL ⟨a, b, d, m⟩ s.data.toList := by
      rw [str_append, HXd.out]; rfl
    rw [← this, Lib.mk_data]
  rw [e1]
  rfl
set_option maxHeartbeats 1000000 in
theorem specFindSend_any (a b d m : Int) (s : ByteArray) (w : World) (hs : s.size ≤ maxLen) :
    Calls Try.prog 15 #[cfV a b d m, .string s] w fun e w' => e = .returned (.string ⟨(sendA ⟨a, b, d, m⟩ s.data.toList).toArray⟩) ∧ Below w.heap.size w w' := by
  unfold maxLen at hs
  have HSL := Lib.hid (size_list s)
  cases hc : confB ⟨a, b, d, m⟩ with
  | false =>
    have HE := Lib.hid (show sendA ⟨a, b, d, m⟩ s.data.toList = [] by simp [sendA, sendOk, hc])
    have HC := Lib.hid hc
    clear hc
    go_enter Try.func15, Try.ntmps15
    go_wp2_with fail
    refine (l7ConfOk_any a b d m _).mono ?_
    rintro e w1 ⟨rfl, hb1⟩
    have HB := Lib.hid (alloc_below hb1)
    rw [HC.out]
    clear hb1
    go_wp2
    go_ret
    exact ⟨by rw [HE.out]; rfl, HB.out⟩
  | true =>
    obtain ⟨_, _, hd, _, _⟩ := confB_yes hc
    simp only at hd
    by_cases hle : (s.size : Int) ≤ d
    · have HE := Lib.hid (show sendA ⟨a, b, d, m⟩ s.data.toList = sendL ⟨a, b, d, m⟩ s.data.toList by
        simp [sendA, sendOk, hc, HSL.out, hle])
      have HC := Lib.hid hc
      clear hc
      go_enter Try.func15, Try.ntmps15
      go_wp2_with fail
      refine (l7ConfOk_any a b d m _).mono ?_
      rintro e w1 ⟨rfl, hb1⟩
      obtain ⟨c0, c1, c2, c3⟩ := four_cells hb1
      have hB := alloc_below hb1
      rw [HC.out]
      clear hb1
      go_wp2_with fail
      refine (l7Send_any a b d m s _ HC.out (by omega)).mono ?_
      rintro e w2 ⟨rfl, hb2⟩
      have HB := Lib.hid (hB.trans (hb2.mono hB.size))
      clear hb2 hB
      go_wp2
      go_ret
      exact ⟨by rw [HE.out]; rfl, HB.out⟩
    · have HE := Lib.hid (show sendA ⟨a, b, d, m⟩ s.data.toList = [] by
        simp [sendA, sendOk, HSL.out]; omega)
      have HC := Lib.hid hc
      clear hc
      go_enter Try.func15, Try.ntmps15
      go_wp2_with fail
      refine (l7ConfOk_any a b d m _).mono ?_
      rintro e w1 ⟨rfl, hb1⟩
      obtain ⟨c0, c1, c2, c3⟩ := four_cells hb1
      have HB := Lib.hid (alloc_below hb1)
      rw [HC.out]
      clear hb1
      go_wp2
      go_ret
      exact ⟨by rw [HE.out]; rfl, HB.out⟩
end Go.Proofs.Ytfojlpnnhghcbaa
