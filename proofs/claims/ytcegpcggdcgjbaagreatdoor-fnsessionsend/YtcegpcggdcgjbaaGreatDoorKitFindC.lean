/- A frame's bytes, in the model. -/
import Derived.Test.YtcegpcggdcgjbaaGreatDoorKitFindB
import Derived.Test.YtcegpcggdcgjbaaGreatDoorMark
import Derived.Test.YtcegpcggdcgjbaaGreatDoorKitFindA
namespace Go.Proofs.YtcegpcggdcgjbaaGreatDoor
open Go.ChangeShapes Go.WideShapes Go.ChangeAt Go.RowKit
set_option maxHeartbeats 1000000 in
theorem l7Write_any (a b d m : Int) (s : ByteArray) (w : World) (hc : confB ⟨a, b, d, m⟩ = true) (hs : s.size ≤ 600) :
    Calls Tryz.prog 83 #[cfV a b d m, .string s] w fun e w' => e = .returned (.string ⟨(writeL ⟨a, b, d, m⟩ s.data.toList).toArray⟩) ∧ Below w.heap.size w w' := by
  obtain ⟨h1, _, _, h4, h5⟩ := confB_yes hc
  simp only at h1 h4 h5
  clear hc
  rcases h1 with rfl | rfl | rfl
  · obtain ⟨k, rfl, hk, hk2⟩ := toNat_map h4
    have HE := Lib.hid (show writeL ⟨1, b, d, k⟩ s.data.toList = escR k s.data.toList from rfl)
    clear h4 h5 hk
    go_enter Tryz.func83, Tryz.ntmps83
    go_wp2_with fail
    refine (l5Put_any k s _ hk2 hs).mono ?_
    rintro e w1 ⟨rfl, hb⟩
    have HB := Lib.hid (alloc_below hb)
    clear hb
    go_wp2
    go_ret
    exact ⟨by rw [HE.out]; rfl, HB.out⟩
  · have HE := Lib.hid (show writeL ⟨2, b, d, m⟩ s.data.toList = cob s.data.toList from rfl)
    clear h4 h5
    go_enter Tryz.func83, Tryz.ntmps83
    go_wp2_with fail
    refine (l6Put_any s _ hs).mono ?_
    rintro e w1 ⟨rfl, hb⟩
    have HB := Lib.hid (alloc_below hb)
    clear hb
    go_wp2
    go_ret
    exact ⟨by rw [HE.out]; rfl, HB.out⟩
  · have HE := Lib.hid (show writeL ⟨3, b, d, m⟩ s.data.toList = less s.data.toList from rfl)
    clear h4 h5
    go_enter Tryz.func83, Tryz.ntmps83
    go_wp2_with fail
    refine (l6Put_any s _ hs).mono ?_
    rintro e w1 ⟨rfl, hb⟩
    have hb1 := alloc_below hb
    clear hb
    go_wp2_with fail
    refine (l6Less_any s.data.toList _ _ rfl (by rw [size_list]; exact hs)).mono ?_
    rintro e w2 ⟨rfl, hb2⟩
    have HB := Lib.hid (hb1.trans (hb2.mono hb1.size))
    clear hb2 hb1
    go_wp2
    go_ret
    exact ⟨by rw [HE.out]; rfl, HB.out⟩
set_option maxRecDepth 100000 in
set_option maxHeartbeats 2000000 in
theorem l7Send_any (a b d m : Int) (s : ByteArray) (w : World) (hc : confB ⟨a, b, d, m⟩ = true) (hs : s.size ≤ 500) :
    Calls Tryz.prog 59 #[cfV a b d m, .string s] w fun e w' => e = .returned (.string ⟨(sendL ⟨a, b, d, m⟩ s.data.toList).toArray⟩) ∧ Below w.heap.size w w' := by
  obtain ⟨_, hkb, hd, _, _⟩ := confB_yes hc
  simp only at hkb hd
  have hkb2 := kind_ge hkb
  have HKB := Lib.hid hkb
  have HC := Lib.hid hc
  obtain ⟨P, hP⟩ : ∃ P : ByteArray, (⟨(putL b s.data.toList).toArray⟩ : ByteArray) = P := ⟨_, rfl⟩
  obtain ⟨X, hX⟩ : ∃ X : ByteArray, (⟨(writeL ⟨a, b, d, m⟩ (putL b s.data.toList)).toArray⟩ : ByteArray) = X := ⟨_, rfl⟩
  have hPs : P.size ≤ 504 := by
    rw [← size_list, ← hP]; show (putL b s.data.toList).length ≤ 504
    rw [putL_len, size_list]; omega
  have hPd : P.data.toList = putL b s.data.toList := by rw [← hP]
  have hXd : X.data.toList = writeL ⟨a, b, d, m⟩ (putL b s.data.toList) := by rw [← hX]
  have hXs : X.size ≤ 2000 := by
    have h1 := writeL_len ⟨a, b, d, m⟩ (putL b s.data.toList) (by rw [← hPd, size_list]; omega)
    rw [← hXd, ← hPd, size_list, size_list] at h1; omega
  have HP := Lib.hid hP
  have HX := Lib.hid hX
  have HPd := Lib.hid hPd
  have HXd := Lib.hid hXd
  have HSP := Lib.hid (fun w => l1Put_any b s w HKB.out (by omega))
  have HWR := Lib.hid (fun w => l7Write_any a b d m P w HC.out (by omega))
  clear hP hX hPd hXd hkb hc
  go_enter Tryz.func59, Tryz.ntmps59
  go_wp2_with fail
  have hB := (Below.refl w.heap.size w).alloc (Nat.le_refl _) (.cells #[.int .i64 a, .int .i64 b, .int .i64 d, .int .i64 m] 30)
  have hCB := CB_new w a b d m 30
  have hlt : w.heap.size < (w.alloc (.cells #[.int .i64 a, .int .i64 b, .int .i64 d, .int .i64 m] 30)).heap.size := by simp
  generalize w.alloc (.cells #[.int .i64 a, .int .i64 b, .int .i64 d, .int .i64 m] 30) = w1 at *
  have hB := hB.drew
  have hS : w1.drew.cell? ⟨w.heap.size, 0, none⟩ = some (.int .i64 a) ∧ w1.drew.cell? ⟨w.heap.size, 1, none⟩ = some (.int .i64 b) ∧ w1.drew.cell? ⟨w.heap.size, 2, none⟩ = some (.int .i64 d) ∧ w1.drew.cell? ⟨w.heap.size, 3, none⟩ = some (.int .i64 m) := hCB
  refine wp_region_held_drew (S := (fun wx => wx.cell? ⟨w.heap.size, 0, none⟩ = some (.int .i64 a) ∧ wx.cell? ⟨w.heap.size, 1, none⟩ = some (.int .i64 b) ∧ wx.cell? ⟨w.heap.size, 2, none⟩ = some (.int .i64 d) ∧ wx.cell? ⟨w.heap.size, 3, none⟩ = some (.int .i64 m))) (by kernel_rfl) hS (fun hHeld => ?_)
  refine wpAnyH_take (i := 0) (v := ?_) rfl (by kernel_rfl) (by kernel_rfl) (by kernel_rfl) (fun _ _ _ h => h) (Or.inl ⟨by rfl, ?_⟩) (by assumption) ?_
  rotate_left
  · intro wq hSw
    (try dsimp only at hSw)
    (try simp only [List.getElem_toArray, List.getElem_cons_zero])
    go_simp
    (try with_reducible rfl)
  simp only [Act.put, List.getElem_toArray, List.getElem_cons_zero, List.setIfInBounds_toArray, List.set_cons_zero, List.set_cons_succ]
  refine wpAnyH_take (i := 1) (v := ?_) rfl (by kernel_rfl) (by kernel_rfl) (by kernel_rfl) (fun _ _ _ h => h) (Or.inl ⟨by rfl, ?_⟩) (by assumption) ?_
  rotate_left
  · intro wq hSw
    (try dsimp only at hSw)
    (try simp only [List.getElem_toArray, List.getElem_cons_succ, List.getElem_cons_zero])
    go_simp
    (try with_reducible rfl)
  simp only [Act.put, List.getElem_toArray, List.getElem_cons_succ, List.getElem_cons_zero, List.setIfInBounds_toArray, List.set_cons_zero, List.set_cons_succ]
  refine wpAnyH_take (i := 2) (v := ?_) rfl (by kernel_rfl) (by kernel_rfl) (by kernel_rfl) (fun _ _ _ h => h) (Or.inl ⟨by rfl, ?_⟩) (by assumption) ?_
  rotate_left
  · intro wq hSw
    (try dsimp only at hSw)
    (try simp only [List.getElem_toArray, List.getElem_cons_succ, List.getElem_cons_zero])
    go_simp
    (try with_reducible rfl)
  simp only [Act.put, List.getElem_toArray, List.getElem_cons_succ, List.getElem_cons_zero, List.setIfInBounds_toArray, List.set_cons_zero, List.set_cons_succ]
  refine wpAnyH_take (i := 3) (v := ?_) rfl (by kernel_rfl) (by kernel_rfl) (by kernel_rfl) (fun _ _ _ h => h) (Or.inl ⟨by rfl, ?_⟩) (by assumption) ?_
  rotate_left
  · intro wq hSw
    (try dsimp only at hSw)
    (try simp only [List.getElem_toArray, List.getElem_cons_succ, List.getElem_cons_zero])
    go_simp
    (try with_reducible rfl)
  simp only [Act.put, List.getElem_toArray, List.getElem_cons_succ, List.getElem_cons_zero, List.setIfInBounds_toArray, List.set_cons_zero, List.set_cons_succ]
  refine wpAnyH_take (i := 6) (v := ?_) rfl (by kernel_rfl) (by kernel_rfl) (by kernel_rfl) (fun _ _ _ h => h) (Or.inl ⟨by rfl, ?_⟩) (by assumption) ?_
  rotate_left
  · intro wq hSw
    (try dsimp only at hSw)
    (try simp only [List.getElem_toArray, List.getElem_cons_succ, List.getElem_cons_zero])
    go_simp
    (try with_reducible rfl)
  simp only [Act.put, List.getElem_toArray, List.getElem_cons_succ, List.getElem_cons_zero, List.setIfInBounds_toArray, List.set_cons_zero, List.set_cons_succ]
  refine wpAnyH_ready (rs := [4]) (by kernel_rfl) (by simp) ?_
  refine AllReadyH.cons rfl (fun K hK => ?_) AllReadyH.nil
  (try simp only [List.getElem_toArray, List.getElem_cons_succ, List.getElem_cons_zero])
  go_simp
  go_at_call 84
  refine (HSP.out _).mono ?_
  rintro e w2 ⟨rfl, hb2⟩
  have hS := (show CB w1.drew w.heap.size a b d m from hS).below hb2 hlt
  have hB := hB.trans (hb2.mono hB.size)
  have hlt := Nat.lt_of_lt_of_le hlt hb2.size
  rw [show (⟨(s.data.toList ++ leB (sumN b s.data.toList) b.toNat).toArray⟩ : ByteArray) = P from HP.out]
  refine hK.out _ _ hS (fun hHeld => ?_)
  clear hK K
  refine wpAnyH_ready (rs := [5]) (by kernel_rfl) (by simp) ?_
  refine AllReadyH.cons rfl (fun K hK => ?_) AllReadyH.nil
  (try simp only [List.getElem_toArray, List.getElem_cons_succ, List.getElem_cons_zero])
  go_simp
  go_at_call 83
  refine (HWR.out _).mono ?_
  rintro e w3 ⟨rfl, hb3⟩
  have hS := (show CB w2 w.heap.size a b d m from hS).below hb3 hlt
  have hB := hB.trans (hb3.mono hB.size)
  have hlt := Nat.lt_of_lt_of_le hlt hb3.size
  rw [HPd.out, HX.out]
  refine hK.out _ _ hS (fun hHeld => ?_)
  clear hK K
  refine wpAnyH_ready (rs := [7]) (by kernel_rfl) (by simp) ?_
  refine AllReadyH.cons rfl (fun K hK => ?_) AllReadyH.nil
  (try simp only [List.getElem_toArray, List.getElem_cons_succ, List.getElem_cons_zero])
  go_simp
  go_at_call 85
  refine (l7End_any a b d m _).mono ?_
  rintro e w4 ⟨rfl, hb4⟩
  have hS := (show CB w3 w.heap.size a b d m from hS).below hb4 hlt
  have hB := hB.trans (hb4.mono hB.size)
  have hlt := Nat.lt_of_lt_of_le hlt hb4.size
  refine hK.out _ _ hS (fun hHeld => ?_)
  clear hK K
  refine wpAnyH_ready (rs := [8]) (by kernel_rfl) (by simp) ?_
  refine AllReadyH.cons rfl (fun K hK => ?_) AllReadyH.nil
  (try simp only [List.getElem_toArray, List.getElem_cons_succ, List.getElem_cons_zero])
  skip
  go_simp
  have hS := (show CB w4 w.heap.size a b d m from hS).below ((Below.refl _ w4).alloc (Nat.le_refl _) (.cells #[.int .u8 (endOf ⟨a, b, d, m⟩).toNat] 5)) hlt
  refine hK.out _ _ hS (fun hHeld => ?_)
  clear hK K
  have hob := OB_one 5 w4 w.heap.size hB.size (endOf ⟨a, b, d, m⟩) (.int .u8 (endOf ⟨a, b, d, m⟩).toNat) rfl
  have hB := hB.alloc hB.size (.cells #[.int .u8 (endOf ⟨a, b, d, m⟩).toNat] 5)
  have hr := run_string_of_OB (P := Tryz.prog) _ 22 9 5 _ _ _ Tryz.underlying22 Tryz.underlying5 Tryz.underlying9 hob
  refine wpAnyH_ready (rs := [9]) (by kernel_rfl) (by simp) ?_
  refine AllReadyH.cons rfl (fun K hK => ?_) AllReadyH.nil
  (try simp only [List.getElem_toArray, List.getElem_cons_succ, List.getElem_cons_zero])
  skip
  go_simp
  skip
  refine hK.out _ _ hS (fun hHeld => ?_)
  clear hK K
  have hcat : ¬ 9223372036854775807 < X.size + 1 := by omega
  refine wpAnyH_take (i := 10) (v := ?_) rfl (by kernel_rfl) (by kernel_rfl) (by kernel_rfl) (fun _ _ _ h => h) (Or.inl ⟨by rfl, ?_⟩) (by assumption) ?_
  rotate_left
  · intro wq hSw
    (try dsimp only at hSw)
    (try simp only [List.getElem_toArray, List.getElem_cons_succ, List.getElem_cons_zero])
    go_simp
    (try with_reducible rfl)
  simp only [Act.put, List.getElem_toArray, List.getElem_cons_succ, List.getElem_cons_zero, List.setIfInBounds_toArray, List.set_cons_zero, List.set_cons_succ]
  refine wpAnyH_take (i := 11) (v := ?_) rfl (by kernel_rfl) (by kernel_rfl) (by kernel_rfl) (fun _ _ _ h => h) (Or.inl ⟨by rfl, ?_⟩) (by assumption) ?_
  rotate_left
  · intro wq hSw
    (try dsimp only at hSw)
    (try simp only [List.getElem_toArray, List.getElem_cons_succ, List.getElem_cons_zero])
    go_simp
    (try with_reducible rfl)
  simp only [Act.put, List.getElem_toArray, List.getElem_cons_succ, List.getElem_cons_zero, List.setIfInBounds_toArray, List.set_cons_zero, List.set_cons_succ]
  refine wpAnyH_done (by kernel_rfl) ?_ _
  go_wp2
  go_ret
  refine ⟨?_, hB⟩
  have e1 : (⟨(sendL ⟨a, b, d, m⟩ s.data.toList).toArray⟩ : ByteArray) = X ++ ⟨[endOf ⟨a, b, d, m⟩].toArray⟩ := by
    have : (X ++ ⟨[endOf ⟨a, b, d, m⟩].toArray⟩ : ByteArray).data.toList = sendL ⟨a, b, d, m⟩ s.data.toList := by
      rw [str_append, HXd.out]; rfl
    rw [← this, Lib.mk_data]
  rw [e1]
  rfl
end Go.Proofs.YtcegpcggdcgjbaaGreatDoor
/- Finders in the laws: their size, copies, whether two are the same. -/
namespace Go.Proofs.YtcegpcggdcgjbaaGreatDoor
open Go.ChangeShapes Go.WideShapes Go.ChangeAt Go.RowKit
abbrev fdV (s : ByteArray) (o : Bool) : Value := .agg #[.string s, .bool o]
end Go.Proofs.YtcegpcggdcgjbaaGreatDoor
/- What bytes between two ends come to, in the model: read back, and evaluated. -/
namespace Go.Proofs.YtcegpcggdcgjbaaGreatDoor
open Go.ChangeShapes Go.WideShapes Go.ChangeAt Go.RowKit
theorem not_last {s : ByteArray} {k : Nat} (hk : k < s.size) (h5 : s.data.toList.getLast? ≠ some 125) (hc : s[k] = 125) : k + 1 < s.size := by
  rcases Nat.lt_or_ge (k + 1) s.size with h | h
  · exact h
  · exfalso
    apply h5
    rw [last_at s (by omega)]
    have e : s.size - 1 = k := by omega
    simp only [e, hc]
theorem no_flag {s : ByteArray} {k : Nat} (hk : k < s.size) (h6 : (126 : UInt8) ∉ s.data.toList) : s[k].toNat ≠ 126 := by
  intro e
  apply h6
  have h1 : s.data.toList[k]'(by rw [size_list]; exact hk) = s[k] := rfl
  have h2 : s[k] = 126 := UInt8.toNat_inj.1 e
  rw [← h2, ← h1]
  exact List.getElem_mem _
set_option maxRecDepth 100000 in
set_option maxHeartbeats 4000000 in
theorem l5Get_yes (m : Nat) (s : ByteArray) (w : World) (hm : m ≤ 4294967295) (hs : s.size ≤ 1200) (h6 : (126 : UInt8) ∉ s.data.toList) (h5 : s.data.toList.getLast? ≠ some 125) :
    Calls Tryz.prog 151 #[.int .i64 m, .string s] w fun e w' => e = .returned (.tuple #[.string ⟨(unR m s.data.toList).toArray⟩, .bool true]) ∧ Below w.heap.size w w' := by
  obtain ⟨i0, hi, hz0, hz1, hz2⟩ := info_parts info_u8
  have HI := Lib.hid hi
  have HZ0 := Lib.hid hz0
  have HZ1 := Lib.hid hz1
  have HZ2 := Lib.hid hz2
  have HSL := Lib.hid (size_list s)
  have H6 := Lib.hid h6
  have H5 := Lib.hid h5
  clear hi hz0 hz1 hz2 h6 h5
  go_enter Tryz.func151, Tryz.ntmps151
  go_wp2
  go_loopw [6, 7] (fun v i wr => ∃ (k : Nat) (out : List UInt8), k ≤ s.size ∧ i = .int .i64 k ∧ out.length ≤ k ∧ out ++ unR m (s.data.toList.drop k) = unR m s.data.toList ∧ OB 5 wr w.heap.size v out ∧ Below w.heap.size w wr) (fun _ i _ => s.size - (intOf i).toNat)
  case atStart => exact ⟨0, [], Nat.zero_le _, rfl, Nat.le_refl _, rfl, .inr ⟨w.heap.size, 0, #[], (0, 0), rfl, Nat.le_refl _, heap_alloc_new w _, .inl rfl, Nat.le_refl _, by simp [maxLen], rfl, rfl⟩, (Below.refl _ _).alloc (Nat.le_refl _) _⟩
  case round =>
    obtain ⟨k, out, hk, rfl, hol, hun, hown, hb⟩ := hrel
    have HO := Lib.hid hown
    have HB := Lib.hid hb
    have HUN := Lib.hid hun
    clear hown hb hun
    by_cases hlt : k < s.size
    · have HD := Lib.hid (drop_at s k hlt)
      have h126 := no_flag hlt H6.out
      have hb6 : ((s[k].toNat : Int) == 126) = false := beq_eq_false_iff_ne.2 (by omega)
      by_cases hc : s[k].toNat = 125
      · have hce : s[k] = 125 := by apply UInt8.toNat_inj.1; exact hc
        have hk1 := not_last hlt H5.out hce
        have hb5 : ((s[k].toNat : Int) == 125) = true := by rw [beq_iff_eq]; omega
        have h126b := no_flag hk1 H6.out
        have hb6b : ((s[k + 1].toNat : Int) == 126) = false := beq_eq_false_iff_ne.2 (by omega)
        have hx : bits .xor .u8 (s[k + 1].toNat : Int) 32 = ((s[k + 1] ^^^ 32).toNat : Int) := bits_xor_u8 s[k + 1] 32
        have hmp : mapB m s[k] = false := mapB_high (by omega)
        have HN := Lib.hid (show (out ++ [s[k + 1] ^^^ 32]) ++ unR m (s.data.toList.drop (k + 2)) = unR m s.data.toList by
          rw [← HUN.out, HD.out, drop_at s (k + 1) hk1, hce, unR_esc]; simp)
        have hll : out.length + [s[k + 1] ^^^ 32].length ≤ 140737488355328 := by simp; omega
        clear hc hce h126 h126b
        go_wp2_with fail
        refine (l5Mapped_any m s[k] wr hm).mono ?_
        rintro e w1 ⟨rfl, rfl⟩
        rw [hmp]
        go_wp2_with (at_builtin; refine wpList_append_OB _ rfl _ _ 22 rfl w.heap.size 5 i0 Tryz.underlying22 HI.out HZ0.out HZ1.out HZ2.out _ out rfl (HO.out.alloc _) ⟨wr.heap.size, 0, none⟩ 1 1 [s[k + 1] ^^^ 32] rfl rfl (one_new wr _ _ _ rfl) hll (by have := HB.out.size; simp; omega) ?_; intro v2 w2 hown2 hg2)
        go_roundw
        case rel => exact ⟨k + 2, out ++ [s[k + 1] ^^^ 32], by omega, by go_num, by simp; omega, HN.out, hown2, (HB.out.alloc HB.out.size _).grown hg2 (by have := HB.out.size; simp; omega) (fun k hk => (HO.out.lt k hk).1)⟩
        case measure => simp [intOf]; omega
      · have hce : s[k] ≠ 125 := fun e => hc (by rw [e]; rfl)
        have hb5 : ((s[k].toNat : Int) == 125) = false := beq_eq_false_iff_ne.2 (by omega)
        cases hmb : mapB m s[k] with
        | true =>
          have HN := Lib.hid (show out ++ unR m (s.data.toList.drop (k + 1)) = unR m s.data.toList by
            rw [← HUN.out, HD.out, unR_map _ hce hmb])
          clear hc hce h126
          go_wp2_with fail
          refine (l5Mapped_any m s[k] wr hm).mono ?_
          rintro e w1 ⟨rfl, rfl⟩
          rw [hmb]
          go_wp2
          go_roundw
          case rel => exact ⟨k + 1, out, by omega, by go_num, by omega, HN.out, HO.out, HB.out⟩
          case measure => simp [intOf]; omega
        | false =>
          have HN := Lib.hid (show (out ++ [s[k]]) ++ unR m (s.data.toList.drop (k + 1)) = unR m s.data.toList by
            rw [← HUN.out, HD.out, unR_own _ hce hmb]; simp)
          have hll : out.length + [s[k]].length ≤ 140737488355328 := by simp; omega
          clear hc hce h126
          go_wp2_with fail
          refine (l5Mapped_any m s[k] wr hm).mono ?_
          rintro e w1 ⟨rfl, rfl⟩
          rw [hmb]
          go_wp2_with (at_builtin; refine wpList_append_OB _ rfl _ _ 22 rfl w.heap.size 5 i0 Tryz.underlying22 HI.out HZ0.out HZ1.out HZ2.out _ out rfl (HO.out.alloc _) ⟨wr.heap.size, 0, none⟩ 1 1 [s[k]] rfl rfl (one_new wr _ _ _ rfl) hll (by have := HB.out.size; simp; omega) ?_; intro v2 w2 hown2 hg2)
          go_roundw
          case rel => exact ⟨k + 1, out ++ [s[k]], by omega, by go_num, by simp; omega, HN.out, hown2, (HB.out.alloc HB.out.size _).grown hg2 (by have := HB.out.size; simp; omega) (fun k hk => (HO.out.lt k hk).1)⟩
          case measure => simp [intOf]; omega
    · have HE := Lib.hid (show out = unR m s.data.toList by
        have h := HUN.out
        rw [List.drop_eq_nil_of_le (by rw [HSL.out]; omega)] at h
        simpa [unR] using h)
      go_wp2_with (refine wpList_string_of_OB _ rfl 22 9 5 _ rfl w.heap.size _ _ rfl Tryz.underlying22 Tryz.underlying5 Tryz.underlying9 HO.out ?_)
      go_ret2
      exact ⟨by rw [HE.out]; rfl, HB.out⟩
set_option maxHeartbeats 1000000 in
theorem l7Read_any (a b d m : Int) (s : ByteArray) (w : World) (hc : confB ⟨a, b, d, m⟩ = true) (hs : s.size ≤ 600) (h6 : endOf ⟨a, b, d, m⟩ ∉ s.data.toList) (h5 : a = 1 → s.data.toList.getLast? ≠ some 125) :
    Calls Tryz.prog 140 #[cfV a b d m, .string s] w fun e w' => e = .returned (.tuple #[.string ⟨(readL ⟨a, b, d, m⟩ s.data.toList).1.toArray⟩, .bool (readL ⟨a, b, d, m⟩ s.data.toList).2]) ∧ Below w.heap.size w w' := by
  obtain ⟨h1, _, _, h4, hm0⟩ := confB_yes hc
  simp only at h1 h4 hm0
  clear hc
  rcases h1 with rfl | rfl | rfl
  · obtain ⟨k, rfl, hk, hk2⟩ := toNat_map h4
    have HE := Lib.hid (show readL ⟨1, b, d, k⟩ s.data.toList = (unR k s.data.toList, true) from rfl)
    have H6 := Lib.hid h6
    have H5 := Lib.hid (h5 rfl)
    clear h4 hm0 hk h6 h5
    go_enter Tryz.func140, Tryz.ntmps140
    go_wp2_with fail
    refine (l5Get_yes k s _ hk2 (by omega) H6.out H5.out).mono ?_
    rintro e w1 ⟨rfl, hb⟩
    have HB := Lib.hid (alloc_below hb)
    clear hb
    go_wp2
    go_ret2
    exact ⟨by rw [HE.out]; rfl, HB.out⟩
  · have HE := Lib.hid (show readL ⟨2, b, d, m⟩ s.data.toList = getA s.data.toList from rfl)
    clear h4 hm0 h6 h5
    go_enter Tryz.func140, Tryz.ntmps140
    go_wp2_with fail
    refine (l6Get_any s _ (by omega)).mono ?_
    rintro e w1 ⟨rfl, hb⟩
    have HB := Lib.hid (alloc_below hb)
    clear hb
    go_wp2
    go_ret2
    exact ⟨by rw [HE.out]; rfl, HB.out⟩
  · have HE := Lib.hid (show readL ⟨3, b, d, m⟩ s.data.toList = lgetA s.data.toList from rfl)
    clear h4 hm0 h6 h5
    go_enter Tryz.func140, Tryz.ntmps140
    go_wp2_with fail
    refine (l6More_any s _ (by omega)).mono ?_
    rintro e w1 ⟨rfl, hb⟩
    have HB := Lib.hid (alloc_below hb)
    clear hb
    go_wp2
    go_ret2
    exact ⟨by rw [HE.out]; rfl, HB.out⟩
end Go.Proofs.YtcegpcggdcgjbaaGreatDoor
