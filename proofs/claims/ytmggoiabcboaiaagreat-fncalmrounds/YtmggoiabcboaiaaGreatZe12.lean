/- Parts of a proof, 12: KitFindC Os LnC LnD LnE LnH FEvK LnF LnG. -/
import Derived.Maps.AppendAt
import Derived.SliceStrings
import Derived.Laws.StructEq
import Derived.Deep.RegionWith
import Derived.Deep.RegionHeld3
import Derived.Test.YtmggoiabcboaiaaGreatZe1
import Derived.Test.YtmggoiabcboaiaaGreatZe2
import Derived.Test.YtmggoiabcboaiaaGreatZe3
import Derived.Test.YtmggoiabcboaiaaGreatZe4
import Derived.Test.YtmggoiabcboaiaaGreatZe5
import Derived.Test.YtmggoiabcboaiaaGreatZe6
import Derived.Test.YtmggoiabcboaiaaGreatZe7
import Derived.Test.YtmggoiabcboaiaaGreatZe8
import Derived.Test.YtmggoiabcboaiaaGreatZe9
import Derived.Test.YtmggoiabcboaiaaGreatZe10
import Derived.Test.YtmggoiabcboaiaaGreatZe11
namespace Go.Proofs.YtmggoiabcboaiaaGreat
open Go.ChangeShapes Go.WideShapes Go.ChangeAt Go.RowKit
set_option maxHeartbeats 1000000 in
theorem l7Write_any (a b d m : Int) (s : ByteArray) (w : World) (hc : confB ⟨a, b, d, m⟩ = true) (hs : s.size ≤ 600) :
  Calls Tryz.prog 100 #[cfV a b d m, .string s] w fun e w' => e = .returned (.string ⟨(writeL ⟨a, b, d, m⟩ s.data.toList).toArray⟩) ∧ Below w.heap.size w w' := by
 obtain ⟨h1, _, _, h4, h5⟩ := confB_yes hc
 simp only at h1 h4 h5
 clear hc
 rcases h1 with rfl | rfl | rfl
 ·obtain ⟨k, rfl, hk, hk2⟩ := toNat_map h4
  have HE := Lib.hid (show writeL ⟨1, b, d, k⟩ s.data.toList = escR k s.data.toList from rfl)
  clear h4 h5 hk
  go_enter Tryz.func100, Tryz.ntmps100
  go_wp2_with fail
  refine (l5Put_any k s _ hk2 hs).mono ?_
  rintro e w1 ⟨rfl, hb⟩
  have HB := Lib.hid (alloc_below hb)
  clear hb
  go_wp2
  go_ret
  exact ⟨by rw [HE.out]; rfl, HB.out⟩
 ·have HE := Lib.hid (show writeL ⟨2, b, d, m⟩ s.data.toList = cob s.data.toList from rfl)
  clear h4 h5
  go_enter Tryz.func100, Tryz.ntmps100
  go_wp2_with fail
  refine (l6Put_any s _ hs).mono ?_
  rintro e w1 ⟨rfl, hb⟩
  have HB := Lib.hid (alloc_below hb)
  clear hb
  go_wp2
  go_ret
  exact ⟨by rw [HE.out]; rfl, HB.out⟩
 ·have HE := Lib.hid (show writeL ⟨3, b, d, m⟩ s.data.toList = less s.data.toList from rfl)
  clear h4 h5
  go_enter Tryz.func100, Tryz.ntmps100
  go_wp2_with fail
  refine (l6Put_any s _ hs).mono ?_
  rintro e w1 ⟨rfl, hb⟩
  have hb1 := alloc_below hb
  clear hb
  go_wp2_with fail
  refine (l6Less_any s.data.toList _ _ rfl (by rw [size_list]; exact hs)).mono ?_
  rintro e w2 ⟨rfl, hb2⟩
  have HB := Lib.hid (hb1.trans (hb2.mono hb1.size))
  clear hb2 hb1
  go_wp2
  go_ret
  exact ⟨by rw [HE.out]; rfl, HB.out⟩
set_option maxRecDepth 100000 in
set_option maxHeartbeats 2000000 in
theorem l7Send_any (a b d m : Int) (s : ByteArray) (w : World) (hc : confB ⟨a, b, d, m⟩ = true) (hs : s.size ≤ 500) :
  Calls Tryz.prog 84 #[cfV a b d m, .string s] w fun e w' => e = .returned (.string ⟨(sendL ⟨a, b, d, m⟩ s.data.toList).toArray⟩) ∧ Below w.heap.size w w' := by
 obtain ⟨_, hkb, hd, _, _⟩ := confB_yes hc
 simp only at hkb hd
 have hkb2 := kind_ge hkb
 have HKB := Lib.hid hkb
 have HC := Lib.hid hc
 obtain ⟨P, hP⟩ : ∃ P : ByteArray, (⟨(putL b s.data.toList).toArray⟩ : ByteArray) = P := ⟨_, rfl⟩
 obtain ⟨X, hX⟩ : ∃ X : ByteArray, (⟨(writeL ⟨a, b, d, m⟩ (putL b s.data.toList)).toArray⟩ : ByteArray) = X := ⟨_, rfl⟩
 have hPs : P.size ≤ 504 := by
  rw [← size_list, ← hP]; show (putL b s.data.toList).length ≤ 504
  rw [putL_len, size_list]; omega
 have hPd : P.data.toList = putL b s.data.toList := by rw [← hP]
 have hXd : X.data.toList = writeL ⟨a, b, d, m⟩ (putL b s.data.toList) := by rw [← hX]
 have hXs : X.size ≤ 2000 := by
  have h1 := writeL_len ⟨a, b, d, m⟩ (putL b s.data.toList) (by rw [← hPd, size_list]; omega)
  rw [← hXd, ← hPd, size_list, size_list] at h1; omega
 have HP := Lib.hid hP
 have HX := Lib.hid hX
 have HPd := Lib.hid hPd
 have HXd := Lib.hid hXd
 have HSP := Lib.hid (fun w => l1Put_any b s w HKB.out (by omega))
 have HWR := Lib.hid (fun w => l7Write_any a b d m P w HC.out (by omega))
 clear hP hX hPd hXd hkb hc
 go_enter Tryz.func84, Tryz.ntmps84
 go_wp2_with fail
 have hB := (Below.refl w.heap.size w).alloc (Nat.le_refl _) (.cells #[.int .i64 a, .int .i64 b, .int .i64 d, .int .i64 m] 24)
 have hCB := CB_new w a b d m 24
 have hlt : w.heap.size < (w.alloc (.cells #[.int .i64 a, .int .i64 b, .int .i64 d, .int .i64 m] 24)).heap.size := by simp
 generalize w.alloc (.cells #[.int .i64 a, .int .i64 b, .int .i64 d, .int .i64 m] 24) = w1 at *
 have hB := hB.drew
 have hS : w1.drew.cell? ⟨w.heap.size, 0, none⟩ = some (.int .i64 a) ∧ w1.drew.cell? ⟨w.heap.size, 1, none⟩ = some (.int .i64 b) ∧ w1.drew.cell? ⟨w.heap.size, 2, none⟩ = some (.int .i64 d) ∧ w1.drew.cell? ⟨w.heap.size, 3, none⟩ = some (.int .i64 m) := hCB
 refine wp_region_held_drew (S := (fun wx => wx.cell? ⟨w.heap.size, 0, none⟩ = some (.int .i64 a) ∧ wx.cell? ⟨w.heap.size, 1, none⟩ = some (.int .i64 b) ∧ wx.cell? ⟨w.heap.size, 2, none⟩ = some (.int .i64 d) ∧ wx.cell? ⟨w.heap.size, 3, none⟩ = some (.int .i64 m))) (by kernel_rfl) hS (fun hHeld => ?_)
 refine tkH 0 ?_ rfl (Or.inl ⟨by rfl, ?_⟩) ?_; rotate_left
 ·intro wq hSw; (try dsimp only at hSw); (try simp only [gT, gZ]); go_simp; (try with_reducible rfl)
 simp only [Act.put, gT, gZ, sT, sZ, sS]
 refine tkH 1 ?_ rfl (Or.inl ⟨by rfl, ?_⟩) ?_; rotate_left
 ·intro wq hSw; (try dsimp only at hSw); (try simp only [gT, gS, gZ]); go_simp; (try with_reducible rfl)
 simp only [Act.put, gT, gS, gZ, sT, sZ, sS]
 refine tkH 2 ?_ rfl (Or.inl ⟨by rfl, ?_⟩) ?_; rotate_left
 ·intro wq hSw; (try dsimp only at hSw); (try simp only [gT, gS, gZ]); go_simp; (try with_reducible rfl)
 simp only [Act.put, gT, gS, gZ, sT, sZ, sS]
 refine tkH 3 ?_ rfl (Or.inl ⟨by rfl, ?_⟩) ?_; rotate_left
 ·intro wq hSw; (try dsimp only at hSw); (try simp only [gT, gS, gZ]); go_simp; (try with_reducible rfl)
 simp only [Act.put, gT, gS, gZ, sT, sZ, sS]
 refine tkH 6 ?_ rfl (Or.inl ⟨by rfl, ?_⟩) ?_; rotate_left
 ·intro wq hSw; (try dsimp only at hSw); (try simp only [gT, gS, gZ]); go_simp; (try with_reducible rfl)
 simp only [Act.put, gT, gS, gZ, sT, sZ, sS]
 refine wpAnyH_ready (rs := [4]) (by kernel_rfl) (by simp) ?_
 refine AllReadyH.cons rfl (fun K hK => ?_) AllReadyH.nil
 (try simp only [gT, gS, gZ])
 go_simp
 go_at_call 101
 refine (HSP.out _).mono ?_
 rintro e w2 ⟨rfl, hb2⟩
 have hS := (show CB w1.drew w.heap.size a b d m from hS).below hb2 hlt
 have hB := hB.trans (hb2.mono hB.size)
 have hlt := Nat.lt_of_lt_of_le hlt hb2.size
 rw [show (⟨(s.data.toList ++ leB (sumN b s.data.toList) b.toNat).toArray⟩ : ByteArray) = P from HP.out]
 refine hK.out _ _ hS (fun hHeld => ?_)
 clear hK K
 refine wpAnyH_ready (rs := [5]) (by kernel_rfl) (by simp) ?_
 refine AllReadyH.cons rfl (fun K hK => ?_) AllReadyH.nil
 (try simp only [gT, gS, gZ])
 go_simp
 go_at_call 100
 refine (HWR.out _).mono ?_
 rintro e w3 ⟨rfl, hb3⟩
 have hS := (show CB w2 w.heap.size a b d m from hS).below hb3 hlt
 have hB := hB.trans (hb3.mono hB.size)
 have hlt := Nat.lt_of_lt_of_le hlt hb3.size
 rw [HPd.out, HX.out]
 refine hK.out _ _ hS (fun hHeld => ?_)
 clear hK K
 refine wpAnyH_ready (rs := [7]) (by kernel_rfl) (by simp) ?_
 refine AllReadyH.cons rfl (fun K hK => ?_) AllReadyH.nil
 (try simp only [gT, gS, gZ])
 go_simp
 go_at_call 97
 refine (l7End_any a b d m _).mono ?_
 rintro e w4 ⟨rfl, hb4⟩
 have hS := (show CB w3 w.heap.size a b d m from hS).below hb4 hlt
 have hB := hB.trans (hb4.mono hB.size)
 have hlt := Nat.lt_of_lt_of_le hlt hb4.size
 refine hK.out _ _ hS (fun hHeld => ?_)
 clear hK K
 refine wpAnyH_ready (rs := [8]) (by kernel_rfl) (by simp) ?_
 refine AllReadyH.cons rfl (fun K hK => ?_) AllReadyH.nil
 (try simp only [gT, gS, gZ])
 skip
 go_simp
 have hS := (show CB w4 w.heap.size a b d m from hS).below ((Below.refl _ w4).alloc (Nat.le_refl _) (.cells #[.int .u8 (endOf ⟨a, b, d, m⟩).toNat] 5)) hlt
 refine hK.out _ _ hS (fun hHeld => ?_)
 clear hK K
 have hob := OB_one 5 w4 w.heap.size hB.size (endOf ⟨a, b, d, m⟩) (.int .u8 (endOf ⟨a, b, d, m⟩).toNat) rfl
 have hB := hB.alloc hB.size (.cells #[.int .u8 (endOf ⟨a, b, d, m⟩).toNat] 5)
 have hr := run_string_of_OB (P := Tryz.prog) _ 22 9 5 _ _ _ Tryz.underlying22 Tryz.underlying5 Tryz.underlying9 hob
 refine wpAnyH_ready (rs := [9]) (by kernel_rfl) (by simp) ?_
 refine AllReadyH.cons rfl (fun K hK => ?_) AllReadyH.nil
 (try simp only [gT, gS, gZ])
 skip
 go_simp
 skip
 refine hK.out _ _ hS (fun hHeld => ?_)
 clear hK K
 have hcat : ¬ 9223372036854775807 < X.size + 1 := by omega
 refine tkH 10 ?_ rfl (Or.inl ⟨by rfl, ?_⟩) ?_; rotate_left
 ·intro wq hSw; (try dsimp only at hSw); (try simp only [gT, gS, gZ]); go_simp; (try with_reducible rfl)
 simp only [Act.put, gT, gS, gZ, sT, sZ, sS]
 refine tkH 11 ?_ rfl (Or.inl ⟨by rfl, ?_⟩) ?_; rotate_left
 ·intro wq hSw; (try dsimp only at hSw); (try simp only [gT, gS, gZ]); go_simp; (try with_reducible rfl)
 simp only [Act.put, gT, gS, gZ, sT, sZ, sS]
 refine wpAnyH_done (by kernel_rfl) ?_ _
 go_wp2
 go_ret
 refine ⟨?_, hB⟩
 have e1 : (⟨(sendL ⟨a, b, d, m⟩ s.data.toList).toArray⟩ : ByteArray) = X ++ ⟨[endOf ⟨a, b, d, m⟩].toArray⟩ := by
  have : (X ++ ⟨[endOf ⟨a, b, d, m⟩].toArray⟩ : ByteArray).data.toList = sendL ⟨a, b, d, m⟩ s.data.toList := by
   rw [str_append, HXd.out]; rfl
  rw [← this, Lib.mk_data]
 rw [e1]
 rfl
end Go.Proofs.YtmggoiabcboaiaaGreat
/- Finders in the laws: their size, copies, whether two are the same. -/
namespace Go.Proofs.YtmggoiabcboaiaaGreat
open Go.ChangeShapes Go.WideShapes Go.ChangeAt Go.RowKit
abbrev fdV (s : ByteArray) (o : Bool) : Value := .agg #[.string s, .bool o]
end Go.Proofs.YtmggoiabcboaiaaGreat
/- What bytes between two ends come to, in the model: read back, and evaluated. -/
namespace Go.Proofs.YtmggoiabcboaiaaGreat
open Go.ChangeShapes Go.WideShapes Go.ChangeAt Go.RowKit
theorem not_last {s : ByteArray} {k : Nat} (hk : k < s.size) (h5 : s.data.toList.getLast? ≠ some 125) (hc : s[k] = 125) : k + 1 < s.size := by
 rcases Nat.lt_or_ge (k + 1) s.size with h | h
 ·exact h
 ·exfalso
  apply h5
  rw [last_at s (by omega)]
  have e : s.size - 1 = k := by omega
  simp only [e, hc]
theorem no_flag {s : ByteArray} {k : Nat} (hk : k < s.size) (h6 : (126 : UInt8) ∉ s.data.toList) : s[k].toNat ≠ 126 := by
 intro e
 apply h6
 have h1 : s.data.toList[k]'(by rw [size_list]; exact hk) = s[k] := rfl
 have h2 : s[k] = 126 := UInt8.toNat_inj.1 e
 rw [← h2, ← h1]
 exact List.getElem_mem _
set_option maxRecDepth 100000 in
set_option maxHeartbeats 4000000 in
theorem l5Get_yes (m : Nat) (s : ByteArray) (w : World) (hm : m ≤ 4294967295) (hs : s.size ≤ 1200) (h6 : (126 : UInt8) ∉ s.data.toList) (h5 : s.data.toList.getLast? ≠ some 125) :
  Calls Tryz.prog 124 #[.int .i64 m, .string s] w fun e w' => e = .returned (.tuple #[.string ⟨(unR m s.data.toList).toArray⟩, .bool true]) ∧ Below w.heap.size w w' := by
 obtain ⟨i0, hi, hz0, hz1, hz2⟩ := info_parts info_u8
 have HI := Lib.hid hi
 have HZ0 := Lib.hid hz0
 have HZ1 := Lib.hid hz1
 have HZ2 := Lib.hid hz2
 have HSL := Lib.hid (size_list s)
 have H6 := Lib.hid h6
 have H5 := Lib.hid h5
 clear hi hz0 hz1 hz2 h6 h5
 go_enter Tryz.func124, Tryz.ntmps124
 go_wp2
 go_loopw [6, 7] (fun v i wr => ∃ (k : Nat) (out : List UInt8), k ≤ s.size ∧ i = .int .i64 k ∧ out.length ≤ k ∧ out ++ unR m (s.data.toList.drop k) = unR m s.data.toList ∧ OB 5 wr w.heap.size v out ∧ Below w.heap.size w wr) (fun _ i _ => s.size - (intOf i).toNat)
 case atStart => exact ⟨0, [], Nat.zero_le _, rfl, Nat.le_refl _, rfl, .inr ⟨w.heap.size, 0, #[], (0, 0), rfl, Nat.le_refl _, heap_alloc_new w _, .inl rfl, Nat.le_refl _, by simp [maxLen], rfl, rfl⟩, (Below.refl _ _).alloc (Nat.le_refl _) _⟩
 case round =>
  obtain ⟨k, out, hk, rfl, hol, hun, hown, hb⟩ := hrel
  have HO := Lib.hid hown
  have HB := Lib.hid hb
  have HUN := Lib.hid hun
  clear hown hb hun
  by_cases hlt : k < s.size
  ·have HD := Lib.hid (drop_at s k hlt)
   have h126 := no_flag hlt H6.out
   have hb6 : ((s[k].toNat : Int) == 126) = false := beq_eq_false_iff_ne.2 (by omega)
   by_cases hc : s[k].toNat = 125
   ·have hce : s[k] = 125 := by apply UInt8.toNat_inj.1; exact hc
    have hk1 := not_last hlt H5.out hce
    have hb5 : ((s[k].toNat : Int) == 125) = true := by rw [beq_iff_eq]; omega
    have h126b := no_flag hk1 H6.out
    have hb6b : ((s[k + 1].toNat : Int) == 126) = false := beq_eq_false_iff_ne.2 (by omega)
    have hx : bits .xor .u8 (s[k + 1].toNat : Int) 32 = ((s[k + 1] ^^^ 32).toNat : Int) := bits_xor_u8 s[k + 1] 32
    have hmp : mapB m s[k] = false := mapB_high (by omega)
    have HN := Lib.hid (show (out ++ [s[k + 1] ^^^ 32]) ++ unR m (s.data.toList.drop (k + 2)) = unR m s.data.toList by
     rw [← HUN.out, HD.out, drop_at s (k + 1) hk1, hce, unR_esc]; simp)
    have hll : out.length + [s[k + 1] ^^^ 32].length ≤ 140737488355328 := by simp; omega
    clear hc hce h126 h126b
    go_wp2_with fail
    refine (l5Mapped_any m s[k] wr hm).mono ?_
    rintro e w1 ⟨rfl, rfl⟩
    rw [hmp]
    go_wp2_with (at_builtin; refine wpList_append_OB _ rfl _ _ 22 rfl w.heap.size 5 i0 Tryz.underlying22 HI.out HZ0.out HZ1.out HZ2.out _ out rfl (HO.out.alloc _) ⟨wr.heap.size, 0, none⟩ 1 1 [s[k + 1] ^^^ 32] rfl rfl (one_new wr _ _ _ rfl) hll (by have := HB.out.size; simp; omega) ?_; intro v2 w2 hown2 hg2)
    go_roundw
    case rel => exact ⟨k + 2, out ++ [s[k + 1] ^^^ 32], by omega, by go_num, by simp; omega, HN.out, hown2, (HB.out.alloc HB.out.size _).grown hg2 (by have := HB.out.size; simp; omega) (fun k hk => (HO.out.lt k hk).1)⟩
    case measure => simp [intOf]; omega
   ·have hce : s[k] ≠ 125 := fun e => hc (by rw [e]; rfl)
    have hb5 : ((s[k].toNat : Int) == 125) = false := beq_eq_false_iff_ne.2 (by omega)
    cases hmb : mapB m s[k] with
    | true =>
     have HN := Lib.hid (show out ++ unR m (s.data.toList.drop (k + 1)) = unR m s.data.toList by
      rw [← HUN.out, HD.out, unR_map _ hce hmb])
     clear hc hce h126
     go_wp2_with fail
     refine (l5Mapped_any m s[k] wr hm).mono ?_
     rintro e w1 ⟨rfl, rfl⟩
     rw [hmb]
     go_wp2
     go_roundw
     case rel => exact ⟨k + 1, out, by omega, by go_num, by omega, HN.out, HO.out, HB.out⟩
     case measure => simp [intOf]; omega
    | false =>
     have HN := Lib.hid (show (out ++ [s[k]]) ++ unR m (s.data.toList.drop (k + 1)) = unR m s.data.toList by
      rw [← HUN.out, HD.out, unR_own _ hce hmb]; simp)
     have hll : out.length + [s[k]].length ≤ 140737488355328 := by simp; omega
     clear hc hce h126
     go_wp2_with fail
     refine (l5Mapped_any m s[k] wr hm).mono ?_
     rintro e w1 ⟨rfl, rfl⟩
     rw [hmb]
     go_wp2_with (at_builtin; refine wpList_append_OB _ rfl _ _ 22 rfl w.heap.size 5 i0 Tryz.underlying22 HI.out HZ0.out HZ1.out HZ2.out _ out rfl (HO.out.alloc _) ⟨wr.heap.size, 0, none⟩ 1 1 [s[k]] rfl rfl (one_new wr _ _ _ rfl) hll (by have := HB.out.size; simp; omega) ?_; intro v2 w2 hown2 hg2)
     go_roundw
     case rel => exact ⟨k + 1, out ++ [s[k]], by omega, by go_num, by simp; omega, HN.out, hown2, (HB.out.alloc HB.out.size _).grown hg2 (by have := HB.out.size; simp; omega) (fun k hk => (HO.out.lt k hk).1)⟩
     case measure => simp [intOf]; omega
  ·have HE := Lib.hid (show out = unR m s.data.toList by
    have h := HUN.out
    rw [List.drop_eq_nil_of_le (by rw [HSL.out]; omega)] at h
    simpa [unR] using h)
   go_wp2_with (refine wpList_string_of_OB _ rfl 22 9 5 _ rfl w.heap.size _ _ rfl Tryz.underlying22 Tryz.underlying5 Tryz.underlying9 HO.out ?_)
   go_ret2
   exact ⟨by rw [HE.out]; rfl, HB.out⟩
set_option maxHeartbeats 1000000 in
theorem l7Read_any (a b d m : Int) (s : ByteArray) (w : World) (hc : confB ⟨a, b, d, m⟩ = true) (hs : s.size ≤ 600) (h6 : endOf ⟨a, b, d, m⟩ ∉ s.data.toList) (h5 : a = 1 → s.data.toList.getLast? ≠ some 125) :
  Calls Tryz.prog 115 #[cfV a b d m, .string s] w fun e w' => e = .returned (.tuple #[.string ⟨(readL ⟨a, b, d, m⟩ s.data.toList).1.toArray⟩, .bool (readL ⟨a, b, d, m⟩ s.data.toList).2]) ∧ Below w.heap.size w w' := by
 obtain ⟨h1, _, _, h4, hm0⟩ := confB_yes hc
 simp only at h1 h4 hm0
 clear hc
 rcases h1 with rfl | rfl | rfl
 ·obtain ⟨k, rfl, hk, hk2⟩ := toNat_map h4
  have HE := Lib.hid (show readL ⟨1, b, d, k⟩ s.data.toList = (unR k s.data.toList, true) from rfl)
  have H6 := Lib.hid h6
  have H5 := Lib.hid (h5 rfl)
  clear h4 hm0 hk h6 h5
  go_enter Tryz.func115, Tryz.ntmps115
  go_wp2_with fail
  refine (l5Get_yes k s _ hk2 (by omega) H6.out H5.out).mono ?_
  rintro e w1 ⟨rfl, hb⟩
  have HB := Lib.hid (alloc_below hb)
  clear hb
  go_wp2
  go_ret2
  exact ⟨by rw [HE.out]; rfl, HB.out⟩
 ·have HE := Lib.hid (show readL ⟨2, b, d, m⟩ s.data.toList = getA s.data.toList from rfl)
  clear h4 hm0 h6 h5
  go_enter Tryz.func115, Tryz.ntmps115
  go_wp2_with fail
  refine (l6Get_any s _ (by omega)).mono ?_
  rintro e w1 ⟨rfl, hb⟩
  have HB := Lib.hid (alloc_below hb)
  clear hb
  go_wp2
  go_ret2
  exact ⟨by rw [HE.out]; rfl, HB.out⟩
 ·have HE := Lib.hid (show readL ⟨3, b, d, m⟩ s.data.toList = lgetA s.data.toList from rfl)
  clear h4 hm0 h6 h5
  go_enter Tryz.func115, Tryz.ntmps115
  go_wp2_with fail
  refine (l6More_any s _ (by omega)).mono ?_
  rintro e w1 ⟨rfl, hb⟩
  have HB := Lib.hid (alloc_below hb)
  clear hb
  go_wp2
  go_ret2
  exact ⟨by rw [HE.out]; rfl, HB.out⟩
end Go.Proofs.YtmggoiabcboaiaaGreat
namespace Go.Proofs.YtmggoiabcboaiaaGreat
open Go.ChangeShapes Go.WideShapes Go.ChangeAt Go.RowKit
def OS (w : World) (base : Nat) (v : Value) (ss : List ByteArray) : Prop := w.ownsRow base 9 1 v ss.length (ss.map strV)
section
variable {w w' : World} {base base' : Nat} {v : Value} {ss : List ByteArray}
theorem OS.reads (h : OS w base v ss) : RS w w.heap.size v ss := RS.of_own h
theorem OS.put (h : OS w base v ss) {p : Addr} (hp : p.block < base) (x : Value) : OS (w.setCell p x) base v ss := by
 refine ⟨h.1, ?_⟩
 rcases h.2 with hn | ⟨g, cap, cur, hv, hbg, hg, rest⟩
 ·exact .inl hn
 ·exact .inr ⟨g, cap, cur, hv, hbg, by rw [Below.heap_setCell _ _ _ _ (by omega)]; exact hg, rest⟩
theorem OS.kept {row : Option Nat} (h : OS w base v ss) (hg : w.grownBy w' row) (hne : v.ownBlock = none ∨ v.ownBlock ≠ row) : OS w' base v ss := World.ownsRow.kept h hg hne
theorem OS.below (h : OS w base v ss) (hb : Below w.heap.size w w') : OS w' base v ss :=
 h.kept (row := none) ⟨hb.os, hb.tape, hb.output, hb.size, fun g hg _ => hb.block g hg⟩ (by cases v.ownBlock <;> simp)
theorem OS.alloc (h : OS w base v ss) (o : Obj) : OS (w.alloc o) base v ss := h.below ((Below.refl _ _).alloc (Nat.le_refl _) _)
theorem OS.drew (h : OS w base v ss) : OS w.drew base v ss := h
theorem OS.mono (h : OS w base v ss) (hb : base' ≤ base) : OS w base' v ss := by
 refine ⟨h.1, ?_⟩
 rcases h.2 with hn | ⟨g, cap, cur, hv, hbg, rest⟩
 ·exact .inl hn
 ·exact .inr ⟨g, cap, cur, hv, by omega, rest⟩
theorem OS.low (h : OS w base v ss) : ∀ k, v.ownBlock = some k → base ≤ k ∧ k < w.heap.size := World.ownsRow.lt h
end
theorem OS.cellAt {w : World} {base g n cap : Nat} {ss : List ByteArray} (h : OS w base (.slice (some ⟨g, 0, none⟩) n cap) ss) {k : Nat} (hk : k < ss.length) : w.cell? ⟨g, k, none⟩ = some (.string ss[k]) := by
 have := sown_cell h (j := k) (by simpa using hk)
 simpa [strV] using this
theorem OS.pos {w : World} {base : Nat} {v : Value} {ss : List ByteArray} (h : OS w base v ss) (hl : 0 < ss.length) : ∃ g cap, v = .slice (some ⟨g, 0, none⟩) ss.length cap ∧ base ≤ g ∧ g < w.heap.size := by
 have hlt := World.ownsRow.lt h
 rcases h.2 with ⟨rfl, hn⟩ | ⟨g, cap, cur, rfl, hb, hg, _⟩
 ·omega
 ·exact ⟨g, cap, rfl, (hlt g rfl).1, (hlt g rfl).2⟩
theorem OS_nil (w : World) (base : Nat) : OS w base (.slice none 0 0) [] := World.ownsRow_nil _ _ _ _
theorem OS_made (w : World) {base g : Nat} (hg : w.heap.size = g) (hb : base ≤ g := by omega) : OS (w.alloc (.cells #[] 9)) base (.slice (some ⟨g, 0, none⟩) 0 0) [] := by
 subst hg
 exact ⟨rfl, .inr ⟨w.heap.size, 0, #[], rfl, hb, heap_alloc_new w _, Nat.le_refl _, by simp [maxLen], rfl, rfl⟩⟩
theorem RS_one (w : World) (s : ByteArray) {g : Nat} (hg : w.heap.size = g := by rfl) : RS (w.alloc (.cells #[.string s] 9)) (g + 1) (.slice (some ⟨g, 0, none⟩) 1 1) [s] := by
 subst hg
 refine ⟨_, _, rfl, fun _ => ⟨_, rfl, by simp, fun j hj => ?_⟩⟩
 have hj0 : j = 0 := by simp at hj; omega
 subst hj0
 rw [slit_add]; simp
theorem strV_one (l : List ByteArray) : ∀ u ∈ l.map strV, u.oneCell' = true := by
 intro u hu
 obtain ⟨s, _, rfl⟩ := List.mem_map.1 hu
 rfl
section
variable {P : Program} (w : World)
theorem run_append_os (base : Nat) (t ty : TypeId) (i : TypeInfo) (ht : P.underlying t = some (.slice 9)) (hi : P.info? 9 = some i) (hz : i.zero = some (.string ⟨#[]⟩))
  (hsize : i.size = 1) (hby : i.bytes = 16) (v : Value) (l : List ByteArray) (hown : OS w base v l)
  (B : Nat) (v2 : Value) (news : List ByteArray) (hr : RS w B v2 news) (hlen : l.length + news.length ≤ 1000000000000) (hbase : base ≤ w.heap.size) :
  ∃ v' w', (Builtin.append_ #[t, t] ty #[v, v2]).run P w = .ok v' w' ∧ OS w' base v' (l ++ news) ∧ w.grownBy w' v.ownBlock ∧ (v'.ownBlock = v.ownBlock ∨ v'.ownBlock = some w.heap.size) := by
 obtain ⟨ad, cap, hv2, hr2⟩ := hr
 cases ad with
 | some y =>
  have hc : ∀ j u, (news.map strV)[j]? = some u → w.cell? (y.add j) = some u := by
   intro j u hu
   have hj : j < news.length := by
    rcases Nat.lt_or_ge j news.length with h | h
    ·exact h
    ·rw [List.getElem?_eq_none (by simpa using h)] at hu; cases hu
   obtain ⟨y', hy, _, hc⟩ := hr2 (by omega)
   injection hy with hy
   subst hy
   rw [List.getElem?_map, List.getElem?_eq_getElem hj] at hu
   injection hu with hu
   rw [← hu]
   exact hc j hj
  obtain ⟨v', w', r1, r2, r3, _, r5⟩ := run_append_own_at (P := P) w base t ty 9 i _ 1 16 ht hi hz hsize hby rfl (by omega) v l.length (l.map strV) hown y news.length cap (news.map strV) (by simp) hc (strV_one _) (by unfold maxLen; omega) (by omega) hbase
  refine ⟨v', w', by rw [hv2]; exact r1, ?_, r3, r5⟩
  unfold OS
  rw [List.length_append, List.map_append]
  exact r2
 | none =>
  have hn : news = [] := by
   by_cases h0 : 0 < news.length
   ·obtain ⟨y', hy, _⟩ := hr2 h0
    cases hy
   ·exact List.eq_nil_of_length_eq_zero (by omega)
  subst hn
  refine ⟨v, w, ?_, by simpa using hown, ⟨rfl, rfl, rfl, Nat.le_refl _, fun _ _ _ => rfl⟩, .inl rfl⟩
  rw [hv2]
  rcases hown.2 with ⟨rfl, hl⟩ | ⟨g, cp, cur, rfl, _, hg, hnc, _, hcs, _⟩
  ·simp [Builtin.append_, run_underlying ht, sizeOf, typeInfo, hi, Builtin.lenOf, Builtin.firstCells]
  ·simp [Builtin.append_, run_underlying ht, sizeOf, typeInfo, hi, Builtin.lenOf, Builtin.firstCells, hnc, storeCells]
theorem wpList_append_os {ops : Array Oper} {rest : List Oper} {o : Oper} {a : Act} {Q : Exit → Act → World → Prop} (hgd : o.guard = none) (s x : Operand) (t : TypeId)
  (ho : o.op = .call { callee := .builtin .append, args := #[s, x], argTypes := #[t, t] })
  (base : Nat) (i : TypeInfo) (ht : P.underlying t = some (.slice 9)) (hi : P.info? 9 = some i) (hz : i.zero = some (.string ⟨#[]⟩))
  (hsize : i.size = 1) (hby : i.bytes = 16) (v : Value) (l : List ByteArray) (hs : a.eval s = v) (hown : OS w base v l)
  (B : Nat) (v2 : Value) (news : List ByteArray) (hx : a.eval x = v2) (hr : RS w B v2 news) (hlen : l.length + news.length ≤ 1000000000000) (hbase : base ≤ w.heap.size)
  (h : ∀ v' w', OS w' base v' (l ++ news) → w.grownBy w' v.ownBlock → (v'.ownBlock = v.ownBlock ∨ v'.ownBlock = some w.heap.size) → wpList P ops Q rest (a.put o.dst v') w') : wpList P ops Q (o :: rest) a w := by
 refine wpList_plain hgd fun K hK => ?_
 obtain ⟨v', w', hr, h2, h3, h4⟩ := run_append_os (P := P) w base t o.type i ht hi hz hsize hby v l hown B v2 news hr hlen hbase
 unfold Oper.wp execOp
 simp only [ho, resolve, invoke, builtin, Sem.run_bind, Sem.run_pure, Result.andThen_ok, List.map_toArray, List.map_cons, List.map_nil, hs, hx, hr]
 exact hK _ _ (h v' w' h2 h3 h4)
end
end Go.Proofs.YtmggoiabcboaiaaGreat
namespace Go.Proofs.YtmggoiabcboaiaaGreat
open Go.ChangeShapes Go.WideShapes Go.ChangeAt Go.RowKit
def RL (W : World) (B : Nat) (vm : Value) (ms : List ByteArray) (vg : Value) (gs : List ByteArray) (vt : Value) (ts : List ByteArray) (vb : Value) (bs : List ByteArray) : Prop := RS W B vm ms ∧ RS W B vg gs ∧ RS W B vt ts ∧ RS W B vb bs
theorem RL.below {W W' : World} {B : Nat} {vm vg vt vb : Value} {ms gs ts bs : List ByteArray} (h : RL W B vm ms vg gs vt ts vb bs) (hb : Below B W W') : RL W' B vm ms vg gs vt ts vb bs := ⟨h.1.below hb, h.2.1.below hb, h.2.2.1.below hb, h.2.2.2.below hb⟩
theorem RL.mono {W : World} {B B' : Nat} {vm vg vt vb : Value} {ms gs ts bs : List ByteArray} (h : RL W B vm ms vg gs vt ts vb bs) (hB : B ≤ B') : RL W B' vm ms vg gs vt ts vb bs := ⟨h.1.mono hB, h.2.1.mono hB, h.2.2.1.mono hB, h.2.2.2.mono hB⟩
end Go.Proofs.YtmggoiabcboaiaaGreat
namespace Go.Proofs.YtmggoiabcboaiaaGreat
open Go.ChangeShapes Go.WideShapes Go.ChangeAt Go.RowKit
theorem free13 {W : World} {g : Nat} {cs : Array Value} {t : TypeId} (h : BK W g cs t) : W.frozen? ⟨g, 0, none⟩ = false ∧ W.frozen? ⟨g, 1, none⟩ = false ∧ W.frozen? ⟨g, 2, none⟩ = false ∧ W.frozen? ⟨g, 3, none⟩ = false ∧ W.frozen? ⟨g, 4, none⟩ = false ∧ W.frozen? ⟨g, 5, none⟩ = false ∧ W.frozen? ⟨g, 6, none⟩ = false ∧ W.frozen? ⟨g, 7, none⟩ = false ∧ W.frozen? ⟨g, 8, none⟩ = false ∧ W.frozen? ⟨g, 9, none⟩ = false ∧ W.frozen? ⟨g, 10, none⟩ = false ∧ W.frozen? ⟨g, 11, none⟩ = false ∧ W.frozen? ⟨g, 12, none⟩ = false := ⟨h.free 0, h.free 1, h.free 2, h.free 3, h.free 4, h.free 5, h.free 6, h.free 7, h.free 8, h.free 9, h.free 10, h.free 11, h.free 12⟩
theorem zero_line : ∀ w : World, (zeroValue 32).run Tryz.prog w = .ok (.agg #[.int .i64 0, .int .i64 0, .int .i64 0, .int .i64 0, .slice none 0 0, .int .i64 0, .slice none 0 0, .string ⟨#[]⟩, .bool false, .string ⟨#[]⟩, .bool false, .slice none 0 0, .slice none 0 0]) w := fun w => by kernel_rfl
def OL (w : World) (base : Nat) (vm : Value) (ms : List ByteArray) (vg : Value) (gs : List ByteArray) (vt : Value) (ts : List ByteArray) (vb : Value) (bs : List ByteArray) : Prop := OS w base vm ms ∧ OS w base vg gs ∧ OS w base vt ts ∧ OS w base vb bs
theorem OL.reads {w : World} {base : Nat} {vm vg vt vb : Value} {ms gs ts bs : List ByteArray} (h : OL w base vm ms vg gs vt ts vb bs) : RL w w.heap.size vm ms vg gs vt ts vb bs := ⟨h.1.reads, h.2.1.reads, h.2.2.1.reads, h.2.2.2.reads⟩
theorem OL.below {w w' : World} {base : Nat} {vm vg vt vb : Value} {ms gs ts bs : List ByteArray} (h : OL w base vm ms vg gs vt ts vb bs) (hb : Below w.heap.size w w') : OL w' base vm ms vg gs vt ts vb bs := ⟨h.1.below hb, h.2.1.below hb, h.2.2.1.below hb, h.2.2.2.below hb⟩
theorem line_ret {k : Nat} {f : Func} {a b d m nx : Int} {vm vg vt vb : Value} {T H : ByteArray} {to ho : Bool} {W : World} {g : Nat} {A : Act} {Q : Ending → World → Prop} (hf : f.results = #[.cell k 32]) (hq : BK W g #[.int .i64 a, .int .i64 b, .int .i64 d, .int .i64 m, vm, .int .i64 nx, vg, .string T, .bool to, .string H, .bool ho, vt, vb] 32)
  (hs : A.tmps.getD k undef = .pointer (some ⟨g, 0, none⟩)) (hd : A.defers = []) (hQ : Q (.returned (lnV a b d m vm nx vg T to H ho vt vb)) W) : bodyPost Tryz.prog f Q .ret A W := by
 obtain ⟨z0, z1, z2, z3, z4, z5, z6, z7, z8, z9, z10, z11, z12⟩ := cells13 hq
 have hs2 : A.tmps[k]?.getD undef = .pointer (some ⟨g, 0, none⟩) := by rw [← hs]; simp
 refine bodyPost_ret (v := lnV a b d m vm nx vg T to H ho vt vb) ?_ hd hQ
 simp [results, hf, go_sem, hs2, z0, z1, z2, z3, z4, z5, z6, z7, z8, z9, z10, z11, z12]
end Go.Proofs.YtmggoiabcboaiaaGreat
namespace Go.Proofs.YtmggoiabcboaiaaGreat
open Go.ChangeShapes Go.WideShapes Go.ChangeAt Go.RowKit
theorem array13 {cs : Array Value} (h : cs.size = 13) : ∃ c0 c1 c2 c3 c4 c5 c6 c7 c8 c9 c10 c11 c12, cs = #[c0, c1, c2, c3, c4, c5, c6, c7, c8, c9, c10, c11, c12] := by
 rcases cs with ⟨l⟩
 simp only [List.size_toArray] at h
 match l, h with
 | [c0, c1, c2, c3, c4, c5, c6, c7, c8, c9, c10, c11, c12], _ => exact ⟨c0, c1, c2, c3, c4, c5, c6, c7, c8, c9, c10, c11, c12, rfl⟩
section
variable {Hh : Type} {enc : TypeId × Value → Hh} {W : World}
end
end Go.Proofs.YtmggoiabcboaiaaGreat
namespace Go.Proofs.YtmggoiabcboaiaaGreat
open Go.ChangeShapes Go.WideShapes Go.ChangeAt Go.RowKit
theorem lnf_fd : Tryz.prog.underlying 30 = some (.struct (Tryz.prog.fieldsOf 30)) := by kernel_rfl
theorem lnh_fd : Tryz.prog.stoodInHeld 30 = false := by kernel_rfl
theorem lng_fd : Tryz.prog.eqGuardType Tryz.prog.depth 30 = false := by kernel_rfl
theorem lnFd_eq (d : Nat) (t : ByteArray) (o : Bool) (w : World) : (Op.equalIn (d + 2) 30 (fdV t o) (fdV t o)).run Tryz.prog w = .ok true w := by
 rw [run_equalIn_agg w (d + 1) _ _ _ lnf_fd lnh_fd]
 simp [go_sem, Tryz.underlying30]
theorem lnFd_eql (t : ByteArray) (o : Bool) (w : World) : (binOp .eql 30 (fdV t o) (fdV t o)).run Tryz.prog w = .ok (.bool true) w := by
 rw [run_eql_struct, lnFd_eq 9998]; rfl
theorem lnf_cf : Tryz.prog.underlying 24 = some (.struct (Tryz.prog.fieldsOf 24)) := by kernel_rfl
theorem lnh_cf : Tryz.prog.stoodInHeld 24 = false := by kernel_rfl
theorem lng_cf : Tryz.prog.eqGuardType Tryz.prog.depth 24 = false := by kernel_rfl
theorem lnCf_eq (k : Nat) (a b d m : Int) (w : World) : (Op.equalIn (k + 2) 24 (cfV a b d m) (cfV a b d m)).run Tryz.prog w = .ok true w := by
 rw [run_equalIn_agg w (k + 1) _ _ _ lnf_cf lnh_cf]
 simp [go_sem, Tryz.underlying24]
theorem lnCf_eql (a b d m : Int) (w : World) : (binOp .eql 24 (cfV a b d m) (cfV a b d m)).run Tryz.prog w = .ok (.bool true) w := by
 rw [run_eql_struct, lnCf_eq 9998]; rfl
set_option maxRecDepth 100000 in
set_option maxHeartbeats 1000000 in
theorem ctTexts_same (v v' : Value) (ss : List ByteArray) (w : World) (B B' : Nat) (h : RS w B v ss) (h' : RS w B' v' ss) (hB : B ≤ w.heap.size) (hB' : B' ≤ w.heap.size) (hl : ss.length ≤ 1048576) :
  Calls Tryz.prog 18 #[v, v'] w fun e w' => e = .returned (.bool true) ∧ Below w.heap.size w w' := by
 obtain ⟨a, cap, rfl⟩ := h.shape
 obtain ⟨a', cap', rfl⟩ := h'.shape
 have H := Lib.hid h
 have H' := Lib.hid h'
 clear h h'
 go_enter Tryz.func18, Tryz.ntmps18
 go_wp2
 go_loopw [5] (fun j wr => ∃ k : Nat, k ≤ ss.length ∧ j = .int .i64 k ∧ Below w.heap.size w wr) (fun j _ => ss.length - (intOf j).toNat)
 case atStart => exact ⟨0, Nat.zero_le _, rfl, Below.refl _ _⟩
 case round =>
  obtain ⟨k, hk, rfl, hb⟩ := hrel
  have HB := Lib.hid hb
  by_cases hlt : k < ss.length
  ·obtain ⟨x, rfl, _, c0⟩ := (H.out.below (hb.mono hB)).at_ hlt
   obtain ⟨x', rfl, _, c0'⟩ := (H'.out.below (hb.mono hB')).at_ hlt
   clear hb
   generalize ss[k] = t at *
   go_wp2_with fail
   go_region
   all_goals
    go_wp2
    go_roundw
    case rel => exact ⟨k + 1, by omega, by go_num, HB.out.drew⟩
    case measure => simp [intOf]; omega
  ·go_wp2
   go_ret
   exact ⟨rfl, HB.out⟩
set_option maxRecDepth 100000 in
set_option maxHeartbeats 4000000 in
theorem ctLine_same (a b d m : Int) (vm : Value) (ms : List ByteArray) (nx : Int) (vg : Value) (gs : List ByteArray) (T : ByteArray) (to : Bool) (H : ByteArray) (ho : Bool) (vt : Value) (ts : List ByteArray) (vb : Value) (bs : List ByteArray) (vm' vg' vt' vb' : Value) (w : World) (B B' : Nat) (h : RL w B vm ms vg gs vt ts vb bs) (h' : RL w B' vm' ms vg' gs vt' ts vb' bs) (hB : B ≤ w.heap.size) (hB' : B' ≤ w.heap.size)
  (hm : ms.length ≤ 1048576) (hg : gs.length ≤ 1048576) (ht : ts.length ≤ 1048576) (hb : bs.length ≤ 1048576) :
  Calls Tryz.prog 11 #[lnV a b d m vm nx vg T to H ho vt vb, lnV a b d m vm' nx vg' T to H ho vt' vb'] w fun e w' => e = .returned (.bool true) ∧ Below w.heap.size w w' := by
 have HB := Lib.hid (((Below.refl _ w).alloc (Nat.le_refl _) (.cells #[.int .i64 a, .int .i64 b, .int .i64 d, .int .i64 m, vm, .int .i64 nx, vg, .string T, .bool to, .string H, .bool ho, vt, vb] 32)).alloc (by simp) (.cells #[.int .i64 a, .int .i64 b, .int .i64 d, .int .i64 m, vm', .int .i64 nx, vg', .string T, .bool to, .string H, .bool ho, vt', vb'] 32))
 have hk := (BK.new w #[.int .i64 a, .int .i64 b, .int .i64 d, .int .i64 m, vm, .int .i64 nx, vg, .string T, .bool to, .string H, .bool ho, vt, vb] 32).alloc (.cells #[.int .i64 a, .int .i64 b, .int .i64 d, .int .i64 m, vm', .int .i64 nx, vg', .string T, .bool to, .string H, .bool ho, vt', vb'] 32)
 have hj := BK.new (w.alloc (.cells #[.int .i64 a, .int .i64 b, .int .i64 d, .int .i64 m, vm, .int .i64 nx, vg, .string T, .bool to, .string H, .bool ho, vt, vb] 32)) #[.int .i64 a, .int .i64 b, .int .i64 d, .int .i64 m, vm', .int .i64 nx, vg', .string T, .bool to, .string H, .bool ho, vt', vb'] 32
 rw [World.size_alloc] at hj
 obtain ⟨c0, c1, c2, c3, c4, c5, c6, c7, c8, c9, c10, c11, c12⟩ := cells13 hk
 obtain ⟨e0, e1, e2, e3, e4, e5, e6, e7, e8, e9, e10, e11, e12⟩ := cells13 hj
 have HR := Lib.hid (h.below (((Below.refl B w).alloc hB (.cells #[.int .i64 a, .int .i64 b, .int .i64 d, .int .i64 m, vm, .int .i64 nx, vg, .string T, .bool to, .string H, .bool ho, vt, vb] 32)).alloc (by simp; omega) (.cells #[.int .i64 a, .int .i64 b, .int .i64 d, .int .i64 m, vm', .int .i64 nx, vg', .string T, .bool to, .string H, .bool ho, vt', vb'] 32)))
 have HR' := Lib.hid (h'.below (((Below.refl B' w).alloc hB' (.cells #[.int .i64 a, .int .i64 b, .int .i64 d, .int .i64 m, vm, .int .i64 nx, vg, .string T, .bool to, .string H, .bool ho, vt, vb] 32)).alloc (by simp; omega) (.cells #[.int .i64 a, .int .i64 b, .int .i64 d, .int .i64 m, vm', .int .i64 nx, vg', .string T, .bool to, .string H, .bool ho, vt', vb'] 32)))
 have HK := Lib.hid hk
 have HJ := Lib.hid hj
 have HW := Lib.hid (show w.heap.size ≤ ((w.alloc (.cells #[.int .i64 a, .int .i64 b, .int .i64 d, .int .i64 m, vm, .int .i64 nx, vg, .string T, .bool to, .string H, .bool ho, vt, vb] 32)).alloc (.cells #[.int .i64 a, .int .i64 b, .int .i64 d, .int .i64 m, vm', .int .i64 nx, vg', .string T, .bool to, .string H, .bool ho, vt', vb'] 32)).heap.size by simp; omega)
 have q1 := lnCf_eql a b d m
 have q2 := lnFd_eql T to
 have q3 := lnFd_eql H ho
 have q4 := lng_fd
 have q5 := lng_cf
 have q6 := lnCf_eq 9998 a b d m
 have q7 := lnFd_eq 9998 T to
 have q8 := lnFd_eq 9998 H ho
 clear h h' hk hj
 go_enter Tryz.func11, Tryz.ntmps11
 go_wp2_with fail
 refine (ctTexts_same vm vm' ms _ B B' HR.out.1 HR'.out.1 (Nat.le_trans hB HW.out) (Nat.le_trans hB' HW.out) hm).mono ?_
 rintro e x2 ⟨rfl, hbx⟩
 have hk := HK.out.from hbx
 have hj := HJ.out.from hbx
 obtain ⟨c0, c1, c2, c3, c4, c5, c6, c7, c8, c9, c10, c11, c12⟩ := cells13 hk
 obtain ⟨e0, e1, e2, e3, e4, e5, e6, e7, e8, e9, e10, e11, e12⟩ := cells13 hj
 have HR := Lib.hid (HR.out.below (hbx.mono (Nat.le_trans hB HW.out)))
 have HR' := Lib.hid (HR'.out.below (hbx.mono (Nat.le_trans hB' HW.out)))
 have HW := Lib.hid (Nat.le_trans HW.out hbx.size)
 have HB := Lib.hid (HB.out.trans (hbx.mono HB.out.size))
 have HK := Lib.hid hk
 have HJ := Lib.hid hj
 clear hk hj hbx
 go_wp2_with fail
 refine (ctTexts_same vg vg' gs _ B B' HR.out.2.1 HR'.out.2.1 (Nat.le_trans hB HW.out) (Nat.le_trans hB' HW.out) hg).mono ?_
 rintro e x3 ⟨rfl, hbx⟩
 have hk := HK.out.from hbx
 have hj := HJ.out.from hbx
 obtain ⟨c0, c1, c2, c3, c4, c5, c6, c7, c8, c9, c10, c11, c12⟩ := cells13 hk
 obtain ⟨e0, e1, e2, e3, e4, e5, e6, e7, e8, e9, e10, e11, e12⟩ := cells13 hj
 have HR := Lib.hid (HR.out.below (hbx.mono (Nat.le_trans hB HW.out)))
 have HR' := Lib.hid (HR'.out.below (hbx.mono (Nat.le_trans hB' HW.out)))
 have HW := Lib.hid (Nat.le_trans HW.out hbx.size)
 have HB := Lib.hid (HB.out.trans (hbx.mono HB.out.size))
 have HK := Lib.hid hk
 have HJ := Lib.hid hj
 clear hk hj hbx
 go_wp2_with fail
 refine (ctTexts_same vt vt' ts _ B B' HR.out.2.2.1 HR'.out.2.2.1 (Nat.le_trans hB HW.out) (Nat.le_trans hB' HW.out) ht).mono ?_
 rintro e x6 ⟨rfl, hbx⟩
 have hk := HK.out.from hbx
 have hj := HJ.out.from hbx
 obtain ⟨c0, c1, c2, c3, c4, c5, c6, c7, c8, c9, c10, c11, c12⟩ := cells13 hk
 obtain ⟨e0, e1, e2, e3, e4, e5, e6, e7, e8, e9, e10, e11, e12⟩ := cells13 hj
 have HR := Lib.hid (HR.out.below (hbx.mono (Nat.le_trans hB HW.out)))
 have HR' := Lib.hid (HR'.out.below (hbx.mono (Nat.le_trans hB' HW.out)))
 have HW := Lib.hid (Nat.le_trans HW.out hbx.size)
 have HB := Lib.hid (HB.out.trans (hbx.mono HB.out.size))
 have HK := Lib.hid hk
 have HJ := Lib.hid hj
 clear hk hj hbx
 go_wp2_with fail
 refine (ctTexts_same vb vb' bs _ B B' HR.out.2.2.2 HR'.out.2.2.2 (Nat.le_trans hB HW.out) (Nat.le_trans hB' HW.out) hb).mono ?_
 rintro e x7 ⟨rfl, hbx⟩
 have hk := HK.out.from hbx
 have hj := HJ.out.from hbx
 obtain ⟨c0, c1, c2, c3, c4, c5, c6, c7, c8, c9, c10, c11, c12⟩ := cells13 hk
 obtain ⟨e0, e1, e2, e3, e4, e5, e6, e7, e8, e9, e10, e11, e12⟩ := cells13 hj
 have HR := Lib.hid (HR.out.below (hbx.mono (Nat.le_trans hB HW.out)))
 have HR' := Lib.hid (HR'.out.below (hbx.mono (Nat.le_trans hB' HW.out)))
 have HW := Lib.hid (Nat.le_trans HW.out hbx.size)
 have HB := Lib.hid (HB.out.trans (hbx.mono HB.out.size))
 have HK := Lib.hid hk
 have HJ := Lib.hid hj
 clear hk hj hbx
 go_wp2
 go_ret
 exact ⟨rfl, HB.out⟩
end Go.Proofs.YtmggoiabcboaiaaGreat
namespace Go.Proofs.YtmggoiabcboaiaaGreat
open Go.ChangeShapes Go.WideShapes Go.ChangeAt Go.RowKit
theorem RE.at_ {w : World} {lo B : Nat} {l : List Ev} {a : Option Addr} {cap : Nat} (h : RE w lo B (.slice a l.length cap) l) {k : Nat} (hk : k < l.length) :
  ∃ g, a = some ⟨g, 0, none⟩ ∧ lo ≤ g ∧ g < B ∧ w.cell? ⟨g, k * 2, none⟩ = some (.int .i64 l[k].kind) ∧ w.cell? ⟨g, k * 2 + 1, none⟩ = some (.string ⟨l[k].text.toArray⟩) := by
 obtain ⟨a', cap', hv, h2⟩ := h
 injection hv with hv1 hv2 hv3
 subst hv1
 obtain ⟨x, hx, hl, hB, hc⟩ := h2 (by omega)
 obtain ⟨e1, e2⟩ := evCs_at l k hk
 rw [Nat.mul_comm] at e1 e2
 exact ⟨x, hx, hl, hB, hc _ _ e1, hc _ _ e2⟩
theorem RE.shape {w : World} {lo B : Nat} {v : Value} {l : List Ev} (h : RE w lo B v l) : ∃ a cap, v = .slice a l.length cap := by
 obtain ⟨a, cap, hv, _⟩ := h
 exact ⟨a, cap, hv⟩
theorem own_below {w w' : World} {base : Nat} {e : TypeId} {size n : Nat} {v : Value} {xs : List Value} (h : w.ownsRow base e size v n xs) (hb : Below w.heap.size w w') : w'.ownsRow base e size v n xs :=
 h.kept (row := none) ⟨hb.os, hb.tape, hb.output, hb.size, fun g hg _ => hb.block g hg⟩ (by cases v.ownBlock <;> simp)
end Go.Proofs.YtmggoiabcboaiaaGreat
namespace Go.Proofs.YtmggoiabcboaiaaGreat
open Go.ChangeShapes Go.WideShapes Go.ChangeAt Go.RowKit
def CopiedPost (w : World) (ss : List ByteArray) (e : Ending) (w' : World) : Prop := (∃ v, e = .returned v ∧ OS w' w.heap.size v ss) ∧ Below w.heap.size w w'
set_option maxRecDepth 100000 in
set_option maxHeartbeats 2000000 in
theorem copied_any (v : Value) (ss : List ByteArray) (w : World) (B : Nat) (h : RS w B v ss) (hB : B ≤ w.heap.size) (hl : ss.length ≤ 1048576) (hz : ∀ s ∈ ss, s.size ≤ 1048576) :
  Calls Tryz.prog 46 #[v] w (CopiedPost w ss) := by
 obtain ⟨i0, hi, hz0, hz1, hz2⟩ := info_parts info_str
 have HI := Lib.hid hi
 have HZ0 := Lib.hid hz0
 have HZ1 := Lib.hid hz1
 have HZ2 := Lib.hid hz2
 obtain ⟨a, cap, rfl⟩ := h.shape
 have H := Lib.hid h
 have HZ := Lib.hid hz
 clear h hz hi hz0 hz1 hz2
 go_enter Tryz.func46, Tryz.ntmps46
 go_wp2
 go_loopw [3, 8] (fun u j wr => ∃ k : Nat, k ≤ ss.length ∧ j = .int .i64 k ∧ OS wr w.heap.size u (ss.take k) ∧ Below w.heap.size w wr) (fun _ j _ => ss.length - (intOf j).toNat)
 case atStart => exact ⟨0, Nat.zero_le _, rfl, OS_nil _ _, Below.refl _ _⟩
 case round =>
  obtain ⟨k, hk, rfl, hown, hb⟩ := hrel
  have HB := Lib.hid hb
  have HO := Lib.hid hown
  by_cases hlt : k < ss.length
  ·obtain ⟨x, rfl, hxB, c0⟩ := (H.out.below (hb.mono hB)).at_ hlt
   have hsz := HZ.out ss[k] (List.getElem_mem _)
   have HS := Lib.hid (show ss.take (k + 1) = ss.take k ++ [ss[k]] from List.take_succ_eq_append_getElem hlt)
   have HTL := Lib.hid (show (ss.take k).length ≤ k from List.length_take_le _ _)
   generalize ss[k] = t at *
   clear hown hb
   go_wp2_with fail
   refine (clone_any t _ (by omega)).mono ?_
   rintro e w2 ⟨rfl, hb2⟩
   have HB2 := Lib.hid (HB.out.trans (hb2.mono HB.out.size))
   have HO2 := Lib.hid (HO.out.below hb2)
   clear hb2
   go_wp2_with (at_builtin; refine wpList_append_os _ rfl _ _ 25 rfl w.heap.size i0 Tryz.underlying25 HI.out HZ0.out HZ1.out HZ2.out _ _ rfl (HO2.out.alloc _) _ _ [t] rfl (RS_one w2 t) (by have := HTL.out; simp only [List.length_singleton]; omega) (by have := HB2.out.size; simp; omega) ?_; intro v3 w3 hown3 hg3 _)
   go_roundw
   case rel => exact ⟨k + 1, by omega, by go_num, by rw [HS.out]; exact hown3, (HB2.out.alloc HB2.out.size _).grown hg3 (by have := HB2.out.size; simp; omega) (fun j hj => (HO2.out.low j hj).1)⟩
   case measure => simp [intOf]; omega
  ·have HE := Lib.hid (show ss.take k = ss from List.take_of_length_le (by omega))
   clear hown hb
   go_wp2
   go_ret
   exact ⟨⟨_, rfl, by have := HO.out; rw [HE.out] at this; exact this⟩, HB.out⟩
theorem opwp_append_os {P : Program} {w : World} {o : Oper} {a : Act} {K : Act → World → Prop} {Q : Exit → Act → World → Prop} (s x : Operand) (t : TypeId)
  (ho : o.op = .call { callee := .builtin .append, args := #[s, x], argTypes := #[t, t] })
  (base : Nat) (i : TypeInfo) (ht : P.underlying t = some (.slice 9)) (hi : P.info? 9 = some i) (hz : i.zero = some (.string ⟨#[]⟩))
  (hsize : i.size = 1) (hby : i.bytes = 16) (v : Value) (l : List ByteArray) (hs : a.eval s = v) (hown : OS w base v l)
  (B : Nat) (v2 : Value) (news : List ByteArray) (hx : a.eval x = v2) (hr : RS w B v2 news) (hlen : l.length + news.length ≤ 1000000000000) (hbase : base ≤ w.heap.size)
  (h : ∀ v' w', OS w' base v' (l ++ news) → w.grownBy w' v.ownBlock → K (a.put o.dst v') w') : Oper.wp P o a w K Q := by
 obtain ⟨v', w', hr, h2, h3, h4⟩ := run_append_os (P := P) w base t o.type i ht hi hz hsize hby v l hown B v2 news hr hlen hbase
 unfold Oper.wp execOp
 simp only [ho, resolve, invoke, builtin, Sem.run_bind, Sem.run_pure, Result.andThen_ok, List.map_toArray, List.map_cons, List.map_nil, hs, hx, hr]
 exact h v' w' h2 h3
end Go.Proofs.YtmggoiabcboaiaaGreat
namespace Go.Proofs.YtmggoiabcboaiaaGreat
open Go.ChangeShapes Go.WideShapes Go.ChangeAt Go.RowKit
def apartV (v u : Value) : Prop := v.ownBlock = none ∨ v.ownBlock ≠ u.ownBlock
def Ap4 (vm vg vt vb : Value) : Prop := (apartV vm vg ∧ apartV vm vt ∧ apartV vm vb) ∧ (apartV vg vm ∧ apartV vg vt ∧ apartV vg vb) ∧ (apartV vt vm ∧ apartV vt vg ∧ apartV vt vb) ∧ (apartV vb vm ∧ apartV vb vg ∧ apartV vb vt)
theorem apart_nil (u : Value) : apartV (.slice none 0 0) u := .inl rfl
def FromB (base : Nat) (w w' : World) : Prop := ∀ B, B ≤ base → B ≤ w.heap.size → Below B w w'
theorem FromB.refl (base : Nat) (w : World) : FromB base w w := fun _ _ _ => Below.refl _ _
theorem FromB.below {base : Nat} {w w' w'' : World} (h : FromB base w w') (hb : Below w'.heap.size w' w'') (hs : w.heap.size ≤ w'.heap.size) : FromB base w w'' := fun B hB hw => (h B hB hw).trans (hb.mono (Nat.le_trans hw hs))
theorem BK.os {w w' : World} {base g : Nat} {cs : Array Value} {t : TypeId} {v : Value} {ss : List ByteArray} (h : BK w g cs t) (ht : t ≠ 9) (ho : OS w base v ss) (hg : w.grownBy w' v.ownBlock) : BK w' g cs t := by
 refine h.grown hg (fun e => ?_)
 rcases ho.2 with ⟨rfl, _⟩ | ⟨g', cap', cur', rfl, _, hg', _⟩
 ·simp [Value.ownBlock] at e
 ·simp [Value.ownBlock] at e
  subst e
  unfold BK at h
  rw [hg'] at h
  injection h with h
  injection h with _ h2 _
  exact ht h2.symm
theorem OS.under {w w' : World} {base B : Nat} {v : Value} {ss : List ByteArray} (h : OS w base v ss) (hlt : ∀ k, v.ownBlock = some k → k < B) (hb : Below B w w') : OS w' base v ss := by
 obtain ⟨h1, h2⟩ := h
 refine ⟨h1, ?_⟩
 rcases h2 with h2 | ⟨g, cap, cur, rfl, hb', hgg, rest⟩
 ·exact .inl h2
 ·refine .inr ⟨g, cap, cur, rfl, hb', ?_, rest⟩
  rw [hb.block g (hlt g (by simp [Value.ownBlock]))]
  exact hgg
theorem apart_of {w : World} {B : Nat} {v u : Value} {us : List ByteArray} (hv : ∀ k, v.ownBlock = some k → k < B) (hu : OS w B u us) : apartV v u ∧ apartV u v := by
 constructor
 ·unfold apartV
  cases h : v.ownBlock with
  | none => exact .inl rfl
  | some k => exact .inr (fun e => by have h1 := (hu.low k e.symm).1; have h2 := hv k h; omega)
 ·unfold apartV
  cases h : u.ownBlock with
  | none => exact .inl rfl
  | some k => exact .inr (fun e => by have h1 := (hu.low k h).1; have h2 := hv k e.symm; omega)
end Go.Proofs.YtmggoiabcboaiaaGreat
