/- Slips written, in the program and in the model. -/
import Derived.Test.YthbijeicdjpbeaaKitA
import Derived.Test.YthbijeicdjpbeaaKitBits
import Derived.Test.YthbijeicdjpbeaaSlpA
namespace Go.Proofs.Ythbijeicdjpbeaa
open Go.ChangeShapes Go.WideShapes Go.ChangeAt Go.RowKit
theorem sl_two (w : World) (e : TypeId) (b c : UInt8) {v v2 : Value} (hv : byteV b = v) (hv2 : byteV c = v2) : ∀ j u, ([b, c].map byteV)[j]? = some u → (w.alloc (.cells #[v, v2] e)).cell? ((⟨w.heap.size, 0, none⟩ : Addr).add j) = some u := by
  intro j u hu
  match j, hu with
  | 0, hu => simp at hu; subst hu; simp [Addr.add, hv]
  | 1, hu => simp at hu; subst hu; simp [Addr.add, hv2]
set_option maxRecDepth 100000 in
set_option maxHeartbeats 4000000 in
theorem implSlipPut_any (s : ByteArray) (w : World) :
    Calls Try.prog 12 #[.string s] w fun e w' => e = .returned (.string ⟨(putS s.data.toList).toArray⟩) ∧ Below w.heap.size w w' := by
  have HSL := Lib.hid (size_list s)
  by_cases hbig : 600 < s.size
  · have HE := Lib.hid (show putS s.data.toList = [] by unfold putS; rw [if_pos (by rw [HSL.out]; exact hbig)])
    go_enter Try.func12, Try.ntmps12
    go_wp2
    go_ret
    exact ⟨by rw [HE.out]; rfl, Below.refl _ _⟩
  have HPE := Lib.hid (show putS s.data.toList = slipL s.data.toList ++ [192] by unfold putS; rw [if_neg (by rw [HSL.out]; exact hbig)])
  obtain ⟨i0, hi, hz0, hz1, hz2⟩ := info_parts info_u8
  have HI := Lib.hid hi
  have HZ0 := Lib.hid hz0
  have HZ1 := Lib.hid hz1
  have HZ2 := Lib.hid hz2
  clear hi hz0 hz1 hz2
  go_enter Try.func12, Try.ntmps12
  go_wp2
  go_loopw [3, 10] (fun v i wr => ∃ k : Nat, k ≤ s.size ∧ i = .int .i64 k ∧ OB 5 wr w.heap.size v (slipL (s.data.toList.take k)) ∧ Below w.heap.size w wr) (fun _ i _ => s.size - (intOf i).toNat)
  case atStart => exact ⟨0, by omega, rfl, OB.nil _ _ _, Below.refl _ _⟩
  case round =>
    obtain ⟨k, hk, rfl, hown, hb⟩ := hrel
    have HO := Lib.hid hown
    have HB := Lib.hid hb
    clear hown hb
    have hl2 : (slipL (s.data.toList.take k)).length ≤ 2 * k := by
      have := (slipL_len (s.data.toList.take k)).2; have := List.length_take_le k s.data.toList; omega
    by_cases hlt : k < s.size
    · have HS := Lib.hid (show slipL (s.data.toList.take (k + 1)) = slipL (s.data.toList.take k) ++ sl1 s[k] by rw [snoc_take s k hlt, slipL_snoc])
      have hb8 := UInt8.toNat_lt s[k]
      by_cases h192 : s[k].toNat = 192
      · have HV := Lib.hid (show sl1 s[k] = [219, 220] by rw [show s[k] = 192 from UInt8.toNat_inj.1 h192]; rfl)
        go_wp2_with (at_builtin; refine wpList_append_OB _ rfl _ _ 22 rfl w.heap.size 5 i0 Try.underlying22 HI.out HZ0.out HZ1.out HZ2.out _ _ rfl (HO.out.alloc _) ⟨wr.heap.size, 0, none⟩ 2 2 [219, 220] rfl rfl (sl_two wr 5 219 220 rfl rfl) (by simp; omega) (by have := HB.out.size; simp; omega) ?_; intro v2 w2 hown2 hg2)
        go_roundw
        case rel =>
          refine ⟨k + 1, by omega, by go_num, ?_, (HB.out.alloc HB.out.size _).grown hg2 (by have := HB.out.size; simp; omega) (fun k hk => (HO.out.lt k hk).1)⟩
          rw [HS.out, HV.out]
          exact hown2
        case measure => simp [intOf]; omega
      have hn192 : ((s[k].toNat : Int) == 192) = false := beq_eq_false_iff_ne.2 (by omega)
      by_cases h219 : s[k].toNat = 219
      · have HV := Lib.hid (show sl1 s[k] = [219, 221] by rw [show s[k] = 219 from UInt8.toNat_inj.1 h219]; rfl)
        clear h192 hn192
        go_wp2_with (at_builtin; refine wpList_append_OB _ rfl _ _ 22 rfl w.heap.size 5 i0 Try.underlying22 HI.out HZ0.out HZ1.out HZ2.out _ _ rfl (HO.out.alloc _) ⟨wr.heap.size, 0, none⟩ 2 2 [219, 221] rfl rfl (sl_two wr 5 219 221 rfl rfl) (by simp; omega) (by have := HB.out.size; simp; omega) ?_; intro v2 w2 hown2 hg2)
        go_roundw
        case rel =>
          refine ⟨k + 1, by omega, by go_num, ?_, (HB.out.alloc HB.out.size _).grown hg2 (by have := HB.out.size; simp; omega) (fun k hk => (HO.out.lt k hk).1)⟩
          rw [HS.out, HV.out]
          exact hown2
        case measure => simp [intOf]; omega
      have hn219 : ((s[k].toNat : Int) == 219) = false := beq_eq_false_iff_ne.2 (by omega)
      have HV := Lib.hid (show sl1 s[k] = [s[k]] by unfold sl1; rw [if_neg (fun e => h192 (by rw [e]; rfl)), if_neg (fun e => h219 (by rw [e]; rfl))])
      clear h192 h219
      go_wp2_with (at_builtin; refine wpList_append_OB _ rfl _ _ 22 rfl w.heap.size 5 i0 Try.underlying22 HI.out HZ0.out HZ1.out HZ2.out _ _ rfl (HO.out.alloc _) ⟨wr.heap.size, 0, none⟩ 1 1 [s[k]] rfl rfl (one_new wr _ _ _ rfl) (by simp; omega) (by have := HB.out.size; simp; omega) ?_; intro v2 w2 hown2 hg2)
      go_roundw
      case rel =>
        refine ⟨k + 1, by omega, by go_num, ?_, (HB.out.alloc HB.out.size _).grown hg2 (by have := HB.out.size; simp; omega) (fun k hk => (HO.out.lt k hk).1)⟩
        rw [HS.out, HV.out]
        exact hown2
      case measure => simp [intOf]; omega
    · have HE := Lib.hid (take_all s k (by omega))
      go_wp2_with (first | (at_builtin; refine wpList_append_OB _ rfl _ _ 22 rfl w.heap.size 5 i0 Try.underlying22 HI.out HZ0.out HZ1.out HZ2.out _ _ rfl (HO.out.alloc _) ⟨wr.heap.size, 0, none⟩ 1 1 [192] rfl rfl (one_new wr _ 192 _ rfl) (by simp; omega) (by have := HB.out.size; simp; omega) ?_; intro v2 w2 hown2 hg2) | (refine wpList_string_of_OB _ rfl 22 9 5 _ rfl w.heap.size _ _ rfl Try.underlying22 Try.underlying5 Try.underlying9 hown2 ?_))
      go_ret
      exact ⟨by rw [HPE.out, HE.out]; rfl, (HB.out.alloc HB.out.size _).grown hg2 (by have := HB.out.size; simp; omega) (fun k hk => (HO.out.lt k hk).1)⟩
set_option maxRecDepth 100000 in
set_option maxHeartbeats 4000000 in
theorem l10Slip_any (s : ByteArray) (w : World) (hs : s.size ≤ 100000000) :
    Calls Try.prog 25 #[.string s] w fun e w' => e = .returned (.string ⟨(slipL s.data.toList ++ [192]).toArray⟩) ∧ Below w.heap.size w w' := by
  obtain ⟨i0, hi, hz0, hz1, hz2⟩ := info_parts info_u8
  have HI := Lib.hid hi
  have HZ0 := Lib.hid hz0
  have HZ1 := Lib.hid hz1
  have HZ2 := Lib.hid hz2
  clear hi hz0 hz1 hz2
  go_enter Try.func25, Try.ntmps25
  go_wp2
  go_loopw [3, 4] (fun v i wr => ∃ k : Nat, k ≤ s.size ∧ i = .int .i64 k ∧ OB 5 wr w.heap.size v (slipL (s.data.toList.take k)) ∧ Below w.heap.size w wr) (fun _ i _ => s.size - (intOf i).toNat)
  case atStart => exact ⟨0, by omega, rfl, .inr ⟨w.heap.size, 0, #[], (0, 0), rfl, Nat.le_refl _, heap_alloc_new w _, .inl rfl, Nat.le_refl _, by simp [maxLen], rfl, rfl⟩, (Below.refl _ _).alloc (Nat.le_refl _) _⟩
  case round =>
    obtain ⟨k, hk, rfl, hown, hb⟩ := hrel
    have HO := Lib.hid hown
    have HB := Lib.hid hb
    clear hown hb
    have hl2 : (slipL (s.data.toList.take k)).length ≤ 2 * k := by
      have := (slipL_len (s.data.toList.take k)).2; have := List.length_take_le k s.data.toList; omega
    by_cases hlt : k < s.size
    · have HS := Lib.hid (show slipL (s.data.toList.take (k + 1)) = slipL (s.data.toList.take k) ++ sl1 s[k] by rw [snoc_take s k hlt, slipL_snoc])
      have hb8 := UInt8.toNat_lt s[k]
      by_cases h192 : s[k].toNat = 192
      · have HV := Lib.hid (show sl1 s[k] = [219, 220] by rw [show s[k] = 192 from UInt8.toNat_inj.1 h192]; rfl)
        go_wp2_with (at_builtin; refine wpList_append_OB _ rfl _ _ 22 rfl w.heap.size 5 i0 Try.underlying22 HI.out HZ0.out HZ1.out HZ2.out _ _ rfl (HO.out.alloc _) ⟨wr.heap.size, 0, none⟩ 2 2 [219, 220] rfl rfl (sl_two wr 5 219 220 rfl rfl) (by simp; omega) (by have := HB.out.size; simp; omega) ?_; intro v2 w2 hown2 hg2)
        go_roundw
        case rel =>
          refine ⟨k + 1, by omega, by go_num, ?_, (HB.out.alloc HB.out.size _).grown hg2 (by have := HB.out.size; simp; omega) (fun k hk => (HO.out.lt k hk).1)⟩
          rw [HS.out, HV.out]
          exact hown2
        case measure => simp [intOf]; omega
      have hn192 : ((s[k].toNat : Int) == 192) = false := beq_eq_false_iff_ne.2 (by omega)
      by_cases h219 : s[k].toNat = 219
      · have HV := Lib.hid (show sl1 s[k] = [219, 221] by rw [show s[k] = 219 from UInt8.toNat_inj.1 h219]; rfl)
        clear h192 hn192
        go_wp2_with (at_builtin; refine wpList_append_OB _ rfl _ _ 22 rfl w.heap.size 5 i0 Try.underlying22 HI.out HZ0.out HZ1.out HZ2.out _ _ rfl (HO.out.alloc _) ⟨wr.heap.size, 0, none⟩ 2 2 [219, 221] rfl rfl (sl_two wr 5 219 221 rfl rfl) (by simp; omega) (by have := HB.out.size; simp; omega) ?_; intro v2 w2 hown2 hg2)
        go_roundw
        case rel =>
          refine ⟨k + 1, by omega, by go_num, ?_, (HB.out.alloc HB.out.size _).grown hg2 (by have := HB.out.size; simp; omega) (fun k hk => (HO.out.lt k hk).1)⟩
          rw [HS.out, HV.out]
          exact hown2
        case measure => simp [intOf]; omega
      have hn219 : ((s[k].toNat : Int) == 219) = false := beq_eq_false_iff_ne.2 (by omega)
      have HV := Lib.hid (show sl1 s[k] = [s[k]] by unfold sl1; rw [if_neg (fun e => h192 (by rw [e]; rfl)), if_neg (fun e => h219 (by rw [e]; rfl))])
      clear h192 h219
      go_wp2_with (at_builtin; refine wpList_append_OB _ rfl _ _ 22 rfl w.heap.size 5 i0 Try.underlying22 HI.out HZ0.out HZ1.out HZ2.out _ _ rfl (HO.out.alloc _) ⟨wr.heap.size, 0, none⟩ 1 1 [s[k]] rfl rfl (one_new wr _ _ _ rfl) (by simp; omega) (by have := HB.out.size; simp; omega) ?_; intro v2 w2 hown2 hg2)
      go_roundw
      case rel =>
        refine ⟨k + 1, by omega, by go_num, ?_, (HB.out.alloc HB.out.size _).grown hg2 (by have := HB.out.size; simp; omega) (fun k hk => (HO.out.lt k hk).1)⟩
        rw [HS.out, HV.out]
        exact hown2
      case measure => simp [intOf]; omega
    · have HE := Lib.hid (take_all s k (by omega))
      go_wp2_with (first | (at_builtin; refine wpList_append_OB _ rfl _ _ 22 rfl w.heap.size 5 i0 Try.underlying22 HI.out HZ0.out HZ1.out HZ2.out _ _ rfl (HO.out.alloc _) ⟨wr.heap.size, 0, none⟩ 1 1 [192] rfl rfl (one_new wr _ 192 _ rfl) (by simp; omega) (by have := HB.out.size; simp; omega) ?_; intro v2 w2 hown2 hg2) | (refine wpList_string_of_OB _ rfl 22 9 5 _ rfl w.heap.size _ _ rfl Try.underlying22 Try.underlying5 Try.underlying9 hown2 ?_))
      go_ret
      exact ⟨by rw [HE.out]; rfl, (HB.out.alloc HB.out.size _).grown hg2 (by have := HB.out.size; simp; omega) (fun k hk => (HO.out.lt k hk).1)⟩
theorem specSlipPut_any (s : ByteArray) (w : World) :
    Calls Try.prog 13 #[.string s] w fun e w' => e = .returned (.string ⟨(putS s.data.toList).toArray⟩) ∧ Below w.heap.size w w' := by
  have HSL := Lib.hid (size_list s)
  by_cases hbig : 600 < s.size
  · have HE := Lib.hid (show putS s.data.toList = [] by unfold putS; rw [if_pos (by rw [HSL.out]; exact hbig)])
    go_enter Try.func13, Try.ntmps13
    go_wp2
    go_ret
    exact ⟨by rw [HE.out]; rfl, Below.refl _ _⟩
  have HPE := Lib.hid (show putS s.data.toList = slipL s.data.toList ++ [192] by unfold putS; rw [if_neg (by rw [HSL.out]; exact hbig)])
  go_enter Try.func13, Try.ntmps13
  go_wp2_with fail
  refine (l10Slip_any s _ (by omega)).mono ?_
  rintro e w1 ⟨rfl, hb⟩
  have HB := Lib.hid hb
  clear hb
  rw [← HPE.out]
  go_wp2
  go_ret
  exact ⟨rfl, HB.out⟩
end Go.Proofs.Ythbijeicdjpbeaa
