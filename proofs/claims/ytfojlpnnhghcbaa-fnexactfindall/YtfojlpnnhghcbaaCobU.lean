/- LessGet of the model. -/
import Derived.Test.YtfojlpnnhghcbaaCobT
namespace Go.Proofs.Ytfojlpnnhghcbaa
open Go.ChangeShapes Go.WideShapes Go.ChangeAt Go.RowKit
theorem okG_of {t : List UInt8} (h1 : t.length ≠ 0) (h2 : t.length ≤ 605) (h3 : nzL t) : okG t = true := by
  simp only [okG, Bool.and_eq_true, decide_eq_true_eq, Bool.not_eq_true']
  refine ⟨h1, h2, ?_⟩
  cases hc : t.contains 0 with
  | false => rfl
  | true => exact absurd rfl (h3 0 (by simpa using hc))
set_option maxRecDepth 100000 in
set_option maxHeartbeats 8000000 in
theorem l6More_any (t : ByteArray) (w : World) (hs : t.size ≤ 605) :
    Calls Try.prog 90 #[.string t] w fun e w' => e = .returned (.tuple #[.string ⟨(lgetA t.data.toList).1.toArray⟩, .bool (lgetA t.data.toList).2]) ∧ Below w.heap.size w w' := by
  obtain ⟨i0, hi, hz0, hz1, hz2⟩ := info_parts info_u8
  have HI := Lib.hid hi
  have HZ0 := Lib.hid hz0
  have HZ1 := Lib.hid hz1
  have HZ2 := Lib.hid hz2
  have HSL := Lib.hid (size_list t)
  clear hi hz0 hz1 hz2
  go_enter Try.func90, Try.ntmps90
  go_wp2
  go_loopw [4, 5, 6, 7, 8] (fun v i _ _ _ wr => ∃ (k : Nat) (out : List UInt8), k ≤ t.size ∧ i = .int .i64 k ∧ out.length ≤ k ∧ nzL (t.data.toList.take k) ∧ out ++ txt (t.data.toList.drop k) = txt t.data.toList ∧ (rdB (t.data.toList.drop k)).2 = (rdB t.data.toList).2 ∧ OB 5 wr w.heap.size v out ∧ Below w.heap.size w wr) (fun _ i _ _ _ _ => t.size - (intOf i).toNat)
  case atStart => exact ⟨0, [], by omega, rfl, by simp, by simp [nzL], by simp, by simp, .inr ⟨w.heap.size, 0, #[], (0, 0), rfl, Nat.le_refl _, heap_alloc_new w _, .inl rfl, Nat.le_refl _, by simp [maxLen], rfl, rfl⟩, (Below.refl _ _).alloc (Nat.le_refl _) _⟩
  case round =>
    obtain ⟨i, out, hi, rfl, hol, hnz, htx, hcu, hown, hb⟩ := hrel
    have HNZ := Lib.hid hnz
    have HTX := Lib.hid htx
    have HCU := Lib.hid hcu
    have HO := Lib.hid hown
    have HB := Lib.hid hb
    clear hnz htx hcu hown hb
    by_cases hlt : i < t.size
    · obtain ⟨n, hn⟩ : ∃ n, n = t[i].toNat := ⟨_, rfl⟩
      have hn255 : n ≤ 255 := by have := t[i].toNat_lt; omega
      have hni : (t[i].toNat : Int) = (n : Int) := by omega
      have HHD := Lib.hid (show hdN (t.data.toList.drop i) = n by rw [hd_drop t i hlt, hn])
      have HN := Lib.hid hn
      obtain ⟨q, hq⟩ : ∃ q, q = i + n := ⟨_, rfl⟩
      have hqi : (i : Int) + (n : Int) = (q : Int) := by omega
      have hqw : IntKind.i64.wrap (q : Int) = (q : Int) := by rw [IntKind.wrap_i64]; omega
      have HQ := Lib.hid hq
      clear hn hq
      by_cases hgt : t.size < q
      · have hgi : (t.size : Int) < (q : Int) := by omega
        have hn0 : ((n : Int) == 0) = false := beq_eq_false_iff_ne.2 (by omega)
        go_wp2
        go_loopw [4, 8] (fun v k wr' => ∃ m : Nat, i ≤ m ∧ m ≤ t.size ∧ k = .int .i64 (m : Int) ∧ nzL (t.data.toList.take m) ∧ OB 5 wr' w.heap.size v (out ++ (t.data.toList.drop (i + 1)).take (m - (i + 1))) ∧ Below w.heap.size w wr') (fun _ k _ => t.size - (intOf k).toNat)
        case atStart => exact ⟨i, Nat.le_refl _, by omega, rfl, HNZ.out, by rw [Nat.sub_eq_zero_of_le (by omega)]; simpa using HO.out, HB.out⟩
        case round =>
          clear HO HB HNZ
          obtain ⟨m, hm0, hm, rfl, hnzm, hownm, hbm⟩ := hrel
          have HNM := Lib.hid hnzm
          have HOM := Lib.hid hownm
          have HBM := Lib.hid hbm
          have hszm := hbm.size
          clear hnzm hownm hbm
          have hlm : (out ++ (t.data.toList.drop (i + 1)).take (m - (i + 1))).length ≤ m := by
            rw [List.length_append, List.length_take]; omega
          obtain ⟨outm, hom⟩ : ∃ outm, outm = out ++ (t.data.toList.drop (i + 1)).take (m - (i + 1)) := ⟨_, rfl⟩
          rw [← hom] at HOM hlm
          have HOE := Lib.hid hom
          clear hom
          by_cases hmn : m < t.size
          · have hjl : m < t.size := by omega
            by_cases hz : t[m] = 0
            · have HG := Lib.hid (lgetA_zero (t := t.data.toList) (by rw [← hz]; exact mem_byte t m hjl))
              have hb0 : ((t[m].toNat : Int) == 0) = true := by rw [hz]; rfl
              clear hz
              go_wp2
              go_ret2
              exact ⟨by rw [HG.out]; rfl, HBM.out⟩
            · have hb0 : ((t[m].toNat : Int) == 0) = false := by
                have : t[m].toNat ≠ 0 := fun e => hz (by apply UInt8.toNat_inj.1; exact e)
                exact beq_eq_false_iff_ne.2 (by omega)
              have HNM1 := Lib.hid (nz_snoc HNM.out hjl hz)
              clear hz
              by_cases hmi : i < m
              · have HSn := Lib.hid (show out ++ (t.data.toList.drop (i + 1)).take (m + 1 - (i + 1)) = outm ++ [t[m]] by
                  obtain ⟨d, hd⟩ : ∃ d, m = i + 1 + d := ⟨m - (i + 1), by omega⟩
                  subst hd
                  rw [HOE.out, show i + 1 + d + 1 - (i + 1) = d + 1 by omega, show i + 1 + d - (i + 1) = d by omega, take_snoc_drop t (i + 1) d hjl, List.append_assoc])
                go_wp2_with (at_builtin; refine wpList_append_OB _ rfl _ _ 22 rfl w.heap.size 5 i0 Try.underlying22 HI.out HZ0.out HZ1.out HZ2.out _ outm rfl (HOM.out.alloc _) ⟨wr.heap.size, 0, none⟩ 1 1 [t[m]] rfl rfl (one_new wr _ _ _ rfl) (by simp; omega) (by simp; omega) ?_; intro v2 w2 hown2 hg2)
                go_roundw
                case rel => exact ⟨m + 1, by omega, by omega, by go_num, HNM1.out, by rw [HSn.out]; exact hown2, (HBM.out.alloc HBM.out.size _).grown hg2 (by simp; omega) (fun k hk => (HOM.out.lt k hk).1)⟩
                case measure => simp [intOf]; omega
              · have hmi2 : m = i := by omega
                have HSn := Lib.hid (show out ++ (t.data.toList.drop (i + 1)).take (m + 1 - (i + 1)) = outm by
                  rw [HOE.out, hmi2, show i + 1 - (i + 1) = 0 by omega, show i - (i + 1) = 0 by omega])
                go_wp2
                go_roundw
                case rel => exact ⟨m + 1, by omega, by omega, by go_num, HNM1.out, by rw [HSn.out]; exact HOM.out, HBM.out⟩
                case measure => simp [intOf]; omega
          · have hmE : m = t.size := by omega
            have HLg := Lib.hid (show lgetA t.data.toList = (outm ++ [t[i]], true) by
              have h3 := HNM.out
              rw [hmE, List.take_of_length_le (by rw [HSL.out]; omega)] at h3
              have hk : okG t.data.toList = true := okG_of (by rw [HSL.out]; omega) (by rw [HSL.out]; exact hs) h3
              have hr : rdB (t.data.toList.drop i) = ([], t.data.toList.drop i) := rdB_cut (.inr (by rw [HHD.out, List.length_drop, HSL.out]; omega))
              have h1 := HTX.out
              have h2 := HCU.out
              rw [txt, hr] at h1
              rw [hr] at h2
              have h4 : txt t.data.toList = out := by rw [← h1]; simp
              have h5 : t.data.toList.drop i = t[i] :: t.data.toList.drop (i + 1) := by rw [List.drop_eq_getElem_cons (by simpa using hlt)]; rfl
              rw [lgetA, if_pos hk, h4, ← h2, h5, HOE.out, hmE]
              simp [List.take_of_length_le])
            have HOA := Lib.hid (show byteV t[i] = .int .u8 (n : Int) from val_int hni)
            subst hmE
            have hlm2 : outm.length + 1 ≤ 140737488355328 := by omega
            go_wp2_with (first | (at_builtin; refine wpList_append_OB _ rfl _ _ 22 rfl w.heap.size 5 i0 Try.underlying22 HI.out HZ0.out HZ1.out HZ2.out _ outm rfl (HOM.out.alloc _) ⟨wr.heap.size, 0, none⟩ 1 1 [t[i]] rfl rfl (one_new wr _ _ _ HOA.out) (by simp; omega) (by simp; omega) ?_; intro v2 w2 hown2 hg2) | (refine wpList_string_of_OB _ rfl 22 9 5 _ rfl w.heap.size _ (outm ++ [t[i]]) rfl Try.underlying22 Try.underlying5 Try.underlying9 hown2 ?_))
            go_ret2
            exact ⟨by rw [HLg.out]; rfl, (HBM.out.alloc HBM.out.size _).grown hg2 (by simp; omega) (fun k hk => (HOM.out.lt k hk).1)⟩
      · have hgi : ¬ (t.size : Int) < (q : Int) := by omega
        have hql : q ≤ t.size := by omega
        go_wp2
        go_loopw [4, 8] (fun v k wr' => ∃ m : Nat, i ≤ m ∧ m ≤ q ∧ k = .int .i64 (m : Int) ∧ nzL (t.data.toList.take m) ∧ OB 5 wr' w.heap.size v (out ++ (t.data.toList.drop (i + 1)).take (m - (i + 1))) ∧ Below w.heap.size w wr') (fun _ k _ => q - (intOf k).toNat)
        case atStart => exact ⟨i, Nat.le_refl _, by omega, rfl, HNZ.out, by rw [Nat.sub_eq_zero_of_le (by omega)]; simpa using HO.out, HB.out⟩
        case round =>
          clear HO HB HNZ
          obtain ⟨m, hm0, hm, rfl, hnzm, hownm, hbm⟩ := hrel
          have HNM := Lib.hid hnzm
          have HOM := Lib.hid hownm
          have HBM := Lib.hid hbm
          have hszm := hbm.size
          clear hnzm hownm hbm
          have hlm : (out ++ (t.data.toList.drop (i + 1)).take (m - (i + 1))).length ≤ m := by
            rw [List.length_append, List.length_take]; omega
          obtain ⟨outm, hom⟩ : ∃ outm, outm = out ++ (t.data.toList.drop (i + 1)).take (m - (i + 1)) := ⟨_, rfl⟩
          rw [← hom] at HOM hlm
          have HOE := Lib.hid hom
          clear hom
          by_cases hmn : m < q
          · have hjl : m < t.size := by omega
            by_cases hz : t[m] = 0
            · have HG := Lib.hid (lgetA_zero (t := t.data.toList) (by rw [← hz]; exact mem_byte t m hjl))
              have hb0 : ((t[m].toNat : Int) == 0) = true := by rw [hz]; rfl
              clear hz
              go_wp2
              go_ret2
              exact ⟨by rw [HG.out]; rfl, HBM.out⟩
            · have hb0 : ((t[m].toNat : Int) == 0) = false := by
                have : t[m].toNat ≠ 0 := fun e => hz (by apply UInt8.toNat_inj.1; exact e)
                exact beq_eq_false_iff_ne.2 (by omega)
              have HNM1 := Lib.hid (nz_snoc HNM.out hjl hz)
              clear hz
              by_cases hmi : i < m
              · have HSn := Lib.hid (show out ++ (t.data.toList.drop (i + 1)).take (m + 1 - (i + 1)) = outm ++ [t[m]] by
                  obtain ⟨d, hd⟩ : ∃ d, m = i + 1 + d := ⟨m - (i + 1), by omega⟩
                  subst hd
                  rw [HOE.out, show i + 1 + d + 1 - (i + 1) = d + 1 by omega, show i + 1 + d - (i + 1) = d by omega, take_snoc_drop t (i + 1) d hjl, List.append_assoc])
                go_wp2_with (at_builtin; refine wpList_append_OB _ rfl _ _ 22 rfl w.heap.size 5 i0 Try.underlying22 HI.out HZ0.out HZ1.out HZ2.out _ outm rfl (HOM.out.alloc _) ⟨wr.heap.size, 0, none⟩ 1 1 [t[m]] rfl rfl (one_new wr _ _ _ rfl) (by simp; omega) (by simp; omega) ?_; intro v2 w2 hown2 hg2)
                go_roundw
                case rel => exact ⟨m + 1, by omega, by omega, by go_num, HNM1.out, by rw [HSn.out]; exact hown2, (HBM.out.alloc HBM.out.size _).grown hg2 (by simp; omega) (fun k hk => (HOM.out.lt k hk).1)⟩
                case measure => simp [intOf]; omega
              · have hmi2 : m = i := by omega
                have HSn := Lib.hid (show out ++ (t.data.toList.drop (i + 1)).take (m + 1 - (i + 1)) = outm by
                  rw [HOE.out, hmi2, show i + 1 - (i + 1) = 0 by omega, show i - (i + 1) = 0 by omega])
                go_wp2
                go_roundw
                case rel => exact ⟨m + 1, by omega, by omega, by go_num, HNM1.out, by rw [HSn.out]; exact HOM.out, HBM.out⟩
                case measure => simp [intOf]; omega
          · have hmE : m = q := by omega
            by_cases h0 : n = 0
            · have HG := Lib.hid (lgetA_zero (t := t.data.toList) (by
                have e : t[i] = 0 := by apply UInt8.toNat_inj.1; rw [← HN.out, h0]; rfl
                rw [← e]; exact mem_byte t i hlt))
              have hb0 : ((n : Int) == 0) = true := by rw [h0]; rfl
              clear h0
              go_wp2
              go_ret2
              exact ⟨by rw [HG.out]; rfl, HBM.out⟩
            have HBlk := Lib.hid (txB_blk (t.data.toList.drop i) n (by omega) (by rw [List.length_drop, HSL.out]; omega))
            have HRD := Lib.hid (show rdB (t.data.toList.drop i) = (((t.data.toList.drop i).take n, decide (n < (t.data.toList.drop i).length)) :: (rdB (t.data.toList.drop (i + n))).1, (rdB (t.data.toList.drop (i + n))).2) by
              rw [rdB_more (t := t.data.toList.drop i) (by rw [HHD.out]; omega) (by rw [HHD.out, List.length_drop, HSL.out]; omega), HHD.out, List.drop_drop])
            have HTx := Lib.hid (show outm ++ ((if i + n < t.size ∧ n < 255 then [0] else []) ++ txt (t.data.toList.drop (i + n))) = txt t.data.toList by
              rw [← HTX.out, HOE.out, hmE, show q - (i + 1) = n - 1 by omega]
              have e1 : txt (t.data.toList.drop i) = txB ((t.data.toList.drop i).take n, decide (n < (t.data.toList.drop i).length)) ++ txt (t.data.toList.drop (i + n)) := by
                rw [txt, HRD.out, List.flatMap_cons]; rfl
              rw [e1, HBlk.out, List.drop_drop, List.length_drop, HSL.out]
              have e2 : (n < t.size - i ∧ n < 255) ↔ (i + n < t.size ∧ n < 255) := by omega
              simp only [e2, List.append_assoc])
            have HCn := Lib.hid (show (rdB (t.data.toList.drop (i + n))).2 = (rdB t.data.toList).2 by rw [← HCU.out, HRD.out])
            have HNn := Lib.hid (show nzL (t.data.toList.take q) by rw [← hmE]; exact HNM.out)
            rw [← HQ.out] at HTx HCn
            have hq0 : i < q := by omega
            have hb0 : ((n : Int) == 0) = false := beq_eq_false_iff_ne.2 (by omega)
            have hlmq : outm.length + 1 ≤ q := by
              have h := HOE.out
              rw [h, List.length_append, List.length_take]; omega
            subst hmE
            clear hmn h0 hm hm0
            by_cases h255 : n < 255
            · by_cases hqs : m < t.size
              · rw [if_pos ⟨hqs, h255⟩] at HTx
                go_wp2_with (at_builtin; refine wpList_append_OB _ rfl _ _ 22 rfl w.heap.size 5 i0 Try.underlying22 HI.out HZ0.out HZ1.out HZ2.out _ outm rfl (HOM.out.alloc _) ⟨wr.heap.size, 0, none⟩ 1 1 [0] rfl rfl (one_new wr _ _ _ rfl) (by simp; omega) (by simp; omega) ?_; intro v2 w2 hown2 hg2)
                go_roundw
                case rel => exact ⟨m, outm ++ [0], hql, rfl, by simp; omega, HNn.out, by rw [List.append_assoc]; exact HTx.out, HCn.out, hown2, (HBM.out.alloc HBM.out.size _).grown hg2 (by simp; omega) (fun k hk => (HOM.out.lt k hk).1)⟩
                case measure => simp [intOf]; omega
              · rw [if_neg (by omega)] at HTx
                go_wp2
                go_roundw
                case rel => exact ⟨m, outm, hql, rfl, by omega, HNn.out, HTx.out, HCn.out, HOM.out, HBM.out⟩
                case measure => simp [intOf]; omega
            · rw [if_neg (by omega)] at HTx
              go_wp2
              go_roundw
              case rel => exact ⟨m, outm, hql, rfl, by omega, HNn.out, HTx.out, HCn.out, HOM.out, HBM.out⟩
              case measure => simp [intOf]; omega
    · have HE := Lib.hid (show lgetA t.data.toList = (out, decide (0 < t.size)) by
        have e0 : t.data.toList.drop i = [] := List.drop_eq_nil_of_le (by rw [HSL.out]; omega)
        have h1 := HTX.out
        have h2 := HCU.out
        rw [e0, txt, rdB_nil] at h1
        rw [e0, rdB_nil] at h2
        have h3 := HNZ.out
        rw [List.take_of_length_le (by rw [HSL.out]; omega)] at h3
        have h4 : out = txt t.data.toList := by simpa using h1
        by_cases hz : t.size = 0
        · have : out.length = 0 := by omega
          rw [lgetA, if_neg (by intro hk; have := (okG_yes hk).1; rw [HSL.out] at this; omega), List.length_eq_zero_iff.1 this]
          simp [hz]
        · have hk : okG t.data.toList = true := okG_of (by rw [HSL.out]; exact hz) (by rw [HSL.out]; exact hs) h3
          rw [lgetA, if_pos hk, ← h2, h4]
          simp; omega)
      go_wp2_with (refine wpList_string_of_OB _ rfl 22 9 5 _ rfl w.heap.size _ _ rfl Try.underlying22 Try.underlying5 Try.underlying9 HO.out ?_)
      go_ret2
      refine ⟨?_, HB.out⟩
      rw [HE.out]
      simp
end Go.Proofs.Ytfojlpnnhghcbaa
