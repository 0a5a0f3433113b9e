/- CobsGet of the model. -/
import Derived.Test.YtfojlpnnhghcbaaCobS
namespace Go.Proofs.Ytfojlpnnhghcbaa
open Go.ChangeShapes Go.WideShapes Go.ChangeAt Go.RowKit
theorem getA_zero {t : List UInt8} (h : (0 : UInt8) ∈ t) : getA t = ([], false) := by
  rw [getA, if_neg]; rintro ⟨h1, _⟩; exact (okG_yes h1).2.2 0 h rfl
theorem lgetA_zero {t : List UInt8} (h : (0 : UInt8) ∈ t) : lgetA t = ([], false) := by
  rw [lgetA, if_neg]; intro h1; exact (okG_yes h1).2.2 0 h rfl
theorem getA_cut {t : List UInt8} (h : (rdB t).2 ≠ []) : getA t = ([], false) := by
  rw [getA, if_neg]; rintro ⟨_, h1⟩; exact h h1
theorem mem_byte (s : ByteArray) (k : Nat) (h : k < s.size) : s[k] ∈ s.data.toList := by
  have e : s[k] = s.data.toList[k]'(by simpa using h) := rfl
  rw [e]; exact List.getElem_mem _
theorem hd_drop (s : ByteArray) (i : Nat) (h : i < s.size) : hdN (s.data.toList.drop i) = s[i].toNat := by
  rw [List.drop_eq_getElem_cons (by simpa using h)]; rfl
theorem nz_snoc {s : ByteArray} {k : Nat} (h : nzL (s.data.toList.take k)) (hk : k < s.size) (hz : s[k] ≠ 0) : nzL (s.data.toList.take (k + 1)) := by
  rw [snoc_take s k hk]
  intro x hx
  rcases List.mem_append.1 hx with h1 | h1
  · exact h x h1
  · simp at h1; subst h1; exact hz
theorem take_snoc_drop (s : ByteArray) (i k : Nat) (h : i + k < s.size) : (s.data.toList.drop i).take (k + 1) = (s.data.toList.drop i).take k ++ [s[i + k]] := by
  rw [List.take_add_one, List.getElem?_drop, List.getElem?_eq_getElem (by simpa using h)]
  rfl
theorem txB_blk (l : List UInt8) (n : Nat) (h1 : 1 ≤ n) (h2 : n ≤ l.length) : txB (l.take n, decide (n < l.length)) = (l.drop 1).take (n - 1) ++ (if n < l.length ∧ n < 255 then [0] else []) := by
  unfold txB
  have e : (l.take n).length = n := by rw [List.length_take]; omega
  rw [e, List.drop_take]
  congr 1
  by_cases h : n < l.length ∧ n < 255
  · rw [if_pos h, if_pos (by simp; omega)]
  · rw [if_neg h, if_neg (by simp; omega)]
set_option maxRecDepth 100000 in
set_option maxHeartbeats 8000000 in
theorem l6Get_any (t : ByteArray) (w : World) (hs : t.size ≤ 605) :
    Calls Try.prog 89 #[.string t] w fun e w' => e = .returned (.tuple #[.string ⟨(getA t.data.toList).1.toArray⟩, .bool (getA t.data.toList).2]) ∧ Below w.heap.size w w' := by
  obtain ⟨i0, hi, hz0, hz1, hz2⟩ := info_parts info_u8
  have HI := Lib.hid hi
  have HZ0 := Lib.hid hz0
  have HZ1 := Lib.hid hz1
  have HZ2 := Lib.hid hz2
  have HSL := Lib.hid (size_list t)
  clear hi hz0 hz1 hz2
  go_enter Try.func89, Try.ntmps89
  go_wp2
  go_loopw [4, 5, 6, 7] (fun v i _ _ wr => ∃ (k : Nat) (out : List UInt8), k ≤ t.size ∧ i = .int .i64 k ∧ out.length ≤ k ∧ nzL (t.data.toList.take k) ∧ out ++ txt (t.data.toList.drop k) = txt t.data.toList ∧ (rdB (t.data.toList.drop k)).2 = (rdB t.data.toList).2 ∧ OB 5 wr w.heap.size v out ∧ Below w.heap.size w wr) (fun _ i _ _ _ => t.size - (intOf i).toNat)
  case atStart => exact ⟨0, [], by omega, rfl, by simp, by simp [nzL], by simp, by simp, .inr ⟨w.heap.size, 0, #[], (0, 0), rfl, Nat.le_refl _, heap_alloc_new w _, .inl rfl, Nat.le_refl _, by simp [maxLen], rfl, rfl⟩, (Below.refl _ _).alloc (Nat.le_refl _) _⟩
  case round =>
    obtain ⟨i, out, hi, rfl, hol, hnz, htx, hcu, hown, hb⟩ := hrel
    have HNZ := Lib.hid hnz
    have HTX := Lib.hid htx
    have HCU := Lib.hid hcu
    have HO := Lib.hid hown
    have HB := Lib.hid hb
    clear hnz htx hcu hown hb
    by_cases hlt : i < t.size
    · obtain ⟨n, hn⟩ : ∃ n, n = t[i].toNat := ⟨_, rfl⟩
      have hn255 : n ≤ 255 := by have := t[i].toNat_lt; omega
      have hni : (t[i].toNat : Int) = (n : Int) := by omega
      have HHD := Lib.hid (show hdN (t.data.toList.drop i) = n by rw [hd_drop t i hlt, hn])
      by_cases h0 : n = 0
      · have HG := Lib.hid (getA_zero (t := t.data.toList) (by
          have e : t[i] = 0 := by apply UInt8.toNat_inj.1; rw [← hn, h0]; rfl
          rw [← e]; exact mem_byte t i hlt))
        subst h0
        clear hn
        go_wp2
        go_ret2
        exact ⟨by rw [HG.out]; rfl, HB.out⟩
      have HNZ1 := Lib.hid (nz_snoc HNZ.out hlt (fun e => h0 (by rw [hn, e]; rfl)))
      have hb0 : ((n : Int) == 0) = false := beq_eq_false_iff_ne.2 (by omega)
      clear hn
      by_cases hgt : t.size < i + n
      · have HG := Lib.hid (getA_cut (t := t.data.toList) (by
          rw [← HCU.out, rdB_cut (.inr (by rw [HHD.out, List.length_drop, HSL.out]; omega))]
          intro e
          have e' : t.data.toList.drop i = [] := e
          have : (t.data.toList.drop i).length = 0 := by rw [e']; rfl
          rw [List.length_drop, HSL.out] at this; omega))
        go_wp2
        go_ret2
        exact ⟨by rw [HG.out]; rfl, HB.out⟩
      have HBlk := Lib.hid (txB_blk (t.data.toList.drop i) n (by omega) (by rw [List.length_drop, HSL.out]; omega))
      have HRD := Lib.hid (show rdB (t.data.toList.drop i) = (((t.data.toList.drop i).take n, decide (n < (t.data.toList.drop i).length)) :: (rdB (t.data.toList.drop (i + n))).1, (rdB (t.data.toList.drop (i + n))).2) by
        rw [rdB_more (t := t.data.toList.drop i) (by rw [HHD.out]; omega) (by rw [HHD.out, List.length_drop, HSL.out]; omega), HHD.out, List.drop_drop])
      go_wp2
      go_loopw [4, 7] (fun v k wr' => ∃ m : Nat, m + 1 ≤ n ∧ k = .int .i64 ((m + 1 : Nat) : Int) ∧ nzL (t.data.toList.take (i + 1 + m)) ∧ OB 5 wr' w.heap.size v (out ++ (t.data.toList.drop (i + 1)).take m) ∧ Below w.heap.size w wr') (fun _ k _ => n - (intOf k).toNat)
      case atStart => exact ⟨0, by omega, rfl, HNZ1.out, by simpa using HO.out, HB.out⟩
      case round =>
        clear HO HB HNZ1
        obtain ⟨m, hm, rfl, hnzm, hownm, hbm⟩ := hrel
        have HNM := Lib.hid hnzm
        have HOM := Lib.hid hownm
        have HBM := Lib.hid hbm
        have hszm := hbm.size
        clear hnzm hownm hbm
        have hlm : (out ++ (t.data.toList.drop (i + 1)).take m).length ≤ i + m := by
          rw [List.length_append, List.length_take]; omega
        obtain ⟨outm, hom⟩ : ∃ outm, outm = out ++ (t.data.toList.drop (i + 1)).take m := ⟨_, rfl⟩
        rw [← hom] at HOM hlm
        have HOE := Lib.hid hom
        clear hom
        by_cases hmn : m + 1 < n
        · obtain ⟨j, hj⟩ : ∃ j, j = i + 1 + m := ⟨_, rfl⟩
          have hjl : j < t.size := by omega
          have hji : (i : Int) + ((m + 1 : Nat) : Int) = (j : Int) := by omega
          have hji2 : (i : Int) + ((m : Int) + 1) = (j : Int) := by omega
          have hjw : IntKind.i64.wrap (j : Int) = (j : Int) := by rw [IntKind.wrap_i64]; omega
          have HSn := Lib.hid (show (t.data.toList.drop (i + 1)).take (m + 1) = (t.data.toList.drop (i + 1)).take m ++ [t[j]] by subst hj; exact take_snoc_drop t (i + 1) m hjl)
          by_cases hz : t[j] = 0
          · have HG := Lib.hid (getA_zero (t := t.data.toList) (by rw [← hz]; exact mem_byte t j hjl))
            have hb0 : ((t[j].toNat : Int) == 0) = true := by rw [hz]; rfl
            clear hz hj
            go_wp2
            go_ret2
            exact ⟨by rw [HG.out]; rfl, HBM.out⟩
          · have hb0 : ((t[j].toNat : Int) == 0) = false := by
              have : t[j].toNat ≠ 0 := fun e => hz (by apply UInt8.toNat_inj.1; exact e)
              exact beq_eq_false_iff_ne.2 (by omega)
            have HNM1 := Lib.hid (show nzL (t.data.toList.take (i + 1 + (m + 1))) by
              have := nz_snoc (hj ▸ HNM.out) hjl hz
              rw [hj] at this; exact this)
            clear hz hj
            go_wp2_with (at_builtin; refine wpList_append_OB _ rfl _ _ 22 rfl w.heap.size 5 i0 Try.underlying22 HI.out HZ0.out HZ1.out HZ2.out _ outm rfl (HOM.out.alloc _) ⟨wr.heap.size, 0, none⟩ 1 1 [t[j]] rfl rfl (one_new wr _ _ _ rfl) (by simp; omega) (by simp; omega) ?_; intro v2 w2 hown2 hg2)
            go_roundw
            case rel => exact ⟨m + 1, by omega, by go_num, HNM1.out, by rw [HSn.out, ← List.append_assoc, ← HOE.out]; exact hown2, (HBM.out.alloc HBM.out.size _).grown hg2 (by simp; omega) (fun k hk => (HOM.out.lt k hk).1)⟩
            case measure => simp [intOf]; omega
        · have hmn' : m = n - 1 := by omega
          have HTx := Lib.hid (show outm ++ ((if i + n < t.size ∧ n < 255 then [0] else []) ++ txt (t.data.toList.drop (i + n))) = txt t.data.toList by
            rw [← HTX.out, HOE.out, hmn']
            have e1 : txt (t.data.toList.drop i) = txB ((t.data.toList.drop i).take n, decide (n < (t.data.toList.drop i).length)) ++ txt (t.data.toList.drop (i + n)) := by
              rw [txt, HRD.out, List.flatMap_cons]; rfl
            rw [e1, HBlk.out, List.drop_drop, List.length_drop, HSL.out]
            have e2 : (n < t.size - i ∧ n < 255) ↔ (i + n < t.size ∧ n < 255) := by omega
            simp only [e2, List.append_assoc])
          have HCn := Lib.hid (show (rdB (t.data.toList.drop (i + n))).2 = (rdB t.data.toList).2 by rw [← HCU.out, HRD.out])
          have HNn := Lib.hid (show nzL (t.data.toList.take (i + n)) by have e : i + 1 + m = i + n := by omega
                                                                        rw [← e]; exact HNM.out)
          obtain ⟨q, hq⟩ : ∃ q, q = i + n := ⟨_, rfl⟩
          have hqi : (i : Int) + (n : Int) = (q : Int) := by omega
          have hqw : IntKind.i64.wrap (q : Int) = (q : Int) := by rw [IntKind.wrap_i64]; omega
          have hql : q ≤ t.size := by omega
          rw [← hq] at HTx HCn HNn
          have hmi : ((m : Int) + 1) = (n : Int) := by omega
          have hnin : ((n : Int) < 255 ↔ n < 255) := by omega
          have hq0 : i < q := by omega
          have hlmq : outm.length + 1 ≤ q := by omega
          clear hmn' hq hnin hmn
          by_cases h255 : n < 255
          · by_cases hqs : q < t.size
            · rw [if_pos ⟨hqs, h255⟩] at HTx
              go_wp2_with (at_builtin; refine wpList_append_OB _ rfl _ _ 22 rfl w.heap.size 5 i0 Try.underlying22 HI.out HZ0.out HZ1.out HZ2.out _ outm rfl (HOM.out.alloc _) ⟨wr.heap.size, 0, none⟩ 1 1 [0] rfl rfl (one_new wr _ _ _ rfl) (by simp; omega) (by simp; omega) ?_; intro v2 w2 hown2 hg2)
              go_roundw
              case rel => exact ⟨q, outm ++ [0], hql, rfl, by simp; omega, HNn.out, by rw [List.append_assoc]; exact HTx.out, HCn.out, hown2, (HBM.out.alloc HBM.out.size _).grown hg2 (by simp; omega) (fun k hk => (HOM.out.lt k hk).1)⟩
              case measure => simp [intOf]; omega
            · rw [if_neg (by omega)] at HTx
              go_wp2
              go_roundw
              case rel => exact ⟨q, outm, hql, rfl, by omega, HNn.out, HTx.out, HCn.out, HOM.out, HBM.out⟩
              case measure => simp [intOf]; omega
          · rw [if_neg (by omega)] at HTx
            go_wp2
            go_roundw
            case rel => exact ⟨q, outm, hql, rfl, by omega, HNn.out, HTx.out, HCn.out, HOM.out, HBM.out⟩
            case measure => simp [intOf]; omega
    · have HE := Lib.hid (show getA t.data.toList = (out, decide (0 < t.size)) by
        have e0 : t.data.toList.drop i = [] := List.drop_eq_nil_of_le (by rw [HSL.out]; omega)
        have h1 := HTX.out
        have h2 := HCU.out
        rw [e0, txt, rdB_nil] at h1
        rw [e0, rdB_nil] at h2
        have h3 := HNZ.out
        rw [List.take_of_length_le (by rw [HSL.out]; omega)] at h3
        have h4 : out = txt t.data.toList := by simpa using h1
        by_cases hz : t.size = 0
        · have : out.length = 0 := by omega
          rw [getA, if_neg (by rintro ⟨hk, _⟩; have := (okG_yes hk).1; rw [HSL.out] at this; omega), List.length_eq_zero_iff.1 this]
          simp [hz]
        · have hk : okG t.data.toList = true := by
            simp only [okG, HSL.out]
            simp only [Bool.and_eq_true, decide_eq_true_eq, Bool.not_eq_true', hz, hs, ne_eq, not_false_eq_true, true_and]
            cases hc : t.data.toList.contains 0 with
            | false => rfl
            | true => exact absurd rfl (h3 0 (by simpa using hc))
          rw [getA, if_pos ⟨hk, h2.symm⟩, h4]
          simp; omega)
      go_wp2_with (refine wpList_string_of_OB _ rfl 22 9 5 _ rfl w.heap.size _ _ rfl Try.underlying22 Try.underlying5 Try.underlying9 HO.out ?_)
      go_ret2
      refine ⟨?_, HB.out⟩
      rw [HE.out]
      simp
end Go.Proofs.Ytfojlpnnhghcbaa
