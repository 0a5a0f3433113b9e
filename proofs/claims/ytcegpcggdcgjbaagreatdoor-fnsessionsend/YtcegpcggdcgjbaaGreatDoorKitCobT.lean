/- CobsGet of the model. -/
import Derived.Test.YtcegpcggdcgjbaaGreatDoorKitCobR
import Derived.Test.YtcegpcggdcgjbaaGreatDoorKitCobE
namespace Go.Proofs.YtcegpcggdcgjbaaGreatDoor
open Go.ChangeShapes Go.WideShapes Go.ChangeAt Go.RowKit
theorem getA_zero {t : List UInt8} (h : (0 : UInt8) ∈ t) : getA t = ([], false) := by
  rw [getA, if_neg]; rintro ⟨h1, _⟩; exact (okG_yes h1).2.2 0 h rfl
theorem lgetA_zero {t : List UInt8} (h : (0 : UInt8) ∈ t) : lgetA t = ([], false) := by
  rw [lgetA, if_neg]; intro h1; exact (okG_yes h1).2.2 0 h rfl
theorem getA_cut {t : List UInt8} (h : (rdB t).2 ≠ []) : getA t = ([], false) := by
  rw [getA, if_neg]; rintro ⟨_, h1⟩; exact h h1
theorem mem_byte (s : ByteArray) (k : Nat) (h : k < s.size) : s[k] ∈ s.data.toList := by
  have e : s[k] = s.data.toList[k]'(by simpa using h) := rfl
  rw [e]; exact List.getElem_mem _
theorem hd_drop (s : ByteArray) (i : Nat) (h : i < s.size) : hdN (s.data.toList.drop i) = s[i].toNat := by
  rw [List.drop_eq_getElem_cons (by simpa using h)]; rfl
theorem nz_snoc {s : ByteArray} {k : Nat} (h : nzL (s.data.toList.take k)) (hk : k < s.size) (hz : s[k] ≠ 0) : nzL (s.data.toList.take (k + 1)) := by
  rw [snoc_take s k hk]
  intro x hx
  rcases List.mem_append.1 hx with h1 | h1
  · exact h x h1
  · simp at h1; subst h1; exact hz
theorem take_snoc_drop (s : ByteArray) (i k : Nat) (h : i + k < s.size) : (s.data.toList.drop i).take (k + 1) = (s.data.toList.drop i).take k ++ [s[i + k]] := by
  rw [List.take_add_one, List.getElem?_drop, List.getElem?_eq_getElem (by simpa using h)]
  rfl
theorem txB_blk (l : List UInt8) (n : Nat) (h1 : 1 ≤ n) (h2 : n ≤ l.length) : txB (l.take n, decide (n < l.length)) = (l.drop 1).take (n - 1) ++ (if n < l.length ∧ n < 255 then [0] else []) := by
  unfold txB
  have e : (l.take n).length = n := by rw [List.length_take]; omega
  rw [e, List.drop_take]
  congr 1
  by_cases h : n < l.length ∧ n < 255
  · rw [if_pos h, if_pos (by simp; omega)]
  · rw [if_neg h, if_neg (by simp; omega)]
set_option maxRecDepth 100000 in
set_option maxHeartbeats 8000000 in
theorem l6Get_any (t : ByteArray) (w : World) (hs : t.size ≤ 605) :
    Calls Tryz.prog 152 #[.string t] w fun e w' => e = .returned (.tuple #[.string ⟨(getA t.data.toList).1.toArray⟩, .bool (getA t.data.toList).2]) ∧ Below w.heap.size w w' := by
  obtain ⟨i0, hi, hz0, hz1, hz2⟩ := info_parts info_u8
  have HI := Lib.hid hi
  have HZ0 := Lib.hid hz0
  have HZ1 := Lib.hid hz1
  have HZ2 := Lib.hid hz2
  have HSL := Lib.hid (size_list t)
  clear hi hz0 hz1 hz2
  go_enter Tryz.func152, Tryz.ntmps152
  go_wp2
  go_loopw [4, 5, 6, 7] (fun v i _ _ wr => ∃ (k : Nat) (out : List UInt8), k ≤ t.size ∧ i = .int .i64 k ∧ out.length ≤ k ∧ nzL (t.data.toList.take k) ∧ out ++ txt (t.data.toList.drop k) = txt t.data.toList ∧ (rdB (t.data.toList.drop k)).2 = (rdB t.data.toList).2 ∧ OB 5 wr w.heap.size v out ∧ Below w.heap.size w wr) (fun _ i _ _ _ => t.size - (intOf i).toNat)
  case atStart => exact ⟨0, [], by omega, rfl, by simp, by simp [nzL], by simp, by simp, .inr ⟨w.heap.size, 0, #[], (0, 0), rfl, Nat.le_refl _, heap_alloc_new w _, .inl rfl, Nat.le_refl _, by simp [maxLen], rfl, rfl⟩, (Below.refl _ _).alloc (Nat.le_refl _) _⟩
  case round =>
    obtain ⟨i, out, hi, rfl, hol, hnz, htx, hcu, hown, hb⟩ := hrel
    have HNZ := Lib.hid hnz
    have HTX := Lib.hid htx
    have HCU := Lib.hid hcu
    have HO := Lib.hid hown
    have HB := Lib.hid hb
    clear hnz htx hcu hown hb
    by_cases hlt : i < t.size
    · obtain ⟨n, hn⟩ : ∃ n, n = t[i].toNat := ⟨_, rfl⟩
      have hn255 : n ≤ 255 := by have := t[i].toNat_lt; omega
      have hni : (t[i].toNat : Int) = (n : Int) := by omega
      have HHD := Lib.hid (show hdN (t.data.toList.drop i) = n by rw [hd_drop t i hlt, hn])
      by_cases h0 : n = 0
      · have HG := Lib.hid (getA_zero (t := t.data.toList) (by
          have e : t[i] = 0 := by apply UInt8.toNat_inj.1; rw [← hn, h0]; rfl
          rw [← e]; exact mem_byte t i hlt))
        subst h0
        clear hn
        go_wp2
        go_ret2
        exact ⟨by rw [HG.out]; rfl, HB.out⟩
      have HNZ1 := Lib.hid (nz_snoc HNZ.out hlt (fun e => h0 (by rw [hn, e]; rfl)))
      have hb0 : ((n : Int) == 0) = false := beq_eq_false_iff_ne.2 (by omega)
      clear hn
      by_cases hgt : t.size < i + n
      · have HG := Lib.hid (getA_cut (t := t.data.toList) (by
          rw [← HCU.out, rdB_cut (.inr (by rw [HHD.out, List.length_drop, HSL.out]; omega))]
          intro e
          have e' : t.data.toList.drop i = [] := e
          have : (t.data.toList.drop i).length = 0 := by rw [e']; rfl
          rw [List.length_drop, HSL.out] at this; omega))
        go_wp2
        go_ret2
        exact ⟨by rw [HG.out]; rfl, HB.out⟩
      have HBlk := Lib.hid (txB_blk (t.data.toList.drop i) n (by omega) (by rw [List.length_drop, HSL.out]; omega))
      have HRD := Lib.hid (show rdB (t.data.toList.drop i) = (((t.data.toList.drop i).take n, decide (n < (t.data.toList.drop i).length)) :: (rdB (t.data.toList.drop (i + n))).1, (rdB (t.data.toList.drop (i + n))).2) by
        rw [rdB_more (t := t.data.toList.drop i) (by rw [HHD.out]; omega) (by rw [HHD.out, List.length_drop, HSL.out]; omega), HHD.out, List.drop_drop])
      go_wp2
      go_loopw [4, 7] (fun v k wr' => ∃ m : Nat, m + 1 ≤ n ∧ k = .int .i64 ((m + 1 : Nat) : Int) ∧ nzL (t.data.toList.take (i + 1 + m)) ∧ OB 5 wr' w.heap.size v (out ++ (t.data.toList.drop (i + 1)).take m) ∧ Below w.heap.size w wr') (fun _ k _ => n - (intOf k).toNat)
      case atStart => exact ⟨0, by omega, rfl, HNZ1.out, by simpa using HO.out, HB.out⟩
      case round =>
        clear HO HB HNZ1
        obtain ⟨m, hm, rfl, hnzm, hownm, hbm⟩ := hrel
        have HNM := Lib.hid hnzm
        have HOM := Lib.hid hownm
        have HBM := Lib.hid hbm
        have hszm := hbm.size
        clear hnzm hownm hbm
        have hlm : (out ++ (t.data.toList.drop (i + 1)).take m).length ≤ i + m := by
          rw [List.length_append, List.length_take]; omega
        obtain ⟨outm, hom⟩ : ∃ outm, outm = out ++ (t.data.toList.drop (i + 1)).take m := ⟨_, rfl⟩
        rw [← hom] at HOM hlm
        have HOE := Lib.hid hom
        clear hom
        by_cases hmn : m + 1 < n
        · obtain ⟨j, hj⟩ : ∃ j, j = i + 1 + m := ⟨_, rfl⟩
          have hjl : j < t.size := by omega
          have hji : (i : Int) + ((m + 1 : Nat) : Int) = (j : Int) := by omega
          have hji2 : (i : Int) + ((m : Int) + 1) = (j : Int) := by omega
          have hjw : IntKind.i64.wrap (j : Int) = (j : Int) := by rw [IntKind.wrap_i64]; omega
          have HSn := Lib.hid (show (t.data.toList.drop (i + 1)).take (m + 1) = (t.data.toList.drop (i + 1)).take m ++ [t[j]] by subst hj; exact take_snoc_drop t (i + 1) m hjl)
          by_cases hz : t[j] = 0
          · have HG := Lib.hid (getA_zero (t := t.data.toList) (by rw [← hz]; exact mem_byte t j hjl))
            have hb0 : ((t[j].toNat : Int) == 0) = true := by rw [hz]; rfl
            clear hz hj
            go_wp2
            go_ret2
            exact ⟨by rw [HG.out]; rfl, HBM.out⟩
          · have hb0 : ((t[j].toNat : Int) == 0) = false := by
              have : t[j].toNat ≠ 0 := fun e => hz (by apply UInt8.toNat_inj.1; exact e)
              exact beq_eq_false_iff_ne.2 (by omega)
            have HNM1 := Lib.hid (show nzL (t.data.toList.take (i + 1 + (m + 1))) by
              have := nz_snoc (hj ▸ HNM.out) hjl hz
              rw [hj] at this; exact this)
            clear hz hj
            go_wp2_with (at_builtin; refine wpList_append_OB _ rfl _ _ 22 rfl w.heap.size 5 i0 Tryz.underlying22 HI.out HZ0.out HZ1.out HZ2.out _ outm rfl (HOM.out.alloc _) ⟨wr.heap.size, 0, none⟩ 1 1 [t[j]] rfl rfl (one_new wr _ _ _ rfl) (by simp; omega) (by simp; omega) ?_; intro v2 w2 hown2 hg2)
            go_roundw
            case rel => exact ⟨m + 1, by omega, by go_num, HNM1.out, by rw [HSn.out, ← List.append_assoc, ← HOE.out]; exact hown2, (HBM.out.alloc HBM.out.size _).grown hg2 (by simp; omega) (fun k hk => (HOM.out.lt k hk).1)⟩
            case measure => simp [intOf]; omega
        · have hmn' : m = n - 1 := by omega
          have HTx := Lib.hid (show outm ++ ((if i + n < t.size ∧ n < 255 then [0] else []) ++ txt (t.data.toList.drop (i + n))) = txt t.data.toList by
            rw [← HTX.out, HOE.out, hmn']
            have e1 : txt (t.data.toList.drop i) = txB ((t.data.toList.drop i).take n, decide (n < (t.data.toList.drop i).length)) ++ txt (t.data.toList.drop (i + n)) := by
              rw [txt, HRD.out, List.flatMap_cons]; rfl
            rw [e1, HBlk.out, List.drop_drop, List.length_drop, HSL.out]
            have e2 : (n < t.size - i ∧ n < 255) ↔ (i + n < t.size ∧ n < 255) := by omega
            simp only [e2, List.append_assoc])
          have HCn := Lib.hid (show (rdB (t.data.toList.drop (i + n))).2 = (rdB t.data.toList).2 by rw [← HCU.out, HRD.out])
          have HNn := Lib.hid (show nzL (t.data.toList.take (i + n)) by have e : i + 1 + m = i + n := by omega
                                                                        rw [← e]; exact HNM.out)
          obtain ⟨q, hq⟩ : ∃ q, q = i + n := ⟨_, rfl⟩
          have hqi : (i : Int) + (n : Int) = (q : Int) := by omega
          have hqw : IntKind.i64.wrap (q : Int) = (q : Int) := by rw [IntKind.wrap_i64]; omega
          have hql : q ≤ t.size := by omega
          rw [← hq] at HTx HCn HNn
          have hmi : ((m : Int) + 1) = (n : Int) := by omega
          have hnin : ((n : Int) < 255 ↔ n < 255) := by omega
          have hq0 : i < q := by omega
          have hlmq : outm.length + 1 ≤ q := by omega
          clear hmn' hq hnin hmn
          by_cases h255 : n < 255
          · by_cases hqs : q < t.size
            · rw [if_pos ⟨hqs, h255⟩] at HTx
              go_wp2_with (at_builtin; refine wpList_append_OB _ rfl _ _ 22 rfl w.heap.size 5 i0 Tryz.underlying22 HI.out HZ0.out HZ1.out HZ2.out _ outm rfl (HOM.out.alloc _) ⟨wr.heap.size, 0, none⟩ 1 1 [0] rfl rfl (one_new wr _ _ _ rfl) (by simp; omega) (by simp; omega) ?_; intro v2 w2 hown2 hg2)
              go_roundw
              case rel => exact ⟨q, outm ++ [0], hql, rfl, by simp; omega, HNn.out, by rw [List.append_assoc]; exact HTx.out, HCn.out, hown2, (HBM.out.alloc HBM.out.size _).grown hg2 (by simp; omega) (fun k hk => (HOM.out.lt k hk).1)⟩
              case measure => simp [intOf]; omega
            · rw [if_neg (by omega)] at HTx
              go_wp2
              go_roundw
              case rel => exact ⟨q, outm, hql, rfl, by omega, HNn.out, HTx.out, HCn.out, HOM.out, HBM.out⟩
              case measure => simp [intOf]; omega
          · rw [if_neg (by omega)] at HTx
            go_wp2
            go_roundw
            case rel => exact ⟨q, outm, hql, rfl, by omega, HNn.out, HTx.out, HCn.out, HOM.out, HBM.out⟩
            case measure => simp [intOf]; omega
    · have HE := Lib.hid (show getA t.data.toList = (out, decide (0 < t.size)) by
        have e0 : t.data.toList.drop i = [] := List.drop_eq_nil_of_le (by rw [HSL.out]; omega)
        have h1 := HTX.out
        have h2 := HCU.out
        rw [e0, txt, rdB_nil] at h1
        rw [e0, rdB_nil] at h2
        have h3 := HNZ.out
        rw [List.take_of_length_le (by rw [HSL.out]; omega)] at h3
        have h4 : out = txt t.data.toList := by simpa using h1
        by_cases hz : t.size = 0
        · have : out.length = 0 := by omega
          rw [getA, if_neg (by rintro ⟨hk, _⟩; have := (okG_yes hk).1; rw [HSL.out] at this; omega), List.length_eq_zero_iff.1 this]
          simp [hz]
        · have hk : okG t.data.toList = true := by
            simp only [okG, HSL.out]
            simp only [Bool.and_eq_true, decide_eq_true_eq, Bool.not_eq_true', hz, hs, ne_eq, not_false_eq_true, true_and]
            cases hc : t.data.toList.contains 0 with
            | false => rfl
            | true => exact absurd rfl (h3 0 (by simpa using hc))
          rw [getA, if_pos ⟨hk, h2.symm⟩, h4]
          simp; omega)
      go_wp2_with (refine wpList_string_of_OB _ rfl 22 9 5 _ rfl w.heap.size _ _ rfl Tryz.underlying22 Tryz.underlying5 Tryz.underlying9 HO.out ?_)
      go_ret2
      refine ⟨?_, HB.out⟩
      rw [HE.out]
      simp
end Go.Proofs.YtcegpcggdcgjbaaGreatDoor
/- LessGet of the model. -/
namespace Go.Proofs.YtcegpcggdcgjbaaGreatDoor
open Go.ChangeShapes Go.WideShapes Go.ChangeAt Go.RowKit
theorem okG_of {t : List UInt8} (h1 : t.length ≠ 0) (h2 : t.length ≤ 605) (h3 : nzL t) : okG t = true := by
  simp only [okG, Bool.and_eq_true, decide_eq_true_eq, Bool.not_eq_true']
  refine ⟨h1, h2, ?_⟩
  cases hc : t.contains 0 with
  | false => rfl
  | true => exact absurd rfl (h3 0 (by simpa using hc))
set_option maxRecDepth 100000 in
set_option maxHeartbeats 8000000 in
theorem l6More_any (t : ByteArray) (w : World) (hs : t.size ≤ 605) :
    Calls Tryz.prog 153 #[.string t] w fun e w' => e = .returned (.tuple #[.string ⟨(lgetA t.data.toList).1.toArray⟩, .bool (lgetA t.data.toList).2]) ∧ Below w.heap.size w w' := by
  obtain ⟨i0, hi, hz0, hz1, hz2⟩ := info_parts info_u8
  have HI := Lib.hid hi
  have HZ0 := Lib.hid hz0
  have HZ1 := Lib.hid hz1
  have HZ2 := Lib.hid hz2
  have HSL := Lib.hid (size_list t)
  clear hi hz0 hz1 hz2
  go_enter Tryz.func153, Tryz.ntmps153
  go_wp2
  go_loopw [4, 5, 6, 7, 8] (fun v i _ _ _ wr => ∃ (k : Nat) (out : List UInt8), k ≤ t.size ∧ i = .int .i64 k ∧ out.length ≤ k ∧ nzL (t.data.toList.take k) ∧ out ++ txt (t.data.toList.drop k) = txt t.data.toList ∧ (rdB (t.data.toList.drop k)).2 = (rdB t.data.toList).2 ∧ OB 5 wr w.heap.size v out ∧ Below w.heap.size w wr) (fun _ i _ _ _ _ => t.size - (intOf i).toNat)
  case atStart => exact ⟨0, [], by omega, rfl, by simp, by simp [nzL], by simp, by simp, .inr ⟨w.heap.size, 0, #[], (0, 0), rfl, Nat.le_refl _, heap_alloc_new w _, .inl rfl, Nat.le_refl _, by simp [maxLen], rfl, rfl⟩, (Below.refl _ _).alloc (Nat.le_refl _) _⟩
  case round =>
    obtain ⟨i, out, hi, rfl, hol, hnz, htx, hcu, hown, hb⟩ := hrel
    have HNZ := Lib.hid hnz
    have HTX := Lib.hid htx
    have HCU := Lib.hid hcu
    have HO := Lib.hid hown
    have HB := Lib.hid hb
    clear hnz htx hcu hown hb
    by_cases hlt : i < t.size
    · obtain ⟨n, hn⟩ : ∃ n, n = t[i].toNat := ⟨_, rfl⟩
      have hn255 : n ≤ 255 := by have := t[i].toNat_lt; omega
      have hni : (t[i].toNat : Int) = (n : Int) := by omega
      have HHD := Lib.hid (show hdN (t.data.toList.drop i) = n by rw [hd_drop t i hlt, hn])
      have HN := Lib.hid hn
      obtain ⟨q, hq⟩ : ∃ q, q = i + n := ⟨_, rfl⟩
      have hqi : (i : Int) + (n : Int) = (q : Int) := by omega
      have hqw : IntKind.i64.wrap (q : Int) = (q : Int) := by rw [IntKind.wrap_i64]; omega
      have HQ := Lib.hid hq
      clear hn hq
      by_cases hgt : t.size < q
      · have hgi : (t.size : Int) < (q : Int) := by omega
        have hn0 : ((n : Int) == 0) = false := beq_eq_false_iff_ne.2 (by omega)
        go_wp2
        go_loopw [4, 8] (fun v k wr' => ∃ m : Nat, i ≤ m ∧ m ≤ t.size ∧ k = .int .i64 (m : Int) ∧ nzL (t.data.toList.take m) ∧ OB 5 wr' w.heap.size v (out ++ (t.data.toList.drop (i + 1)).take (m - (i + 1))) ∧ Below w.heap.size w wr') (fun _ k _ => t.size - (intOf k).toNat)
        case atStart => exact ⟨i, Nat.le_refl _, by omega, rfl, HNZ.out, by rw [Nat.sub_eq_zero_of_le (by omega)]; simpa using HO.out, HB.out⟩
        case round =>
          clear HO HB HNZ
          obtain ⟨m, hm0, hm, rfl, hnzm, hownm, hbm⟩ := hrel
          have HNM := Lib.hid hnzm
          have HOM := Lib.hid hownm
          have HBM := Lib.hid hbm
          have hszm := hbm.size
          clear hnzm hownm hbm
          have hlm : (out ++ (t.data.toList.drop (i + 1)).take (m - (i + 1))).length ≤ m := by
            rw [List.length_append, List.length_take]; omega
          obtain ⟨outm, hom⟩ : ∃ outm, outm = out ++ (t.data.toList.drop (i + 1)).take (m - (i + 1)) := ⟨_, rfl⟩
          rw [← hom] at HOM hlm
          have HOE := Lib.hid hom
          clear hom
          by_cases hmn : m < t.size
          · have hjl : m < t.size := by omega
            by_cases hz : t[m] = 0
            · have HG := Lib.hid (lgetA_zero (t := t.data.toList) (by rw [← hz]; exact mem_byte t m hjl))
              have hb0 : ((t[m].toNat : Int) == 0) = true := by rw [hz]; rfl
              clear hz
              go_wp2
              go_ret2
              exact ⟨by rw [HG.out]; rfl, HBM.out⟩
            · have hb0 : ((t[m].toNat : Int) == 0) = false := by
                have : t[m].toNat ≠ 0 := fun e => hz (by apply UInt8.toNat_inj.1; exact e)
                exact beq_eq_false_iff_ne.2 (by omega)
              have HNM1 := Lib.hid (nz_snoc HNM.out hjl hz)
              clear hz
              by_cases hmi : i < m
              · have HSn := Lib.hid (show out ++ (t.data.toList.drop (i + 1)).take (m + 1 - (i + 1)) = outm ++ [t[m]] by
                  obtain ⟨d, hd⟩ : ∃ d, m = i + 1 + d := ⟨m - (i + 1), by omega⟩
                  subst hd
                  rw [HOE.out, show i + 1 + d + 1 - (i + 1) = d + 1 by omega, show i + 1 + d - (i + 1) = d by omega, take_snoc_drop t (i + 1) d hjl, List.append_assoc])
                go_wp2_with (at_builtin; refine wpList_append_OB _ rfl _ _ 22 rfl w.heap.size 5 i0 Tryz.underlying22 HI.out HZ0.out HZ1.out HZ2.out _ outm rfl (HOM.out.alloc _) ⟨wr.heap.size, 0, none⟩ 1 1 [t[m]] rfl rfl (one_new wr _ _ _ rfl) (by simp; omega) (by simp; omega) ?_; intro v2 w2 hown2 hg2)
                go_roundw
                case rel => exact ⟨m + 1, by omega, by omega, by go_num, HNM1.out, by rw [HSn.out]; exact hown2, (HBM.out.alloc HBM.out.size _).grown hg2 (by simp; omega) (fun k hk => (HOM.out.lt k hk).1)⟩
                case measure => simp [intOf]; omega
              · have hmi2 : m = i := by omega
                have HSn := Lib.hid (show out ++ (t.data.toList.drop (i + 1)).take (m + 1 - (i + 1)) = outm by
                  rw [HOE.out, hmi2, show i + 1 - (i + 1) = 0 by omega, show i - (i + 1) = 0 by omega])
                go_wp2
                go_roundw
                case rel => exact ⟨m + 1, by omega, by omega, by go_num, HNM1.out, by rw [HSn.out]; exact HOM.out, HBM.out⟩
                case measure => simp [intOf]; omega
          · have hmE : m = t.size := by omega
            have HLg := Lib.hid (show lgetA t.data.toList = (outm ++ [t[i]], true) by
              have h3 := HNM.out
              rw [hmE, List.take_of_length_le (by rw [HSL.out]; omega)] at h3
              have hk : okG t.data.toList = true := okG_of (by rw [HSL.out]; omega) (by rw [HSL.out]; exact hs) h3
              have hr : rdB (t.data.toList.drop i) = ([], t.data.toList.drop i) := rdB_cut (.inr (by rw [HHD.out, List.length_drop, HSL.out]; omega))
              have h1 := HTX.out
              have h2 := HCU.out
              rw [txt, hr] at h1
              rw [hr] at h2
              have h4 : txt t.data.toList = out := by rw [← h1]; simp
              have h5 : t.data.toList.drop i = t[i] :: t.data.toList.drop (i + 1) := by rw [List.drop_eq_getElem_cons (by simpa using hlt)]; rfl
              rw [lgetA, if_pos hk, h4, ← h2, h5, HOE.out, hmE]
              simp [List.take_of_length_le])
            have HOA := Lib.hid (show byteV t[i] = .int .u8 (n : Int) from val_int hni)
            subst hmE
            have hlm2 : outm.length + 1 ≤ 140737488355328 := by omega
            go_wp2_with (first | (at_builtin; refine wpList_append_OB _ rfl _ _ 22 rfl w.heap.size 5 i0 Tryz.underlying22 HI.out HZ0.out HZ1.out HZ2.out _ outm rfl (HOM.out.alloc _) ⟨wr.heap.size, 0, none⟩ 1 1 [t[i]] rfl rfl (one_new wr _ _ _ HOA.out) (by simp; omega) (by simp; omega) ?_; intro v2 w2 hown2 hg2) | (refine wpList_string_of_OB _ rfl 22 9 5 _ rfl w.heap.size _ (outm ++ [t[i]]) rfl Tryz.underlying22 Tryz.underlying5 Tryz.underlying9 hown2 ?_))
            go_ret2
            exact ⟨by rw [HLg.out]; rfl, (HBM.out.alloc HBM.out.size _).grown hg2 (by simp; omega) (fun k hk => (HOM.out.lt k hk).1)⟩
      · have hgi : ¬ (t.size : Int) < (q : Int) := by omega
        have hql : q ≤ t.size := by omega
        go_wp2
        go_loopw [4, 8] (fun v k wr' => ∃ m : Nat, i ≤ m ∧ m ≤ q ∧ k = .int .i64 (m : Int) ∧ nzL (t.data.toList.take m) ∧ OB 5 wr' w.heap.size v (out ++ (t.data.toList.drop (i + 1)).take (m - (i + 1))) ∧ Below w.heap.size w wr') (fun _ k _ => q - (intOf k).toNat)
        case atStart => exact ⟨i, Nat.le_refl _, by omega, rfl, HNZ.out, by rw [Nat.sub_eq_zero_of_le (by omega)]; simpa using HO.out, HB.out⟩
        case round =>
          clear HO HB HNZ
          obtain ⟨m, hm0, hm, rfl, hnzm, hownm, hbm⟩ := hrel
          have HNM := Lib.hid hnzm
          have HOM := Lib.hid hownm
          have HBM := Lib.hid hbm
          have hszm := hbm.size
          clear hnzm hownm hbm
          have hlm : (out ++ (t.data.toList.drop (i + 1)).take (m - (i + 1))).length ≤ m := by
            rw [List.length_append, List.length_take]; omega
          obtain ⟨outm, hom⟩ : ∃ outm, outm = out ++ (t.data.toList.drop (i + 1)).take (m - (i + 1)) := ⟨_, rfl⟩
          rw [← hom] at HOM hlm
          have HOE := Lib.hid hom
          clear hom
          by_cases hmn : m < q
          · have hjl : m < t.size := by omega
            by_cases hz : t[m] = 0
            · have HG := Lib.hid (lgetA_zero (t := t.data.toList) (by rw [← hz]; exact mem_byte t m hjl))
              have hb0 : ((t[m].toNat : Int) == 0) = true := by rw [hz]; rfl
              clear hz
              go_wp2
              go_ret2
              exact ⟨by rw [HG.out]; rfl, HBM.out⟩
            · have hb0 : ((t[m].toNat : Int) == 0) = false := by
                have : t[m].toNat ≠ 0 := fun e => hz (by apply UInt8.toNat_inj.1; exact e)
                exact beq_eq_false_iff_ne.2 (by omega)
              have HNM1 := Lib.hid (nz_snoc HNM.out hjl hz)
              clear hz
              by_cases hmi : i < m
              · have HSn := Lib.hid (show out ++ (t.data.toList.drop (i + 1)).take (m + 1 - (i + 1)) = outm ++ [t[m]] by
                  obtain ⟨d, hd⟩ : ∃ d, m = i + 1 + d := ⟨m - (i + 1), by omega⟩
                  subst hd
                  rw [HOE.out, show i + 1 + d + 1 - (i + 1) = d + 1 by omega, show i + 1 + d - (i + 1) = d by omega, take_snoc_drop t (i + 1) d hjl, List.append_assoc])
                go_wp2_with (at_builtin; refine wpList_append_OB _ rfl _ _ 22 rfl w.heap.size 5 i0 Tryz.underlying22 HI.out HZ0.out HZ1.out HZ2.out _ outm rfl (HOM.out.alloc _) ⟨wr.heap.size, 0, none⟩ 1 1 [t[m]] rfl rfl (one_new wr _ _ _ rfl) (by simp; omega) (by simp; omega) ?_; intro v2 w2 hown2 hg2)
                go_roundw
                case rel => exact ⟨m + 1, by omega, by omega, by go_num, HNM1.out, by rw [HSn.out]; exact hown2, (HBM.out.alloc HBM.out.size _).grown hg2 (by simp; omega) (fun k hk => (HOM.out.lt k hk).1)⟩
                case measure => simp [intOf]; omega
              · have hmi2 : m = i := by omega
                have HSn := Lib.hid (show out ++ (t.data.toList.drop (i + 1)).take (m + 1 - (i + 1)) = outm by
                  rw [HOE.out, hmi2, show i + 1 - (i + 1) = 0 by omega, show i - (i + 1) = 0 by omega])
                go_wp2
                go_roundw
                case rel => exact ⟨m + 1, by omega, by omega, by go_num, HNM1.out, by rw [HSn.out]; exact HOM.out, HBM.out⟩
                case measure => simp [intOf]; omega
          · have hmE : m = q := by omega
            by_cases h0 : n = 0
            · have HG := Lib.hid (lgetA_zero (t := t.data.toList) (by
                have e : t[i] = 0 := by apply UInt8.toNat_inj.1; rw [← HN.out, h0]; rfl
                rw [← e]; exact mem_byte t i hlt))
              have hb0 : ((n : Int) == 0) = true := by rw [h0]; rfl
              clear h0
              go_wp2
              go_ret2
              exact ⟨by rw [HG.out]; rfl, HBM.out⟩
            have HBlk := Lib.hid (txB_blk (t.data.toList.drop i) n (by omega) (by rw [List.length_drop, HSL.out]; omega))
            have HRD := Lib.hid (show rdB (t.data.toList.drop i) = (((t.data.toList.drop i).take n, decide (n < (t.data.toList.drop i).length)) :: (rdB (t.data.toList.drop (i + n))).1, (rdB (t.data.toList.drop (i + n))).2) by
              rw [rdB_more (t := t.data.toList.drop i) (by rw [HHD.out]; omega) (by rw [HHD.out, List.length_drop, HSL.out]; omega), HHD.out, List.drop_drop])
            have HTx := Lib.hid (show outm ++ ((if i + n < t.size ∧ n < 255 then [0] else []) ++ txt (t.data.toList.drop (i + n))) = txt t.data.toList by
              rw [← HTX.out, HOE.out, hmE, show q - (i + 1) = n - 1 by omega]
              have e1 : txt (t.data.toList.drop i) = txB ((t.data.toList.drop i).take n, decide (n < (t.data.toList.drop i).length)) ++ txt (t.data.toList.drop (i + n)) := by
                rw [txt, HRD.out, List.flatMap_cons]; rfl
              rw [e1, HBlk.out, List.drop_drop, List.length_drop, HSL.out]
              have e2 : (n < t.size - i ∧ n < 255) ↔ (i + n < t.size ∧ n < 255) := by omega
              simp only [e2, List.append_assoc])
            have HCn := Lib.hid (show (rdB (t.data.toList.drop (i + n))).2 = (rdB t.data.toList).2 by rw [← HCU.out, HRD.out])
            have HNn := Lib.hid (show nzL (t.data.toList.take q) by rw [← hmE]; exact HNM.out)
            rw [← HQ.out] at HTx HCn
            have hq0 : i < q := by omega
            have hb0 : ((n : Int) == 0) = false := beq_eq_false_iff_ne.2 (by omega)
            have hlmq : outm.length + 1 ≤ q := by
              have h := HOE.out
              rw [h, List.length_append, List.length_take]; omega
            subst hmE
            clear hmn h0 hm hm0
            by_cases h255 : n < 255
            · by_cases hqs : m < t.size
              · rw [if_pos ⟨hqs, h255⟩] at HTx
                go_wp2_with (at_builtin; refine wpList_append_OB _ rfl _ _ 22 rfl w.heap.size 5 i0 Tryz.underlying22 HI.out HZ0.out HZ1.out HZ2.out _ outm rfl (HOM.out.alloc _) ⟨wr.heap.size, 0, none⟩ 1 1 [0] rfl rfl (one_new wr _ _ _ rfl) (by simp; omega) (by simp; omega) ?_; intro v2 w2 hown2 hg2)
                go_roundw
                case rel => exact ⟨m, outm ++ [0], hql, rfl, by simp; omega, HNn.out, by rw [List.append_assoc]; exact HTx.out, HCn.out, hown2, (HBM.out.alloc HBM.out.size _).grown hg2 (by simp; omega) (fun k hk => (HOM.out.lt k hk).1)⟩
                case measure => simp [intOf]; omega
              · rw [if_neg (by omega)] at HTx
                go_wp2
                go_roundw
                case rel => exact ⟨m, outm, hql, rfl, by omega, HNn.out, HTx.out, HCn.out, HOM.out, HBM.out⟩
                case measure => simp [intOf]; omega
            · rw [if_neg (by omega)] at HTx
              go_wp2
              go_roundw
              case rel => exact ⟨m, outm, hql, rfl, by omega, HNn.out, HTx.out, HCn.out, HOM.out, HBM.out⟩
              case measure => simp [intOf]; omega
    · have HE := Lib.hid (show lgetA t.data.toList = (out, decide (0 < t.size)) by
        have e0 : t.data.toList.drop i = [] := List.drop_eq_nil_of_le (by rw [HSL.out]; omega)
        have h1 := HTX.out
        have h2 := HCU.out
        rw [e0, txt, rdB_nil] at h1
        rw [e0, rdB_nil] at h2
        have h3 := HNZ.out
        rw [List.take_of_length_le (by rw [HSL.out]; omega)] at h3
        have h4 : out = txt t.data.toList := by simpa using h1
        by_cases hz : t.size = 0
        · have : out.length = 0 := by omega
          rw [lgetA, if_neg (by intro hk; have := (okG_yes hk).1; rw [HSL.out] at this; omega), List.length_eq_zero_iff.1 this]
          simp [hz]
        · have hk : okG t.data.toList = true := okG_of (by rw [HSL.out]; exact hz) (by rw [HSL.out]; exact hs) h3
          rw [lgetA, if_pos hk, ← h2, h4]
          simp; omega)
      go_wp2_with (refine wpList_string_of_OB _ rfl 22 9 5 _ rfl w.heap.size _ _ rfl Tryz.underlying22 Tryz.underlying5 Tryz.underlying9 HO.out ?_)
      go_ret2
      refine ⟨?_, HB.out⟩
      rw [HE.out]
      simp
end Go.Proofs.YtcegpcggdcgjbaaGreatDoor
/- Plain facts on blocks written and read back. -/
namespace Go.Proofs.YtcegpcggdcgjbaaGreatDoor
open Go.ChangeShapes Go.WideShapes Go.ChangeAt Go.RowKit
theorem ofNat_len {k : Nat} (h : k ≤ 254) : (UInt8.ofNat (k + 1)).toNat = k + 1 := by rw [UInt8.toNat_ofNat']; omega
theorem hdN_putB {p : List UInt8} (h : p.length ≤ 254) (R : List UInt8) : hdN (putB p ++ R) = p.length + 1 := ofNat_len h
theorem rdB_put {p : List UInt8} (h : p.length ≤ 254) (R : List UInt8) : rdB (putB p ++ R) = ((putB p, decide (0 < R.length)) :: (rdB R).1, (rdB R).2) := by
  have hl : (putB p ++ R).length = p.length + 1 + R.length := by rw [List.length_append, putB_len]
  rw [rdB_more (by rw [hdN_putB h]; omega) (by rw [hdN_putB h, hl]; omega), hdN_putB h]
  have e1 : (putB p ++ R).take (p.length + 1) = putB p := List.take_left' (putB_len p)
  have e2 : (putB p ++ R).drop (p.length + 1) = R := List.drop_left' (putB_len p)
  have e3 : decide (p.length + 1 < (putB p ++ R).length) = decide (0 < R.length) := by rw [hl, decide_eq_decide]; omega
  rw [e1, e2, e3]
/-- what blocks tell that are not the last -/
def preT (ps : List (List UInt8)) : List UInt8 := ps.flatMap fun p => txB (putB p, true)
theorem txB_true (p : List UInt8) : txB (putB p, true) = if p.length ≤ 253 then p ++ [0] else p := by
  unfold txB
  rw [putB_len]
  show p ++ _ = _
  by_cases h : p.length ≤ 253
  · rw [if_pos h, if_pos ⟨rfl, by omega⟩]
  · rw [if_neg h, if_neg (by rintro ⟨_, h2⟩; exact h (by simpa using h2)), List.append_nil]
theorem txB_false (p : List UInt8) : txB (putB p, false) = p := by
  unfold txB; simp [putB]
theorem preT_cons (p : List UInt8) (ps : List (List UInt8)) : preT (p :: ps) = txB (putB p, true) ++ preT ps := by rw [preT, List.flatMap_cons, preT]
theorem rd_many {ps : List (List UInt8)} (h : ∀ p ∈ ps, p.length ≤ 254) {X : List UInt8} (hX : X ≠ []) : txt (ps.flatMap putB ++ X) = preT ps ++ txt X ∧ (rdB (ps.flatMap putB ++ X)).2 = (rdB X).2 := by
  induction ps with
  | nil => simp [preT]
  | cons p ps ih =>
    obtain ⟨i1, i2⟩ := ih (fun q hq => h q (by simp [hq]))
    have hp := h p (by simp)
    have hpos : 0 < (ps.flatMap putB ++ X).length := by rw [List.length_append]; have := List.length_pos_iff.2 hX; omega
    rw [List.flatMap_cons, List.append_assoc, txt, rdB_put hp]
    rw [decide_eq_true hpos]
    refine ⟨?_, i2⟩
    rw [List.flatMap_cons]
    show _ ++ txt _ = _
    rw [i1, preT_cons, List.append_assoc]
/-- a text is what its blocks tell -/
theorem pcs_text (l : List UInt8) : ∃ init q, pcs l = init ++ [q] ∧ l = preT init ++ q ∧ ∀ p ∈ init ++ [q], nz p ∧ p.length ≤ 254 := by
  induction hn : l.length using Nat.strongRecOn generalizing l with
  | _ n ih =>
    rcases pcs_view l with ⟨h1, h2, h3⟩ | ⟨p, r, h1, h2, h3, h4⟩ | ⟨p, r, h1, h2, h3, h4, h5⟩
    · exact ⟨[], l, h3, by simp [preT], fun p hp => by simp at hp; subst hp; exact ⟨h1, h2⟩⟩
    · have hl : l.length = p.length + (r.length + 1) := by rw [h3]; simp
      obtain ⟨init, q, e1, e2, e3⟩ := ih r.length (by omega) r rfl
      refine ⟨p :: init, q, by rw [h4, e1]; rfl, ?_, ?_⟩
      · rw [preT_cons, txB_true, if_pos h2, h3, List.append_assoc, List.append_assoc, ← e2]; rfl
      · intro x hx
        rw [List.cons_append, List.mem_cons] at hx
        rcases hx with hx | hx
        · subst hx; exact ⟨h1, by omega⟩
        · exact e3 x hx
    · have hl : l.length = p.length + r.length := by rw [h4]; simp
      obtain ⟨init, q, e1, e2, e3⟩ := ih r.length (by omega) r rfl
      refine ⟨p :: init, q, by rw [h5, e1]; rfl, ?_, ?_⟩
      · rw [preT_cons, txB_true, if_neg (by omega), h4, List.append_assoc, ← e2]
      · intro x hx
        rw [List.cons_append, List.mem_cons] at hx
        rcases hx with hx | hx
        · subst hx; exact ⟨h1, by omega⟩
        · exact e3 x hx
theorem putB_nz {p : List UInt8} (h : nz p) (hl : p.length ≤ 254) : nzL (putB p) := by
  intro x hx
  rw [putB, List.mem_cons] at hx
  rcases hx with hx | hx
  · intro e
    have := ofNat_len hl
    rw [← hx, e] at this
    simp at this
  · exact h x hx
theorem flat_nz {ps : List (List UInt8)} (h : ∀ p ∈ ps, nz p ∧ p.length ≤ 254) : nzL (ps.flatMap putB) := by
  intro x hx
  simp only [List.mem_flatMap] at hx
  obtain ⟨p, hp, hx⟩ := hx
  exact putB_nz (h p hp).1 (h p hp).2 x hx
theorem cob_nz (l : List UInt8) : nzL (cob l) := by
  obtain ⟨init, q, e1, _, e3⟩ := pcs_text l
  rw [cob, e1]; exact flat_nz e3
theorem rd_last (q : List UInt8) (h : q.length ≤ 254) : txt (putB q) = q ∧ (rdB (putB q)).2 = [] := by
  have e := rdB_put h []
  rw [List.append_nil, rdB_nil] at e
  rw [txt, e]
  exact ⟨by simp [txB_false], rfl⟩
theorem cob_read (l : List UInt8) : txt (cob l) = l ∧ (rdB (cob l)).2 = [] := by
  obtain ⟨init, q, e1, e2, e3⟩ := pcs_text l
  have hq := (e3 q (by simp)).2
  have hc : cob l = init.flatMap putB ++ putB q := by rw [cob, e1, List.flatMap_append]; simp
  obtain ⟨r1, r2⟩ := rd_many (ps := init) (X := putB q) (fun p hp => (e3 p (by simp [hp])).2) (by simp [putB])
  obtain ⟨s1, s2⟩ := rd_last q hq
  rw [hc, r1, r2, s1, s2]
  exact ⟨e2.symm, rfl⟩
/-- how long blocks are -/
theorem cob_size (l : List UInt8) : l.length + 1 ≤ (cob l).length ∧ (cob l).length ≤ l.length + 1 + l.length / 254 := by
  induction hn : l.length using Nat.strongRecOn generalizing l with
  | _ n ih =>
    rcases pcs_view l with ⟨h1, h2, h3⟩ | ⟨p, r, h1, h2, h3, h4⟩ | ⟨p, r, h1, h2, h3, h4, h5⟩
    · rw [cob, h3]; simp [putB_len]; omega
    · have hl : l.length = p.length + (r.length + 1) := by rw [h3]; simp
      have hc : (cob l).length = p.length + 1 + (cob r).length := by rw [cob, h4, List.flatMap_cons, List.length_append, putB_len]; rfl
      have := ih r.length (by omega) r rfl
      rw [hc]; omega
    · have hl : l.length = p.length + r.length := by rw [h4]; simp
      have hc : (cob l).length = p.length + 1 + (cob r).length := by rw [cob, h5, List.flatMap_cons, List.length_append, putB_len]; rfl
      have := ih r.length (by omega) r rfl
      rw [hc]; omega
theorem cob_ok {l : List UInt8} (h : l.length ≤ 600) : okG (cob l) = true := by
  have := cob_size l
  exact okG_of (by omega) (by omega) (cob_nz l)
theorem getA_cob {l : List UInt8} (h : l.length ≤ 600) : getA (cob l) = (l, true) := by
  obtain ⟨h1, h2⟩ := cob_read l
  rw [getA, if_pos ⟨cob_ok h, h2⟩, h1]
end Go.Proofs.YtcegpcggdcgjbaaGreatDoor
/- Plain facts on blocks read and written again, and on blocks with a byte less. -/
namespace Go.Proofs.YtcegpcggdcgjbaaGreatDoor
open Go.ChangeShapes Go.WideShapes Go.ChangeAt Go.RowKit
/-- how a text of blocks without a nought begins -/
theorem rd_view {t : List UInt8} (h : nzL t) (hne : t ≠ []) : (t.length < hdN t ∧ rdB t = ([], t)) ∨ ∃ b t', nz b ∧ b.length ≤ 254 ∧ t = putB b ++ t' ∧ nzL t' ∧ rdB t = ((putB b, decide (0 < t'.length)) :: (rdB t').1, (rdB t').2) := by
  have h0 := hdN_pos h hne
  rcases Nat.lt_or_ge t.length (hdN t) with h1 | h1
  · exact .inl ⟨h1, rdB_cut (.inr h1)⟩
  · right
    cases t with
    | nil => exact absurd rfl hne
    | cons c r =>
      have hc : hdN (c :: r) = c.toNat := rfl
      have hc255 : c.toNat < 256 := c.toNat_lt
      rw [hc] at h0 h1
      simp only [List.length_cons] at h1
      have hb : (r.take (c.toNat - 1)).length = c.toNat - 1 := by rw [List.length_take]; omega
      have hp : putB (r.take (c.toNat - 1)) = c :: r.take (c.toNat - 1) := by
        rw [putB, hb]; congr 1
        apply UInt8.toNat_inj.1
        rw [UInt8.toNat_ofNat']; omega
      have ht : c :: r = putB (r.take (c.toNat - 1)) ++ r.drop (c.toNat - 1) := by rw [hp, List.cons_append, List.take_append_drop]
      have hb2 : (r.take (c.toNat - 1)).length ≤ 254 := by omega
      refine ⟨r.take (c.toNat - 1), r.drop (c.toNat - 1), fun x hx => h x (List.mem_cons_of_mem _ (List.mem_of_mem_take hx)), hb2, ht, fun x hx => h x (List.mem_cons_of_mem _ (List.mem_of_mem_drop hx)), ?_⟩
      rw [ht, rdB_put hb2]
theorem txt_put {b t' : List UInt8} (hb : b.length ≤ 254) (h : t' ≠ []) : txt (putB b ++ t') = (if b.length ≤ 253 then b ++ [0] else b) ++ txt t' := by
  rw [txt, rdB_put hb, decide_eq_true (List.length_pos_iff.2 h), List.flatMap_cons, txB_true]; rfl
/-- blocks that are read are written in no more -/
theorem cob_again {t : List UInt8} (h : nzL t) (hne : t ≠ []) (hcut : (rdB t).2 = []) : (txt t).length + 1 ≤ t.length ∧ (cob (txt t)).length ≤ t.length := by
  induction hn : t.length using Nat.strongRecOn generalizing t with
  | _ n ih =>
    rcases rd_view h hne with ⟨_, h1⟩ | ⟨b, t', h1, h2, h3, h4, h5⟩
    · rw [h1] at hcut; exact absurd hcut hne
    · have hl : t.length = b.length + 1 + t'.length := by rw [h3, List.length_append, putB_len]
      by_cases ht' : t' = []
      · have e := rd_last b h2
        rw [h3, ht', List.append_nil, e.1, cob, pcs_nz h1 h2]
        rw [ht', List.length_nil] at hl
        simp only [List.flatMap_cons, List.flatMap_nil, List.append_nil, putB_len]
        omega
      · have hc' : (rdB t').2 = [] := by rw [h5] at hcut; exact hcut
        have hi := ih t'.length (by omega) h4 ht' hc' rfl
        rw [h3, txt_put h2 ht']
        by_cases h253 : b.length ≤ 253
        · rw [if_pos h253, show b ++ [0] ++ txt t' = b ++ 0 :: txt t' by simp, cob, pcs_zero _ h1 h253, List.flatMap_cons]
          have : ((pcs (txt t')).flatMap putB).length = (cob (txt t')).length := rfl
          simp only [List.length_append, List.length_cons, putB_len]
          omega
        · rw [if_neg h253]
          have hb : b.length = 254 := by omega
          by_cases hx : txt t' = []
          · rw [hx, List.append_nil, cob, pcs_nz h1 h2]
            simp only [List.flatMap_cons, List.flatMap_nil, List.append_nil, putB_len]
            omega
          · rw [cob, pcs_full h1 hb hx, List.flatMap_cons]
            have : ((pcs (txt t')).flatMap putB).length = (cob (txt t')).length := rfl
            simp only [List.length_append, putB_len]
            omega
def lessB (q : List UInt8) : List UInt8 := if 0 < q.length ∧ q.length + 1 ≤ (q.getD (q.length - 1) 0).toNat then q.getD (q.length - 1) 0 :: q.take (q.length - 1) else putB q
theorem less_eq {l : List UInt8} {init : List (List UInt8)} {q : List UInt8} (h : pcs l = init ++ [q]) (hq : q.length ≤ 254) : less l = init.flatMap putB ++ lessB q := by
  have hla : laL l = (init.flatMap putB).length := by rw [laL, h, List.dropLast_concat]
  have hc : cob l = init.flatMap putB ++ putB q := by rw [cob, h, List.flatMap_append]; simp
  rw [less, lessW, hla, hc]
  generalize init.flatMap putB = a
  have hl : (a ++ putB q).length = a.length + q.length + 1 := by rw [List.length_append, putB_len]; omega
  have e0 : (a ++ putB q).getD a.length 0 = UInt8.ofNat (q.length + 1) := by simp [putB, List.getD]
  have e1 : (a ++ putB q).length - 1 = a.length + q.length := by omega
  rw [e0, e1, ofNat_len hq]
  by_cases hp : 0 < q.length
  · obtain ⟨m, hm⟩ : ∃ m, q.length = m + 1 := ⟨q.length - 1, by omega⟩
    have e2 : (a ++ putB q).getD (a.length + q.length) 0 = q.getD (q.length - 1) 0 := by
      rw [hm, Nat.add_sub_cancel, List.getD_eq_getElem?_getD, List.getD_eq_getElem?_getD, List.getElem?_append_right (by omega), show a.length + (m + 1) - a.length = m + 1 by omega, putB, List.getElem?_cons_succ]
    rw [e2, lessB]
    by_cases hc2 : q.length + 1 ≤ (q.getD (q.length - 1) 0).toNat
    · rw [if_pos ⟨by omega, hc2⟩, if_pos ⟨hp, hc2⟩]
      generalize q.getD (q.length - 1) 0 = c
      rw [putB, List.set_append_right _ _ (Nat.le_refl _), Nat.sub_self, List.set_cons_zero, List.take_append, List.take_of_length_le (by omega), hm]
      congr 1
      rw [show a.length + (m + 1) - a.length = m + 1 by omega, List.take_succ_cons, Nat.add_sub_cancel]
    · rw [if_neg (by rintro ⟨_, h⟩; exact hc2 h), if_neg (by rintro ⟨_, h⟩; exact hc2 h)]
  · rw [if_neg (by omega), lessB, if_neg (by omega)]
theorem less_parts (l : List UInt8) : ∃ init q, pcs l = init ++ [q] ∧ l = preT init ++ q ∧ (∀ p ∈ init ++ [q], nz p ∧ p.length ≤ 254) ∧ less l = init.flatMap putB ++ lessB q ∧ cob l = init.flatMap putB ++ putB q := by
  obtain ⟨init, q, e1, e2, e3⟩ := pcs_text l
  exact ⟨init, q, e1, e2, e3, less_eq e1 (e3 q (by simp)).2, by rw [cob, e1, List.flatMap_append]; simp⟩
theorem lessB_cases {q : List UInt8} (hq : nz q) (hl : q.length ≤ 254) : nzL (lessB q) ∧ lessB q ≠ [] ∧ txt (lessB q) ++ (rdB (lessB q)).2.drop 1 ++ (rdB (lessB q)).2.take 1 = q ∧ ((lessB q).length = q.length ∨ lessB q = putB q) := by
  rw [lessB]
  split
  · rename_i h
    obtain ⟨h1, h2⟩ := h
    have hd : q.getD (q.length - 1) 0 = q[q.length - 1] := getD_at (by omega)
    have hq2 : q = q.take (q.length - 1) ++ [q.getD (q.length - 1) 0] := by
      rw [hd]
      have e := List.take_append_getElem (l := q) (i := q.length - 1) (by omega)
      rw [e, List.take_of_length_le (by omega)]
    have hlen : (q.getD (q.length - 1) 0 :: q.take (q.length - 1)).length = q.length := by rw [List.length_cons, List.length_take]; omega
    have hr : rdB (q.getD (q.length - 1) 0 :: q.take (q.length - 1)) = ([], q.getD (q.length - 1) 0 :: q.take (q.length - 1)) := rdB_cut (.inr (by rw [hlen]; show _ < (q.getD (q.length - 1) 0).toNat; omega))
    refine ⟨?_, by simp, ?_, .inl hlen⟩
    · intro x hx
      rw [List.mem_cons] at hx
      rcases hx with hx | hx
      · rw [hx, hd]; exact hq _ (List.getElem_mem _)
      · exact hq x (List.mem_of_mem_take hx)
    · rw [txt, hr]
      simp only [List.flatMap_nil, List.nil_append, List.drop_succ_cons, List.drop_zero, List.take_succ_cons, List.take_zero]
      exact hq2.symm
  · obtain ⟨r1, r2⟩ := rd_last q hl
    exact ⟨putB_nz hq hl, by simp [putB], by rw [r1, r2]; simp, .inr rfl⟩
theorem less_read (l : List UInt8) : nzL (less l) ∧ txt (less l) ++ (rdB (less l)).2.drop 1 ++ (rdB (less l)).2.take 1 = l ∧ ((cob l).length = (less l).length + 1 ∨ less l = cob l) := by
  obtain ⟨init, q, e1, e2, e3, e4, e5⟩ := less_parts l
  have hq := e3 q (by simp)
  obtain ⟨l1, l2, l3, l4⟩ := lessB_cases hq.1 hq.2
  obtain ⟨r1, r2⟩ := rd_many (ps := init) (X := lessB q) (fun p hp => (e3 p (by simp [hp])).2) l2
  rw [e4, e5]
  refine ⟨?_, ?_, ?_⟩
  · intro x hx
    rcases List.mem_append.1 hx with h | h
    · exact flat_nz (fun p hp => e3 p (by simp [hp])) x h
    · exact l1 x h
  · rw [r1, r2, List.append_assoc, List.append_assoc, ← List.append_assoc (txt (lessB q)), l3, ← e2]
  · rcases l4 with h | h
    · left; rw [List.length_append, List.length_append, putB_len, h]; omega
    · right; rw [h]
theorem less_size (l : List UInt8) : 1 ≤ (less l).length ∧ (less l).length ≤ (cob l).length ∧ (cob l).length ≤ (less l).length + 1 := by
  obtain ⟨init, q, e1, e2, e3, e4, e5⟩ := less_parts l
  have hq := e3 q (by simp)
  obtain ⟨l1, l2, l3, l4⟩ := lessB_cases hq.1 hq.2
  have h0 := List.length_pos_iff.2 l2
  rw [e4, e5]
  simp only [List.length_append, putB_len]
  rcases l4 with h | h
  · omega
  · rw [h, putB_len]; omega
theorem lgetA_less {l : List UInt8} (h : l.length ≤ 600) : lgetA (less l) = (l, true) := by
  obtain ⟨h1, h2, h3⟩ := less_read l
  have h4 := less_size l
  have h5 := cob_size l
  rw [lgetA, if_pos (okG_of (by omega) (by omega) h1), h2]
/-- what is read from blocks the last of which may be short is written in no more -/
theorem less_again {t : List UInt8} (h : nzL t) (hne : t ≠ []) : (less (txt t ++ (rdB t).2.drop 1 ++ (rdB t).2.take 1)).length ≤ t.length := by
  by_cases hcut : (rdB t).2 = []
  · rw [hcut]
    simp only [List.drop_nil, List.take_nil, List.append_nil]
    have h1 := (cob_again h hne hcut).2
    have h2 := (less_size (txt t)).2.1
    omega
  · induction hn : t.length using Nat.strongRecOn generalizing t with
    | _ n ih =>
      rcases rd_view h hne with ⟨h0, h1⟩ | ⟨b, t', h1, h2, h3, h4, h5⟩
      · cases t with
        | nil => exact absurd rfl hne
        | cons c r =>
          have hc255 : c.toNat < 256 := c.toNat_lt
          have hh : (c :: r).length < c.toNat := h0
          simp only [List.length_cons] at hh hn
          rw [txt, h1]
          simp only [List.flatMap_nil, List.nil_append, List.drop_succ_cons, List.drop_zero, List.take_succ_cons, List.take_zero]
          have hnz : nz (r ++ [c]) := by
            intro x hx
            rcases List.mem_append.1 hx with hx | hx
            · exact h x (List.mem_cons_of_mem _ hx)
            · simp at hx; subst hx; exact h x (by simp)
          have hl : (r ++ [c]).length = r.length + 1 := by simp
          have hp : pcs (r ++ [c]) = [] ++ [r ++ [c]] := pcs_nz hnz (by omega)
          rw [less_eq hp (by omega), List.flatMap_nil, List.nil_append, lessB, hl]
          have hg : (r ++ [c]).getD (r.length + 1 - 1) 0 = c := by simp [List.getD]
          rw [hg, if_pos ⟨by omega, by omega⟩, List.length_cons, List.length_take, hl]
          omega
      · have hl : t.length = b.length + 1 + t'.length := by rw [h3, List.length_append, putB_len]
        have hc' : (rdB t').2 = (rdB t).2 := by rw [h5]
        have ht' : t' ≠ [] := by intro e; rw [e, rdB_nil] at hc'; exact hcut hc'.symm
        have hi := ih t'.length (by omega) h4 ht' (by rw [hc']; exact hcut) rfl
        rw [hc'] at hi
        rw [h3, txt_put h2 ht', ← h3]
        generalize hS : (rdB t).2 = cut at *
        have hS' : txt t' ++ cut.drop 1 ++ cut.take 1 ≠ [] := by
          cases cut with
          | nil => exact absurd rfl hcut
          | cons x y => simp
        obtain ⟨init, q, e1, e2, e3, e4, e5⟩ := less_parts (txt t' ++ cut.drop 1 ++ cut.take 1)
        have hq := (e3 q (by simp)).2
        by_cases h253 : b.length ≤ 253
        · rw [if_pos h253]
          have e : b ++ [0] ++ txt t' ++ cut.drop 1 ++ cut.take 1 = b ++ 0 :: (txt t' ++ cut.drop 1 ++ cut.take 1) := by simp
          have hp : pcs (b ++ 0 :: (txt t' ++ cut.drop 1 ++ cut.take 1)) = (b :: init) ++ [q] := by rw [pcs_zero _ h1 h253, e1]; rfl
          rw [e, less_eq hp hq, List.flatMap_cons, List.append_assoc, ← e4, List.length_append, putB_len]
          omega
        · rw [if_neg h253]
          have e : b ++ txt t' ++ cut.drop 1 ++ cut.take 1 = b ++ (txt t' ++ cut.drop 1 ++ cut.take 1) := by simp
          have hp : pcs (b ++ (txt t' ++ cut.drop 1 ++ cut.take 1)) = (b :: init) ++ [q] := by rw [pcs_full h1 (by omega) hS', e1]; rfl
          rw [e, less_eq hp hq, List.flatMap_cons, List.append_assoc, ← e4, List.length_append, putB_len]
          omega
end Go.Proofs.YtcegpcggdcgjbaaGreatDoor
