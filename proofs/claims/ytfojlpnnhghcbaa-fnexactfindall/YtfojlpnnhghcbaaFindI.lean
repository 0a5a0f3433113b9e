/- What bytes between two ends come to, in the model: read back, and evaluated. -/
import Derived.Test.YtfojlpnnhghcbaaFindG
import Derived.Test.YtfojlpnnhghcbaaFEv
namespace Go.Proofs.Ytfojlpnnhghcbaa
open Go.ChangeShapes Go.WideShapes Go.ChangeAt Go.RowKit
theorem not_last {s : ByteArray} {k : Nat} (hk : k < s.size) (h5 : s.data.toList.getLast? ≠ some 125) (hc : s[k] = 125) : k + 1 < s.size := by
  rcases Nat.lt_or_ge (k + 1) s.size with h | h
  · exact h
  · exfalso
    apply h5
    rw [last_at s (by omega)]
    have e : s.size - 1 = k := by omega
    simp only [e, hc]
theorem no_flag {s : ByteArray} {k : Nat} (hk : k < s.size) (h6 : (126 : UInt8) ∉ s.data.toList) : s[k].toNat ≠ 126 := by
  intro e
  apply h6
  have h1 : s.data.toList[k]'(by rw [size_list]; exact hk) = s[k] := rfl
  have h2 : s[k] = 126 := UInt8.toNat_inj.1 e
  rw [← h2, ← h1]
  exact List.getElem_mem _
set_option maxRecDepth 100000 in
set_option maxHeartbeats 4000000 in
theorem l5Get_yes (m : Nat) (s : ByteArray) (w : World) (hm : m ≤ 4294967295) (hs : s.size ≤ 1200) (h6 : (126 : UInt8) ∉ s.data.toList) (h5 : s.data.toList.getLast? ≠ some 125) :
    Calls Try.prog 88 #[.int .i64 m, .string s] w fun e w' => e = .returned (.tuple #[.string ⟨(unR m s.data.toList).toArray⟩, .bool true]) ∧ Below w.heap.size w w' := by
  obtain ⟨i0, hi, hz0, hz1, hz2⟩ := info_parts info_u8
  have HI := Lib.hid hi
  have HZ0 := Lib.hid hz0
  have HZ1 := Lib.hid hz1
  have HZ2 := Lib.hid hz2
  have HSL := Lib.hid (size_list s)
  have H6 := Lib.hid h6
  have H5 := Lib.hid h5
  clear hi hz0 hz1 hz2 h6 h5
  go_enter Try.func88, Try.ntmps88
  go_wp2
  go_loopw [6, 7] (fun v i wr => ∃ (k : Nat) (out : List UInt8), k ≤ s.size ∧ i = .int .i64 k ∧ out.length ≤ k ∧ out ++ unR m (s.data.toList.drop k) = unR m s.data.toList ∧ OB 5 wr w.heap.size v out ∧ Below w.heap.size w wr) (fun _ i _ => s.size - (intOf i).toNat)
  case atStart => exact ⟨0, [], Nat.zero_le _, rfl, Nat.le_refl _, rfl, .inr ⟨w.heap.size, 0, #[], (0, 0), rfl, Nat.le_refl _, heap_alloc_new w _, .inl rfl, Nat.le_refl _, by simp [maxLen], rfl, rfl⟩, (Below.refl _ _).alloc (Nat.le_refl _) _⟩
  case round =>
    obtain ⟨k, out, hk, rfl, hol, hun, hown, hb⟩ := hrel
    have HO := Lib.hid hown
    have HB := Lib.hid hb
    have HUN := Lib.hid hun
    clear hown hb hun
    by_cases hlt : k < s.size
    · have HD := Lib.hid (drop_at s k hlt)
      have h126 := no_flag hlt H6.out
      have hb6 : ((s[k].toNat : Int) == 126) = false := beq_eq_false_iff_ne.2 (by omega)
      by_cases hc : s[k].toNat = 125
      · have hce : s[k] = 125 := by apply UInt8.toNat_inj.1; exact hc
        have hk1 := not_last hlt H5.out hce
        have hb5 : ((s[k].toNat : Int) == 125) = true := by rw [beq_iff_eq]; omega
        have h126b := no_flag hk1 H6.out
        have hb6b : ((s[k + 1].toNat : Int) == 126) = false := beq_eq_false_iff_ne.2 (by omega)
        have hx : bits .xor .u8 (s[k + 1].toNat : Int) 32 = ((s[k + 1] ^^^ 32).toNat : Int) := bits_xor_u8 s[k + 1] 32
        have hmp : mapB m s[k] = false := mapB_high (by omega)
        have HN := Lib.hid (show (out ++ [s[k + 1] ^^^ 32]) ++ unR m (s.data.toList.drop (k + 2)) = unR m s.data.toList by
          rw [← HUN.out, HD.out, drop_at s (k + 1) hk1, hce, unR_esc]; simp)
        have hll : out.length + [s[k + 1] ^^^ 32].length ≤ 140737488355328 := by simp; omega
        clear hc hce h126 h126b
        go_wp2_with fail
        refine (l5Mapped_any m s[k] wr hm).mono ?_
        rintro e w1 ⟨rfl, rfl⟩
        rw [hmp]
        go_wp2_with (at_builtin; refine wpList_append_OB _ rfl _ _ 22 rfl w.heap.size 5 i0 Try.underlying22 HI.out HZ0.out HZ1.out HZ2.out _ out rfl (HO.out.alloc _) ⟨wr.heap.size, 0, none⟩ 1 1 [s[k + 1] ^^^ 32] rfl rfl (one_new wr _ _ _ rfl) hll (by have := HB.out.size; simp; omega) ?_; intro v2 w2 hown2 hg2)
        go_roundw
        case rel => exact ⟨k + 2, out ++ [s[k + 1] ^^^ 32], by omega, by go_num, by simp; omega, HN.out, hown2, (HB.out.alloc HB.out.size _).grown hg2 (by have := HB.out.size; simp; omega) (fun k hk => (HO.out.lt k hk).1)⟩
        case measure => simp [intOf]; omega
      · have hce : s[k] ≠ 125 := fun e => hc (by rw [e]; rfl)
        have hb5 : ((s[k].toNat : Int) == 125) = false := beq_eq_false_iff_ne.2 (by omega)
        cases hmb : mapB m s[k] with
        | true =>
          have HN := Lib.hid (show out ++ unR m (s.data.toList.drop (k + 1)) = unR m s.data.toList by
            rw [← HUN.out, HD.out, unR_map _ hce hmb])
          clear hc hce h126
          go_wp2_with fail
          refine (l5Mapped_any m s[k] wr hm).mono ?_
          rintro e w1 ⟨rfl, rfl⟩
          rw [hmb]
          go_wp2
          go_roundw
          case rel => exact ⟨k + 1, out, by omega, by go_num, by omega, HN.out, HO.out, HB.out⟩
          case measure => simp [intOf]; omega
        | false =>
          have HN := Lib.hid (show (out ++ [s[k]]) ++ unR m (s.data.toList.drop (k + 1)) = unR m s.data.toList by
            rw [← HUN.out, HD.out, unR_own _ hce hmb]; simp)
          have hll : out.length + [s[k]].length ≤ 140737488355328 := by simp; omega
          clear hc hce h126
          go_wp2_with fail
          refine (l5Mapped_any m s[k] wr hm).mono ?_
          rintro e w1 ⟨rfl, rfl⟩
          rw [hmb]
          go_wp2_with (at_builtin; refine wpList_append_OB _ rfl _ _ 22 rfl w.heap.size 5 i0 Try.underlying22 HI.out HZ0.out HZ1.out HZ2.out _ out rfl (HO.out.alloc _) ⟨wr.heap.size, 0, none⟩ 1 1 [s[k]] rfl rfl (one_new wr _ _ _ rfl) hll (by have := HB.out.size; simp; omega) ?_; intro v2 w2 hown2 hg2)
          go_roundw
          case rel => exact ⟨k + 1, out ++ [s[k]], by omega, by go_num, by simp; omega, HN.out, hown2, (HB.out.alloc HB.out.size _).grown hg2 (by have := HB.out.size; simp; omega) (fun k hk => (HO.out.lt k hk).1)⟩
          case measure => simp [intOf]; omega
    · have HE := Lib.hid (show out = unR m s.data.toList by
        have h := HUN.out
        rw [List.drop_eq_nil_of_le (by rw [HSL.out]; omega)] at h
        simpa [unR] using h)
      go_wp2_with (refine wpList_string_of_OB _ rfl 22 9 5 _ rfl w.heap.size _ _ rfl Try.underlying22 Try.underlying5 Try.underlying9 HO.out ?_)
      go_ret2
      exact ⟨by rw [HE.out]; rfl, HB.out⟩
set_option maxHeartbeats 1000000 in
theorem l7Read_any (a b d m : Int) (s : ByteArray) (w : World) (hc : confB ⟨a, b, d, m⟩ = true) (hs : s.size ≤ 600) (h6 : endOf ⟨a, b, d, m⟩ ∉ s.data.toList) (h5 : a = 1 → s.data.toList.getLast? ≠ some 125) :
    Calls Try.prog 76 #[cfV a b d m, .string s] w fun e w' => e = .returned (.tuple #[.string ⟨(readL ⟨a, b, d, m⟩ s.data.toList).1.toArray⟩, .bool (readL ⟨a, b, d, m⟩ s.data.toList).2]) ∧ Below w.heap.size w w' := by
  obtain ⟨h1, _, _, h4, hm0⟩ := confB_yes hc
  simp only at h1 h4 hm0
  clear hc
  rcases h1 with rfl | rfl | rfl
  · obtain ⟨k, rfl, hk, hk2⟩ := toNat_map h4
    have HE := Lib.hid (show readL ⟨1, b, d, k⟩ s.data.toList = (unR k s.data.toList, true) from rfl)
    have H6 := Lib.hid h6
    have H5 := Lib.hid (h5 rfl)
    clear h4 hm0 hk h6 h5
    go_enter Try.func76, Try.ntmps76
    go_wp2_with fail
    refine (l5Get_yes k s _ hk2 (by omega) H6.out H5.out).mono ?_
    rintro e w1 ⟨rfl, hb⟩
    have HB := Lib.hid (alloc_below hb)
    clear hb
    go_wp2
    go_ret2
    exact ⟨by rw [HE.out]; rfl, HB.out⟩
  · have HE := Lib.hid (show readL ⟨2, b, d, m⟩ s.data.toList = getA s.data.toList from rfl)
    clear h4 hm0 h6 h5
    go_enter Try.func76, Try.ntmps76
    go_wp2_with fail
    refine (l6Get_any s _ (by omega)).mono ?_
    rintro e w1 ⟨rfl, hb⟩
    have HB := Lib.hid (alloc_below hb)
    clear hb
    go_wp2
    go_ret2
    exact ⟨by rw [HE.out]; rfl, HB.out⟩
  · have HE := Lib.hid (show readL ⟨3, b, d, m⟩ s.data.toList = lgetA s.data.toList from rfl)
    clear h4 hm0 h6 h5
    go_enter Try.func76, Try.ntmps76
    go_wp2_with fail
    refine (l6More_any s _ (by omega)).mono ?_
    rintro e w1 ⟨rfl, hb⟩
    have HB := Lib.hid (alloc_below hb)
    clear hb
    go_wp2
    go_ret2
    exact ⟨by rw [HE.out]; rfl, HB.out⟩
end Go.Proofs.Ytfojlpnnhghcbaa
