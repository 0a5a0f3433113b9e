/- Codes of halves read back, in the program and in the model. -/
import Derived.Test.YtkeeigaohfillaaWavA
namespace Go.Proofs.Ytkeeigaohfillaa
open Go.ChangeShapes Go.WideShapes Go.ChangeAt Go.RowKit

theorem evens_step (s : ByteArray) (k i : Nat) (hi : 2 * k = i) (h : i < s.size) : evens (s.data.toList.take (2 * (k + 1))) = evens (s.data.toList.take i) ++ [s[i]] := by
  subst hi
  rw [evens_take s.data.toList k (by rw [size_list]; exact h)]; rfl
theorem evens_len_le (s : ByteArray) (i : Nat) : (evens (s.data.toList.take i)).length ≤ i := by
  rw [evens_len]; have := List.length_take_le i s.data.toList; omega
set_option maxRecDepth 100000 in
set_option maxHeartbeats 4000000 in
theorem implManGet_any (s : ByteArray) (w : World) (hs : s.size ≤ 2000000) :
    Calls Try.prog 16 #[.string s] w fun e w' => e = .returned (.tuple #[.string ⟨(getM s.data.toList).toArray⟩, .bool (okM s.data.toList)]) ∧ Below w.heap.size w w' := by
  obtain ⟨i0, hi, hz0, hz1, hz2⟩ := info_parts info_u8
  have HI := Lib.hid hi
  have HZ0 := Lib.hid hz0
  have HZ1 := Lib.hid hz1
  have HZ2 := Lib.hid hz2
  have HSL := Lib.hid (size_list s)
  clear hi hz0 hz1 hz2
  go_enter Try.func16, Try.ntmps16
  go_wp2
  go_loopw [4, 5] (fun v i wr => ∃ k : Nat, 2 * k ≤ s.size + 1 ∧ i = .int .i64 ((2 * k : Nat) : Int) ∧ OB 5 wr w.heap.size v (evens (s.data.toList.take (2 * k))) ∧ Below w.heap.size w wr) (fun _ i _ => s.size + 2 - (intOf i).toNat)
  case atStart => exact ⟨0, by omega, rfl, OB.nil _ _ _, Below.refl _ _⟩
  case round =>
    obtain ⟨k, hk, rfl, hown, hb⟩ := hrel
    obtain ⟨i, hi2⟩ : ∃ i, 2 * k = i := ⟨_, rfl⟩
    rw [hi2] at hk hown ⊢
    have HI2 := Lib.hid hi2
    have HO := Lib.hid hown
    have HB := Lib.hid hb
    clear hown hb hi2
    have hl2 := evens_len_le s i
    by_cases hlt : i < s.size
    · have HS := Lib.hid (evens_step s k i HI2.out hlt)
      go_wp2_with (at_builtin; refine wpList_append_OB _ rfl _ _ 22 rfl w.heap.size 5 i0 Try.underlying22 HI.out HZ0.out HZ1.out HZ2.out _ (evens (s.data.toList.take i)) rfl (HO.out.alloc _) ⟨wr.heap.size, 0, none⟩ 1 1 [s[i]] rfl rfl (one_new wr _ _ _ rfl) (by simp; omega) (by have := HB.out.size; simp; omega) ?_; intro v2 w2 hown2 hg2)
      go_roundw
      case rel =>
        refine ⟨k + 1, by have := HI2.out; omega, val_int (by have := HI2.out; omega), by rw [HS.out]; exact hown2, ?_⟩
        exact (HB.out.alloc HB.out.size _).grown hg2 (by have := HB.out.size; simp; omega) (fun k hk => (HO.out.lt k hk).1)
      case measure => simp [intOf]; omega
    · have HE := Lib.hid (take_all s i (by omega))
      obtain ⟨X, hX⟩ : ∃ X : ByteArray, X = ⟨(evens s.data.toList).toArray⟩ := ⟨_, rfl⟩
      have hXL : X.data.toList = evens s.data.toList := by rw [hX]
      have hXs : X.size ≤ 2000002 := by
        rw [← size_list, hXL, evens_len, HSL.out]; omega
      have HX := Lib.hid hX
      have HXL := Lib.hid hXL
      clear hX hXL
      go_wp2_with (refine wpList_string_of_OB _ rfl 22 9 5 _ rfl w.heap.size _ _ rfl Try.underlying22 Try.underlying5 Try.underlying9 HO.out ?_)
      rw [HE.out, ← HX.out]
      refine (implMan_any X _ (by unfold maxLen; omega)).mono ?_
      rintro e w2 ⟨rfl, hb2⟩
      have HB2 := Lib.hid (HB.out.trans (hb2.mono HB.out.size))
      clear hb2
      rw [HXL.out]
      cases hm : okM s.data.toList with
      | true =>
        have h1 : (⟨(putM (evens s.data.toList)).toArray⟩ : ByteArray) = s := by
          unfold okM at hm
          rw [decide_eq_true_iff] at hm
          rw [hm, Lib.mk_data]
        rw [h1]
        have HG := Lib.hid (show (⟨(getM s.data.toList).toArray⟩ : ByteArray) = X by unfold getM; rw [if_pos hm]; exact HX.out.symm)
        have HM := Lib.hid hm
        clear hm h1
        go_wp2
        go_ret2
        exact ⟨by rw [HG.out, HM.out]; rfl, HB2.out⟩
      | false =>
        obtain ⟨Y, hY⟩ : ∃ Y : ByteArray, Y = ⟨(putM (evens s.data.toList)).toArray⟩ := ⟨_, rfl⟩
        have h1 : Y.toList ≠ s.toList := by
          rw [Lib.toList_data, Lib.toList_data]
          intro h
          unfold okM at hm
          rw [decide_eq_false_iff_not] at hm
          apply hm
          rw [hY] at h
          exact h
        have h2 : (Y.toList == s.toList) = false := beq_eq_false_iff_ne.2 h1
        have h3 : (Y.toList != s.toList) = true := bne_iff_ne.2 h1
        have HG := Lib.hid (show getM s.data.toList = [] by unfold getM; rw [if_neg (by rw [hm]; decide)])
        have HM := Lib.hid hm
        rw [← hY]
        clear hm hY
        go_wp2
        go_ret2
        exact ⟨by rw [HG.out, HM.out]; rfl, HB2.out⟩
theorem u8_eq_false {a b : UInt8} (h : a ≠ b) : ((a.toNat : Int) == (b.toNat : Int)) = false := by
  rw [beq_eq_false_iff_ne]; intro e; exact h (by apply UInt8.toNat_inj.1; omega)
theorem u8_eq_true {a b : UInt8} (h : a = b) : ((a.toNat : Int) == (b.toNat : Int)) = true := by rw [h]; exact beq_self_eq_true _
theorem okM_of {l : List UInt8} (h : okB l = false ∨ l.length % 2 ≠ 0) : okM l = false ∧ getM l = [] := by
  have h1 : okM l = false := okM_no (h.elim .inl fun h => .inr (.inl h))
  exact ⟨h1, by unfold getM; rw [if_neg (by rw [h1]; decide)]⟩
theorem specManGet_no (s : ByteArray) (w : World) (hs : s.size ≤ maxLen) (h : okB s.data.toList = false ∨ s.size % 2 ≠ 0) :
    Calls Try.prog 20 #[.string s] w fun e w' => e = .returned (.tuple #[.string ⟨#[]⟩, .bool false]) ∧ w = w' := by
  unfold maxLen at hs
  cases hk : okB s.data.toList with
  | false =>
    clear h
    go_enter Try.func20, Try.ntmps20
    go_wp2_with (go_at_call 34; refine (l2Ok_any _ _ (by unfold maxLen; omega)).mono ?_; rintro e w' ⟨rfl, rfl⟩)
    go_ret2
    exact ⟨rfl, rfl⟩
  | true =>
    have h2 : ((s.size : Int) % 2 != 0) = true := by
      rw [bne_iff_ne]
      rcases h with h | h
      · rw [hk] at h; cases h
      · omega
    clear h
    go_enter Try.func20, Try.ntmps20
    go_wp2_with (go_at_call 34; refine (l2Ok_any _ _ (by unfold maxLen; omega)).mono ?_; rintro e w' ⟨rfl, rfl⟩)
    go_ret2
    exact ⟨rfl, rfl⟩
set_option maxRecDepth 100000 in
set_option maxHeartbeats 4000000 in
theorem specManGet_yes (s : ByteArray) (w : World) (h : okB s.data.toList = true) (h2 : s.size % 2 = 0) :
    Calls Try.prog 20 #[.string s] w fun e w' => e = .returned (.tuple #[.string ⟨(getM s.data.toList).toArray⟩, .bool (okM s.data.toList)]) ∧ Below w.heap.size w w' := by
  have hsz := ok_size h
  have hmax : s.size ≤ maxLen := by unfold maxLen; omega
  obtain ⟨i0, hi, hz0, hz1, hz2⟩ := info_parts info_u8
  have HI := Lib.hid hi
  have HZ0 := Lib.hid hz0
  have HZ1 := Lib.hid hz1
  have HZ2 := Lib.hid hz2
  have HSL := Lib.hid (size_list s)
  have H := Lib.hid h
  have hm2 : ((s.size : Int) % 2 != 0) = false := by rw [show (s.size : Int) % 2 = 0 by omega]; rfl
  have H2 := Lib.hid h2
  clear hi hz0 hz1 hz2 h2
  go_enter Try.func20, Try.ntmps20
  go_wp2_with (go_at_call 34; refine (l2Ok_any _ _ hmax).mono ?_; rintro e w' ⟨rfl, rfl⟩)
  clear h hm2
  go_loopw [4, 5] (fun v i wr => ∃ k : Nat, 2 * k ≤ s.size ∧ i = .int .i64 ((2 * k : Nat) : Int) ∧ OB 5 wr w.heap.size v (evens (s.data.toList.take (2 * k))) ∧ Below w.heap.size w wr ∧ pairsB (s.data.toList.take (2 * k)) = true) (fun _ i _ => s.size + 2 - (intOf i).toNat)
  case atStart => exact ⟨0, by omega, rfl, .inr ⟨w.heap.size, 0, #[], (0, 0), rfl, Nat.le_refl _, heap_alloc_new w _, .inl rfl, Nat.le_refl _, by simp [maxLen], rfl, rfl⟩, (Below.refl _ _).alloc (Nat.le_refl _) _, rfl⟩
  case round =>
    obtain ⟨k, hk, rfl, hown, hb, hp⟩ := hrel
    obtain ⟨i, hi2⟩ : ∃ i, 2 * k = i := ⟨_, rfl⟩
    have HP := Lib.hid hp
    rw [hi2] at hk hown HP ⊢
    have HI2 := Lib.hid hi2
    have HO := Lib.hid hown
    have HB := Lib.hid hb
    clear hown hb hi2 hp
    have hl2 := evens_len_le s i
    by_cases hlt : i < s.size
    · obtain ⟨i1, hi1, hi1s⟩ : ∃ i1 : Nat, (i : Int) + 1 = (i1 : Int) ∧ i1 < s.size := ⟨i + 1, by omega, by have := HI2.out; have := H2.out; omega⟩
      have hi1n : i1 = i + 1 := by omega
      by_cases he : s[i] = s[i1]
      · have hc := u8_eq_true he
        have HE := Lib.hid (show okM s.data.toList = false ∧ getM s.data.toList = [] by
          have h1 : okM s.data.toList = false := okM_no (.inr (.inr (by
            have h2k := HI2.out
            subst h2k hi1n
            exact pairs_stop k (by rw [HSL.out]; exact hi1s) he)))
          exact ⟨h1, by unfold getM; rw [if_neg (by rw [h1]; decide)]⟩)
        clear he hi1n
        have hw1 : IntKind.i64.wrap ((i : Int) + 1) = (i1 : Int) := by rw [hi1, IntKind.wrap_i64]; omega
        go_wp2_with fail
        go_region
        clear hw1
        go_wp2
        go_ret2
        exact ⟨by rw [HE.out.1, HE.out.2]; rfl, HB.out.drew⟩
      · have hc := u8_eq_false he
        have HE := Lib.hid (show pairsB (s.data.toList.take (2 * (k + 1))) = true by
          have h2k := HI2.out
          have hp := HP.out
          subst h2k hi1n
          exact pairs_step k (by rw [HSL.out]; exact hi1s) hp he)
        have HS := Lib.hid (evens_step s k i HI2.out hlt)
        clear he hi1n
        have hw1 : IntKind.i64.wrap ((i : Int) + 1) = (i1 : Int) := by rw [hi1, IntKind.wrap_i64]; omega
        go_wp2_with fail
        go_region
        clear hw1
        go_wp2_with (at_builtin; refine wpList_append_OB _ rfl _ _ 22 rfl w.heap.size 5 i0 Try.underlying22 HI.out HZ0.out HZ1.out HZ2.out _ (evens (s.data.toList.take i)) rfl (HO.out.drew.alloc _) ⟨wr.heap.size, 0, none⟩ 1 1 [s[i]] rfl rfl (one_new wr.drew _ _ _ rfl) (by simp; omega) (by have := HB.out.size; simp; omega) ?_; intro v2 w2 hown2 hg2)
        go_roundw
        case rel =>
          refine ⟨k + 1, by have := HI2.out; have := H2.out; omega, val_int (by have := HI2.out; omega), by rw [HS.out]; exact hown2, ?_, HE.out⟩
          exact (HB.out.drew.alloc HB.out.size _).grown hg2 (by have := HB.out.size; simp; omega) (fun k hk => (HO.out.lt k hk).1)
        case measure => simp [intOf]; omega
    · have HE := Lib.hid (take_all s i (by omega))
      have HM := Lib.hid (show okM s.data.toList = true by
        have hp := HP.out
        rw [HE.out] at hp
        exact okM_yes H.out hp)
      have HG := Lib.hid (show getM s.data.toList = evens s.data.toList by unfold getM; rw [if_pos HM.out])
      go_wp2_with (refine wpList_string_of_OB _ rfl 22 9 5 _ rfl w.heap.size _ _ rfl Try.underlying22 Try.underlying5 Try.underlying9 HO.out ?_)
      go_ret2
      exact ⟨by rw [HG.out, HM.out, HE.out]; rfl, HB.out⟩
theorem specManGet_any (s : ByteArray) (w : World) (hs : s.size ≤ maxLen) :
    Calls Try.prog 20 #[.string s] w fun e w' => e = .returned (.tuple #[.string ⟨(getM s.data.toList).toArray⟩, .bool (okM s.data.toList)]) ∧ Below w.heap.size w w' := by
  by_cases h : okB s.data.toList = true ∧ s.size % 2 = 0
  · exact specManGet_yes s w h.1 h.2
  · have h' : okB s.data.toList = false ∨ s.size % 2 ≠ 0 := by
      cases hk : okB s.data.toList with
      | false => exact .inl rfl
      | true => exact .inr fun h2 => h ⟨hk, h2⟩
    have h3 := okM_of (l := s.data.toList) (by rw [size_list]; exact h')
    exact (specManGet_no s w hs h').mono fun e w' ⟨h1, h2⟩ => ⟨by rw [h3.1, h3.2]; exact h1, h2 ▸ Below.refl _ _⟩
end Go.Proofs.Ytkeeigaohfillaa
