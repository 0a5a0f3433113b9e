/- Contracts of HdlcOk in the program and in the model. -/
import Derived.Test.YtekhakapmpdnaaaHdlcB
import Derived.Test.YtekhakapmpdnaaaKitSum
namespace Go.Proofs.Ytekhakapmpdnaaa
open Go.ChangeShapes Go.WideShapes Go.ChangeAt Go.RowKit
/-- what HdlcOk says of whatever three fields -/
def okH (i : Bool) (n : Int) (l : List UInt8) : Bool := inB n 0 7 && decide (l.length ≤ 240) && l.all bitB && (i || l.isEmpty)
theorem okH_hok {i : Bool} {n : Int} {l : List UInt8} (h : okH i n l = true) : 0 ≤ n ∧ n ≤ 7 ∧ hokB ⟨i, n.toNat, l⟩ = true := by
  unfold okH inB at h
  simp only [Bool.and_eq_true, decide_eq_true_eq] at h
  obtain ⟨⟨⟨⟨h1, h2⟩, h3⟩, h4⟩, h5⟩ := h
  refine ⟨h1, h2, ?_⟩
  unfold hokB
  simp only [Bool.and_eq_true, decide_eq_true_eq]
  exact ⟨⟨⟨by omega, h3⟩, h4⟩, h5⟩
theorem hok_okH {h : HS} (hk : hokB h = true) : okH h.inn h.ones h.bits = true := by
  unfold hokB at hk
  unfold okH inB
  simp only [Bool.and_eq_true, decide_eq_true_eq] at hk ⊢
  obtain ⟨⟨⟨h1, h2⟩, h3⟩, h4⟩ := hk
  exact ⟨⟨⟨⟨by omega, by omega⟩, h2⟩, h3⟩, h4⟩
set_option maxRecDepth 100000 in
theorem implHok_any (i : Bool) (n : Int) (b : ByteArray) (w : World) (hb : b.size ≤ maxLen) :
    Calls Try.prog 19 #[.agg #[.bool i, .int .i64 n, .string b]] w fun e w' => e = .returned (.bool (okH i n b.data.toList)) ∧ Below w.heap.size w w' := by
  have HSL := Lib.hid (size_list b)
  by_cases h0 : n < 0
  · have HE := Lib.hid (show okH i n b.data.toList = false by unfold okH inB; rw [decide_eq_false (by omega)]; simp)
    go_enter Try.func19, Try.ntmps19
    go_wp2
    go_ret
    exact ⟨ret_bool HE.out.symm, (Below.refl _ _).alloc (Nat.le_refl _) _⟩
  by_cases h7 : 7 < n
  · have HE := Lib.hid (show okH i n b.data.toList = false by unfold okH inB; rw [decide_eq_false (show ¬ n ≤ 7 by omega)]; simp)
    go_enter Try.func19, Try.ntmps19
    go_wp2
    go_ret
    exact ⟨ret_bool HE.out.symm, (Below.refl _ _).alloc (Nat.le_refl _) _⟩
  have HN := Lib.hid (show inB n 0 7 = true by unfold inB; rw [decide_eq_true (by omega), decide_eq_true (by omega)]; rfl)
  cases i with
  | false =>
    have HE := Lib.hid (show okH false n b.data.toList = b.toList.isEmpty by
      unfold okH
      rw [HN.out, ByteArray.toList_eq]
      cases b.data.toList <;> simp)
    go_enter Try.func19, Try.ntmps19
    go_wp2
    go_ret
    exact ⟨ret_bool HE.out.symm, (Below.refl _ _).alloc (Nat.le_refl _) _⟩
  | true =>
    by_cases hs : b.size ≤ 240
    · have HE := Lib.hid (show okH true n b.data.toList = okB b.data.toList by
        unfold okH okB
        rw [HN.out, HSL.out, decide_eq_true hs, decide_eq_true (show b.size ≤ 1200 by omega)]
        simp)
      go_enter Try.func19, Try.ntmps19
      go_wp2_with (go_at_call 13; refine (implOk_any _ _ hb).mono ?_; rintro e w' ⟨rfl, rfl⟩)
      go_ret
      exact ⟨ret_bool HE.out.symm, (Below.refl _ _).alloc (Nat.le_refl _) _⟩
    · have HE := Lib.hid (show okH true n b.data.toList = false by
        unfold okH
        rw [HSL.out, decide_eq_false hs]
        simp)
      go_enter Try.func19, Try.ntmps19
      go_wp2
      go_ret
      exact ⟨ret_bool HE.out.symm, (Below.refl _ _).alloc (Nat.le_refl _) _⟩
set_option maxRecDepth 100000 in
set_option maxHeartbeats 1000000 in
theorem l4Ok_any (i : Bool) (n : Int) (s : ByteArray) (w : World) (hs : s.size ≤ maxLen) :
    Calls Try.prog 47 #[.agg #[.bool i, .int .i64 n, .string s]] w fun e w' => e = .returned (.bool (okH i n s.data.toList)) ∧ Below w.heap.size w w' := by
  unfold maxLen at hs
  have HSL := Lib.hid (size_list s)
  go_enter Try.func47, Try.ntmps47
  go_wp2
  go_loop [3] (fun i => ∃ k : Nat, k ≤ s.size ∧ i = .int .i64 k ∧ (s.data.toList.take k).all bitB = true) (fun i => s.size - (intOf i).toNat)
  case atStart => exact ⟨0, Nat.zero_le _, rfl, rfl⟩
  case round =>
    obtain ⟨k, hk, rfl, hall⟩ := hrel
    have HA := Lib.hid hall
    clear hall
    by_cases hlt : k < s.size
    · have HS := Lib.hid (snoc_take s k hlt)
      have HST := Lib.hid (@all_stop s k hlt)
      rcases bit_cases s[k] with (h | h) | ⟨h1, h2, h3⟩
      · have h' : (s[k].toNat : Int) = 48 := by rw [h]; rfl
        have H := Lib.hid h
        have hb : ((s[k].toNat : Int) != 48) = false := by rw [h']; rfl
        clear h h'
        go_wp2
        go_round
        case rel => exact ⟨k + 1, by omega, by go_num, by rw [HS.out, List.all_append, HA.out, H.out]; rfl⟩
        case measure => simp [intOf]; omega
      · have h' : (s[k].toNat : Int) = 49 := by rw [h]; rfl
        have H := Lib.hid h
        have hb : ((s[k].toNat : Int) != 48) = true := by rw [h']; rfl
        have hb2 : ((s[k].toNat : Int) != 49) = false := by rw [h']; rfl
        clear h h'
        go_wp2
        go_round
        case rel => exact ⟨k + 1, by omega, by go_num, by rw [HS.out, List.all_append, HA.out, H.out]; rfl⟩
        case measure => simp [intOf]; omega
      · have hb : ((s[k].toNat : Int) != 48) = true := by rw [bne_iff_ne]; exact h1
        have hb2 : ((s[k].toNat : Int) != 49) = true := by rw [bne_iff_ne]; exact h2
        have HF := Lib.hid (show okH i n s.data.toList = false by simp [okH, HST.out h3])
        clear h1 h2 h3
        go_wp2
        go_ret
        exact ⟨ret_bool HF.out.symm, (Below.refl _ _).alloc (Nat.le_refl _) _⟩
    · have HAL := Lib.hid (show s.data.toList.all bitB = true by
        have := HA.out
        rw [take_all s k (by omega)] at this
        exact this)
      cases hn : inB n 0 7 with
      | false =>
        have HF := Lib.hid (show okH i n s.data.toList = false by unfold okH; rw [hn]; rfl)
        go_wp2_with (go_at_call 65; refine (l1In_any _ _ _ _).mono ?_; rintro e w' ⟨rfl, rfl⟩)
        go_ret
        exact ⟨ret_bool HF.out.symm, (Below.refl _ _).alloc (Nat.le_refl _) _⟩
      | true =>
        by_cases h240 : s.size ≤ 240
        · have HF := Lib.hid (show okH i n s.data.toList = (i || s.toList.isEmpty) by unfold okH; rw [hn, HSL.out, decide_eq_true h240, HAL.out, ByteArray.toList_eq]; rfl)
          cases i with
          | false =>
            go_wp2_with (go_at_call 65; refine (l1In_any _ _ _ _).mono ?_; rintro e w' ⟨rfl, rfl⟩)
            go_ret
            exact ⟨ret_bool HF.out.symm, (Below.refl _ _).alloc (Nat.le_refl _) _⟩
          | true =>
            go_wp2_with (go_at_call 65; refine (l1In_any _ _ _ _).mono ?_; rintro e w' ⟨rfl, rfl⟩)
            go_ret
            exact ⟨ret_bool HF.out.symm, (Below.refl _ _).alloc (Nat.le_refl _) _⟩
        · have HF := Lib.hid (show okH i n s.data.toList = false by unfold okH; rw [HSL.out, decide_eq_false h240]; simp)
          go_wp2_with (go_at_call 65; refine (l1In_any _ _ _ _).mono ?_; rintro e w' ⟨rfl, rfl⟩)
          go_ret
          exact ⟨ret_bool HF.out.symm, (Below.refl _ _).alloc (Nat.le_refl _) _⟩
theorem specHok_any (i : Bool) (n : Int) (s : ByteArray) (w : World) (hs : s.size ≤ maxLen) :
    Calls Try.prog 20 #[.agg #[.bool i, .int .i64 n, .string s]] w fun e w' => e = .returned (.bool (okH i n s.data.toList)) ∧ Below w.heap.size w w' := by
  go_enter Try.func20, Try.ntmps20
  go_wp2_with fail
  refine (l4Ok_any _ _ _ _ hs).mono ?_
  rintro e w' ⟨rfl, hb⟩
  have HB := Lib.hid (((Below.refl _ w).alloc (Nat.le_refl _) _).trans (hb.mono (by simp)))
  clear hb
  go_wp2
  go_ret
  exact ⟨rfl, HB.out⟩
end Go.Proofs.Ytekhakapmpdnaaa
