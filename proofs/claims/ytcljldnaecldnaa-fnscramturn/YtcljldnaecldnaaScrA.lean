/- A scrambler in the model. -/
import Derived.Test.YtcljldnaecldnaaScrP
import Derived.Test.YtcljldnaecldnaaApb
import Derived.Test.YtcljldnaecldnaaKitBits
namespace Go.Proofs.Ytcljldnaecldnaa
open Go.ChangeShapes Go.WideShapes Go.ChangeAt Go.RowKit
def xi (b : Bool) : Int := if b then 1 else 0
theorem xi_xor (a b : Bool) : bits .xor .i64 (xi a) (xi b) = xi (a != b) := by cases a <;> cases b <;> rfl
theorem xi_le (a : Bool) : 0 ≤ xi a ∧ xi a ≤ 1 := by cases a <;> decide
theorem xi_of {b : UInt8} (h : b = 48 ∨ b = 49) : ((b.toNat : Int) - 48) % 256 = xi (decide (b = 49)) := by rcases h with rfl | rfl <;> rfl
theorem xi_mod (n : Nat) : ((n % 2 : Nat) : Int) = xi (n % 2 == 1) := by
  rcases Nat.mod_two_eq_zero_or_one n with h | h <;> rw [h] <;> rfl
theorem xi_tap (st : Nat) : bits .xor .i64 ((st : Int) / 8 % 2) ((st : Int) / 64 % 2) = xi (tapB st) := by
  rw [show (st : Int) / 8 % 2 = ((st / 8 % 2 : Nat) : Int) by omega, show (st : Int) / 64 % 2 = ((st / 64 % 2 : Nat) : Int) by omega, xi_mod, xi_mod, xi_xor]; rfl
theorem xi_next (st : Nat) (b : Bool) : (st : Int) * 2 % 128 + xi b = (nextS st b : Nat) := by
  unfold nextS xi; cases b <;> simp <;> omega
theorem xi_byte (b : Bool) : (48 + xi b) % 256 = ((bitC b).toNat : Int) := by cases b <;> rfl
theorem sc_take {σ : Type} (f : σ → Bool → σ × Bool) (u : σ) (s : ByteArray) (k : Nat) (h : k < s.size) : mealy f u (s.data.toList.take (k + 1)) = ((f (mealy f u (s.data.toList.take k)).1 (decide (s[k] = 49))).1, (mealy f u (s.data.toList.take k)).2 ++ [bitC (f (mealy f u (s.data.toList.take k)).1 (decide (s[k] = 49))).2]) := by
  rw [snoc_take s k h, mealy_snoc]
theorem sc_take_len {σ : Type} (f : σ → Bool → σ × Bool) (u : σ) (s : ByteArray) (k : Nat) : (mealy f u (s.data.toList.take k)).2.length ≤ k := by
  rw [mealy_len]; exact List.length_take_le _ _
theorem sl1In_any (x a b : Int) (w : World) :
    Calls Try.prog 35 #[.int .i64 x, .int .i64 a, .int .i64 b] w fun e w' => e = .returned (.bool (decide (a ≤ x) && decide (x ≤ b))) ∧ w = w' := by
  by_cases h1 : a ≤ x
  · go_enter Try.func35, Try.ntmps35
    go_wp2
    go_ret
    exact ⟨by rw [decide_eq_true h1]; rfl, rfl⟩
  · go_enter Try.func35, Try.ntmps35
    go_wp2
    go_ret
    exact ⟨by rw [decide_eq_false (show ¬ a ≤ x by omega)]; rfl, rfl⟩
def stB (x : Int) : Bool := decide (0 ≤ x) && decide (x ≤ 127)
theorem l14State_any (x : Int) (w : World) : Calls Try.prog 26 #[.int .i64 x] w fun e w' => e = .returned (.bool (stB x)) ∧ w = w' := by
  go_enter Try.func26, Try.ntmps26
  go_wp2_with fail
  refine (sl1In_any _ _ _ _).mono ?_
  rintro e w' ⟨rfl, rfl⟩
  go_wp2
  go_ret
  exact ⟨rfl, rfl⟩
theorem l12Bit_any (s : ByteArray) (i : Nat) (w : World) (hi : i < s.size) (hb : s[i] = 48 ∨ s[i] = 49) :
    Calls Try.prog 28 #[.string s, .int .i64 i] w fun e w' => e = .returned (.int .i64 (xi (decide (s[i] = 49)))) ∧ w = w' := by
  have hx := xi_of hb
  have hl := xi_le (decide (s[i] = 49))
  have HX := Lib.hid hx
  generalize decide (s[i] = 49) = x at *
  clear hx
  go_enter Try.func28, Try.ntmps28
  go_wp2
  go_ret
  refine ⟨?_, rfl⟩
  rw [← HX.out]
  rfl
theorem l14Tap_any (st : Nat) (w : World) (hs : st < 128) :
    Calls Try.prog 29 #[.int .i64 st] w fun e w' => e = .returned (.int .i64 (xi (tapB st))) ∧ w = w' := by
  have HX := Lib.hid (xi_tap st)
  go_enter Try.func29, Try.ntmps29
  go_wp2
  go_ret
  refine ⟨?_, rfl⟩
  rw [← HX.out]
  rfl
theorem specScramPut_no (st : Int) (s : ByteArray) (w : World) (hs : s.size ≤ maxLen) (h : (stB st && okB s.data.toList) = false) :
    Calls Try.prog 12 #[.int .i64 st, .string s] w fun e w' => e = .returned (.tuple #[.int .i64 (-1), .string ⟨#[]⟩]) ∧ w = w' := by
  cases h1 : stB st with
  | false =>
    clear h
    go_enter Try.func12, Try.ntmps12
    go_wp2_with (go_at_call 26; refine (l14State_any _ _).mono ?_; rintro e w' ⟨rfl, rfl⟩; rw [h1])
    go_ret2
    exact ⟨rfl, rfl⟩
  | true =>
    rw [h1, Bool.true_and] at h
    go_enter Try.func12, Try.ntmps12
    go_wp2_with (first | (go_at_call 26; refine (l14State_any _ _).mono ?_; rintro e w' ⟨rfl, rfl⟩; rw [h1]) | (go_at_call 27; refine (l2Ok_any _ _ hs).mono ?_; rintro e w' ⟨rfl, rfl⟩; rw [h]))
    go_ret2
    exact ⟨rfl, rfl⟩
set_option maxRecDepth 100000 in
set_option maxHeartbeats 800000 in
theorem specScramPut_yes (st : Nat) (s : ByteArray) (w : World) (hst : st < 128) (h : okB s.data.toList = true) :
    Calls Try.prog 12 #[.int .i64 st, .string s] w fun e w' => e = .returned (.tuple #[.int .i64 ((mealy scP st s.data.toList).1 : Nat), .string ⟨(mealy scP st s.data.toList).2.toArray⟩]) ∧ Below w.heap.size w w' := by
  have hsz := ok_size h
  have hmax : s.size ≤ maxLen := by unfold maxLen; omega
  obtain ⟨i0, hi, hz0, hz1, hz2⟩ := info_parts info_u8
  have HI := Lib.hid hi
  have HZ0 := Lib.hid hz0
  have HZ1 := Lib.hid hz1
  have HZ2 := Lib.hid hz2
  have H := Lib.hid h
  have HS1 := Lib.hid (show stB st = true by unfold stB; rw [decide_eq_true (show 0 ≤ (st : Int) by omega), decide_eq_true (show (st : Int) ≤ 127 by omega)]; rfl)
  have HLT := Lib.hid (fun l => mealy_lt scP scP_lt st l hst)
  clear hi hz0 hz1 hz2
  go_enter Try.func12, Try.ntmps12
  go_wp2_with (first | (go_at_call 26; refine (l14State_any _ _).mono ?_; rintro e w' ⟨rfl, rfl⟩; rw [HS1.out]) | (go_at_call 27; refine (l2Ok_any _ _ hmax).mono ?_; rintro e w' ⟨rfl, rfl⟩; rw [H.out]))
  clear h
  go_loopw [0, 6, 7, 8] (fun b v i _ wr => ∃ k : Nat, k ≤ s.size ∧ i = .int .i64 k ∧ b = .int .i64 ((mealy scP st (s.data.toList.take k)).1 : Nat) ∧ OB 5 wr w.heap.size v (mealy scP st (s.data.toList.take k)).2 ∧ Below w.heap.size w wr) (fun _ _ i _ _ => s.size - (intOf i).toNat)
  case atStart => exact ⟨0, by omega, rfl, rfl, .inr ⟨w.heap.size, 0, #[], (0, 0), rfl, Nat.le_refl _, heap_alloc_new w _, .inl rfl, Nat.le_refl _, by simp [maxLen], rfl, rfl⟩, (Below.refl _ _).alloc (Nat.le_refl _) _⟩
  case round =>
    obtain ⟨k, hk, rfl, rfl, hown, hb⟩ := hrel
    have HO := Lib.hid hown
    have HB := Lib.hid hb
    clear hown hb
    have hl2 := sc_take_len scP st s k
    have hm1 := HLT.out (s.data.toList.take k)
    by_cases hlt : k < s.size
    · have HS := Lib.hid (sc_take scP st s k hlt)
      have HBIT := Lib.hid (ok_bit H.out hlt)
      generalize mealy scP st (s.data.toList.take k) = M at *
      obtain ⟨m1, m2⟩ := M
      simp only at hl2 hm1
      obtain ⟨one, hone⟩ : ∃ one, decide (s[k] = 49) = one := ⟨_, rfl⟩
      obtain ⟨tp, htp⟩ : ∃ tp, tapB m1 = tp := ⟨_, rfl⟩
      obtain ⟨o, ho⟩ : ∃ o, (one != tp) = o := ⟨_, rfl⟩
      have hS2 := HS.out
      rw [hone] at hS2
      have HS3 := Lib.hid (show mealy scP st (s.data.toList.take (k + 1)) = (nextS m1 o, m2 ++ [bitC o]) by rw [hS2, ← ho, ← htp]; rfl)
      have HONE := Lib.hid hone
      have HTP := Lib.hid htp
      have hxx : bits .xor .i64 (xi one) (xi tp) = xi o := by rw [xi_xor, ho]
      have hnx := xi_next m1 o
      have hby := xi_byte o
      have hbl := xi_le o
      have HBY := Lib.hid (show ((bitC o).toNat : Int) = 48 + xi o by omega)
      clear hby hbl
      have hn2 := nextS_lt m1 o
      have ho1 := xi_le o
      have hone1 := xi_le one
      have htp1 := xi_le tp
      clear hS2 HS hone htp ho
      generalize nextS m1 o = nx at *
      generalize hxo : xi o = xo at *
      generalize hx1 : xi one = x1 at *
      generalize hxt : xi tp = xt at *
      have HX1 := Lib.hid hx1
      have HXT := Lib.hid hxt
      clear hxo hx1 hxt
      go_wp2_with (first | (go_at_call 28; refine (l12Bit_any s k _ hlt HBIT.out).mono ?_; rintro e w' ⟨rfl, rfl⟩; rw [HONE.out, HX1.out]) | (go_at_call 29; refine (l14Tap_any m1 _ hm1).mono ?_; rintro e w' ⟨rfl, rfl⟩; rw [HTP.out, HXT.out]) | (at_builtin; refine wpList_append_OB _ rfl _ _ 22 rfl w.heap.size 5 i0 Try.underlying22 HI.out HZ0.out HZ1.out HZ2.out _ m2 rfl (HO.out.alloc _) ⟨wr.heap.size, 0, none⟩ 1 1 [bitC o] rfl rfl (one_new wr _ _ _ (show byteV (bitC o) = Value.int .u8 (48 + xo) by unfold byteV; rw [HBY.out])) (by simp; omega) (by have := HB.out.size; simp; omega) ?_; intro v2 w2 hown2 hg2))
      go_roundw
      case rel =>
        refine ⟨k + 1, by omega, by go_num, by rw [HS3.out], by rw [HS3.out]; exact hown2, ?_⟩
        exact (HB.out.alloc HB.out.size _).grown hg2 (by have := HB.out.size; simp; omega) (fun k hk => (HO.out.lt k hk).1)
      case measure => simp [intOf]; omega
    · have HE := Lib.hid (take_all s k (by omega))
      have hcv := run_string_of_OB (P := Try.prog) wr.drew 22 9 5 w.heap.size _ _ Try.underlying22 Try.underlying5 Try.underlying9 HO.out.drew
      go_wp2_with fail
      go_region
      go_wp2
      go_ret2
      exact ⟨by rw [HE.out]; rfl, HB.out.drew⟩
theorem specScramGet_no (st : Int) (s : ByteArray) (w : World) (hs : s.size ≤ maxLen) (h : (stB st && okB s.data.toList) = false) :
    Calls Try.prog 15 #[.int .i64 st, .string s] w fun e w' => e = .returned (.tuple #[.int .i64 (-1), .string ⟨#[]⟩]) ∧ w = w' := by
  cases h1 : stB st with
  | false =>
    clear h
    go_enter Try.func15, Try.ntmps15
    go_wp2_with (go_at_call 26; refine (l14State_any _ _).mono ?_; rintro e w' ⟨rfl, rfl⟩; rw [h1])
    go_ret2
    exact ⟨rfl, rfl⟩
  | true =>
    rw [h1, Bool.true_and] at h
    go_enter Try.func15, Try.ntmps15
    go_wp2_with (first | (go_at_call 26; refine (l14State_any _ _).mono ?_; rintro e w' ⟨rfl, rfl⟩; rw [h1]) | (go_at_call 27; refine (l2Ok_any _ _ hs).mono ?_; rintro e w' ⟨rfl, rfl⟩; rw [h]))
    go_ret2
    exact ⟨rfl, rfl⟩
set_option maxRecDepth 100000 in
set_option maxHeartbeats 800000 in
theorem specScramGet_yes (st : Nat) (s : ByteArray) (w : World) (hst : st < 128) (h : okB s.data.toList = true) :
    Calls Try.prog 15 #[.int .i64 st, .string s] w fun e w' => e = .returned (.tuple #[.int .i64 ((mealy scG st s.data.toList).1 : Nat), .string ⟨(mealy scG st s.data.toList).2.toArray⟩]) ∧ Below w.heap.size w w' := by
  have hsz := ok_size h
  have hmax : s.size ≤ maxLen := by unfold maxLen; omega
  obtain ⟨i0, hi, hz0, hz1, hz2⟩ := info_parts info_u8
  have HI := Lib.hid hi
  have HZ0 := Lib.hid hz0
  have HZ1 := Lib.hid hz1
  have HZ2 := Lib.hid hz2
  have H := Lib.hid h
  have HS1 := Lib.hid (show stB st = true by unfold stB; rw [decide_eq_true (show 0 ≤ (st : Int) by omega), decide_eq_true (show (st : Int) ≤ 127 by omega)]; rfl)
  have HLT := Lib.hid (fun l => mealy_lt scG scG_lt st l hst)
  clear hi hz0 hz1 hz2
  go_enter Try.func15, Try.ntmps15
  go_wp2_with (first | (go_at_call 26; refine (l14State_any _ _).mono ?_; rintro e w' ⟨rfl, rfl⟩; rw [HS1.out]) | (go_at_call 27; refine (l2Ok_any _ _ hmax).mono ?_; rintro e w' ⟨rfl, rfl⟩; rw [H.out]))
  clear h
  go_loopw [0, 6, 7, 8] (fun b v i _ wr => ∃ k : Nat, k ≤ s.size ∧ i = .int .i64 k ∧ b = .int .i64 ((mealy scG st (s.data.toList.take k)).1 : Nat) ∧ OB 5 wr w.heap.size v (mealy scG st (s.data.toList.take k)).2 ∧ Below w.heap.size w wr) (fun _ _ i _ _ => s.size - (intOf i).toNat)
  case atStart => exact ⟨0, by omega, rfl, rfl, .inr ⟨w.heap.size, 0, #[], (0, 0), rfl, Nat.le_refl _, heap_alloc_new w _, .inl rfl, Nat.le_refl _, by simp [maxLen], rfl, rfl⟩, (Below.refl _ _).alloc (Nat.le_refl _) _⟩
  case round =>
    obtain ⟨k, hk, rfl, rfl, hown, hb⟩ := hrel
    have HO := Lib.hid hown
    have HB := Lib.hid hb
    clear hown hb
    have hl2 := sc_take_len scG st s k
    have hm1 := HLT.out (s.data.toList.take k)
    by_cases hlt : k < s.size
    · have HS := Lib.hid (sc_take scG st s k hlt)
      have HBIT := Lib.hid (ok_bit H.out hlt)
      generalize mealy scG st (s.data.toList.take k) = M at *
      obtain ⟨m1, m2⟩ := M
      simp only at hl2 hm1
      obtain ⟨one, hone⟩ : ∃ one, decide (s[k] = 49) = one := ⟨_, rfl⟩
      obtain ⟨tp, htp⟩ : ∃ tp, tapB m1 = tp := ⟨_, rfl⟩
      obtain ⟨o, ho⟩ : ∃ o, (one != tp) = o := ⟨_, rfl⟩
      have hS2 := HS.out
      rw [hone] at hS2
      have HS3 := Lib.hid (show mealy scG st (s.data.toList.take (k + 1)) = (nextS m1 one, m2 ++ [bitC o]) by rw [hS2, ← ho, ← htp]; rfl)
      have HONE := Lib.hid hone
      have HTP := Lib.hid htp
      have hxx : bits .xor .i64 (xi one) (xi tp) = xi o := by rw [xi_xor, ho]
      have hnx := xi_next m1 one
      have hby := xi_byte o
      have hbl := xi_le o
      have HBY := Lib.hid (show ((bitC o).toNat : Int) = 48 + xi o by omega)
      clear hby hbl
      have hn2 := nextS_lt m1 one
      have ho1 := xi_le o
      have hone1 := xi_le one
      have htp1 := xi_le tp
      clear hS2 HS hone htp ho
      generalize nextS m1 one = nx at *
      generalize hxo : xi o = xo at *
      generalize hx1 : xi one = x1 at *
      generalize hxt : xi tp = xt at *
      have HX1 := Lib.hid hx1
      have HXT := Lib.hid hxt
      clear hxo hx1 hxt
      go_wp2_with (first | (go_at_call 28; refine (l12Bit_any s k _ hlt HBIT.out).mono ?_; rintro e w' ⟨rfl, rfl⟩; rw [HONE.out, HX1.out]) | (go_at_call 29; refine (l14Tap_any m1 _ hm1).mono ?_; rintro e w' ⟨rfl, rfl⟩; rw [HTP.out, HXT.out]) | (at_builtin; refine wpList_append_OB _ rfl _ _ 22 rfl w.heap.size 5 i0 Try.underlying22 HI.out HZ0.out HZ1.out HZ2.out _ m2 rfl (HO.out.alloc _) ⟨wr.heap.size, 0, none⟩ 1 1 [bitC o] rfl rfl (one_new wr _ _ _ (show byteV (bitC o) = Value.int .u8 (48 + xo) by unfold byteV; rw [HBY.out])) (by simp; omega) (by have := HB.out.size; simp; omega) ?_; intro v2 w2 hown2 hg2))
      go_roundw
      case rel =>
        refine ⟨k + 1, by omega, by go_num, by rw [HS3.out], by rw [HS3.out]; exact hown2, ?_⟩
        exact (HB.out.alloc HB.out.size _).grown hg2 (by have := HB.out.size; simp; omega) (fun k hk => (HO.out.lt k hk).1)
      case measure => simp [intOf]; omega
    · have HE := Lib.hid (take_all s k (by omega))
      have hcv := run_string_of_OB (P := Try.prog) wr.drew 22 9 5 w.heap.size _ _ Try.underlying22 Try.underlying5 Try.underlying9 HO.out.drew
      go_wp2_with fail
      go_region
      go_wp2
      go_ret2
      exact ⟨by rw [HE.out]; rfl, HB.out.drew⟩
end Go.Proofs.Ytcljldnaecldnaa
