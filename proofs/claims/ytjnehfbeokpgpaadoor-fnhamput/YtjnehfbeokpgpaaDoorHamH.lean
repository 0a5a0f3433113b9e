/- Groups in the program: HamPut. -/
import Derived.Test.YtjnehfbeokpgpaaDoorHamG
namespace Go.Proofs.YtjnehfbeokpgpaaDoor
open Go.ChangeShapes Go.WideShapes Go.ChangeAt Go.RowKit
def hamOkB (l : List UInt8) : Bool := okB l && decide (l.length ≤ 600) && decide (l.length % 4 = 0)
def hamPutL (l : List UInt8) : List UInt8 := if hamOkB l = true then hamL l else []
theorem hamOk_parts {s : ByteArray} (h : hamOkB s.data.toList = true) : okB s.data.toList = true ∧ s.size ≤ 600 ∧ s.size % 4 = 0 := by
  unfold hamOkB at h
  rw [Bool.and_eq_true, Bool.and_eq_true, decide_eq_true_iff, decide_eq_true_iff, size_list] at h
  exact ⟨h.1.1, h.1.2, h.2⟩
theorem take_four (s : ByteArray) (i : Nat) (h : i + 4 ≤ s.size) : s.data.toList.take (i + 4) = s.data.toList.take i ++ [s[i], s[i + 1], s[i + 2], s[i + 3]] := by
  rw [snoc_take s (i + 3) (by omega), snoc_take s (i + 2) (by omega), snoc_take s (i + 1) (by omega), snoc_take s i (by omega)]
  simp
theorem hamL_take (s : ByteArray) (i : Nat) (h4 : i % 4 = 0) (h : i + 4 ≤ s.size) : hamL (s.data.toList.take (i + 4)) = hamL (s.data.toList.take i) ++ ham7 s[i] s[i + 1] s[i + 2] s[i + 3] := by
  rw [take_four s i h, hamL_append _ _ (by rw [List.length_take, size_list]; omega)]
  simp [hamL]
theorem hamL_take_len (s : ByteArray) (i : Nat) (h4 : i % 4 = 0) (h : i ≤ s.size) : (hamL (s.data.toList.take i)).length = i / 4 * 7 := by
  rw [hamL_len _ (by rw [List.length_take, size_list]; omega), List.length_take, size_list, Nat.min_eq_left h]
theorem ext_at (s : ByteArray) (i j n : Nat) (h : j ≤ s.size) (hn : i + n < j) : (s.extract i j)[n]'(by rw [ByteArray.size_extract]; omega) = s[i + n]'(by omega) := by
  simp [ByteArray.getElem_extract]
theorem one_bit {b : UInt8} (h : b = 48 ∨ b = 49) : bitC ((b.toNat : Int) == 49) = b := by rcases h with rfl | rfl <;> rfl
theorem OB.off {e : TypeId} {w : World} {base : Nat} {v : Value} {l : List UInt8} (h : OB e w base v l) {p : Addr} (hp : ∀ g, v.ownBlock = some g → g ≠ p.block) (x : Value) : OB e (w.setCell p x) base v l := by
  rcases h with hn | ⟨g, cap, cur, fz, rfl, hb, hg, rest⟩
  · exact .inl hn
  · exact .inr ⟨g, cap, cur, fz, rfl, hb, by rw [Below.heap_setCell w p x g (hp g rfl)]; exact hg, rest⟩
set_option maxRecDepth 100000 in
set_option maxHeartbeats 8000000 in
theorem implHam_yes (s : ByteArray) (w : World) (h : hamOkB s.data.toList = true) (hdp : DP w) :
    Calls Tryd.prog 9 #[.string s] w fun e w' => e = .returned (.string ⟨(hamL s.data.toList).toArray⟩) ∧ Below w.heap.size w w' := by
  obtain ⟨hok, hsz, h4⟩ := hamOk_parts h
  have hmax : s.size ≤ maxLen := by unfold maxLen; omega
  obtain ⟨i0, hi, hz0, hz1, hz2⟩ := info_parts info_u8
  have HI := Lib.hid hi
  have HZ0 := Lib.hid hz0
  have HZ1 := Lib.hid hz1
  have HZ2 := Lib.hid hz2
  have HSL := Lib.hid (size_list s)
  have H := Lib.hid hok
  have HDP := Lib.hid hdp
  have hm4 : ((s.size : Int) % 4 != 0) = false := by rw [show (s.size : Int) % 4 = 0 by omega]; rfl
  have H4 := Lib.hid h4
  clear hi hz0 hz1 hz2 h h4 hdp
  go_enter Tryd.func9, Tryd.ntmps9
  go_wp2_with (go_at_call 19; refine (implOk_any _ _ hmax).mono ?_; rintro e w' ⟨rfl, rfl⟩)
  clear hok hm4
  go_loopw [3, 4] (fun v i wr => ∃ k : Nat, 4 * k ≤ s.size ∧ i = .int .i64 ((4 * k : Nat) : Int) ∧ OB 5 wr w.heap.size v (hamL (s.data.toList.take (4 * k))) ∧ Below w.heap.size w wr) (fun _ i _ => s.size + 4 - (intOf i).toNat)
  case atStart => exact ⟨0, by omega, rfl, OB.nil _ _ _, Below.refl _ _⟩
  case round =>
    obtain ⟨k, hk, rfl, hown, hb⟩ := hrel
    obtain ⟨i, hi4⟩ : ∃ i, 4 * k = i := ⟨_, rfl⟩
    rw [hi4] at hk hown ⊢
    have HI4 := Lib.hid hi4
    have HO := Lib.hid hown
    have HB := Lib.hid hb
    clear hown hb hi4
    by_cases hlt : i < s.size
    · obtain ⟨i4, hi4, hi4s⟩ : ∃ i4 : Nat, (i : Int) + 4 = (i4 : Int) ∧ i4 ≤ s.size := ⟨i + 4, by omega, by have := HI4.out; have := H4.out; omega⟩
      have hi4n : i4 = i + 4 := by omega
      have hii : (i : Int) ≤ (i4 : Int) := by omega
      have hi4i : (i4 : Int) ≤ (s.size : Int) := by omega
      have HLEN := Lib.hid (hamL_take_len s i (by have := HI4.out; omega) (by omega))
      have HS := Lib.hid (show hamL (s.data.toList.take i4) = hamL (s.data.toList.take i) ++ ham7 s[i] (s[i + 1]'(by omega)) (s[i + 2]'(by omega)) (s[i + 3]'(by omega)) by
        subst hi4n
        exact hamL_take s i (by have := HI4.out; omega) hi4s)
      obtain ⟨t, ht⟩ : ∃ t, s.extract i i4 = t := ⟨_, rfl⟩
      have ht4 : 4 ≤ t.size := by rw [← ht, ByteArray.size_extract]; omega
      have ht4b : t.size ≤ 4 := by rw [← ht, ByteArray.size_extract]; omega
      have e0 : t[0] = s[i + 0]'(by omega) := by subst ht; exact ext_at s i i4 0 hi4s (by omega)
      have e1 : t[1] = s[i + 1]'(by omega) := by subst ht; exact ext_at s i i4 1 hi4s (by omega)
      have e2 : t[2] = s[i + 2]'(by omega) := by subst ht; exact ext_at s i i4 2 hi4s (by omega)
      have e3 : t[3] = s[i + 3]'(by omega) := by subst ht; exact ext_at s i i4 3 hi4s (by omega)
      have HT := Lib.hid (show ham7 s[i] (s[i + 1]'(by omega)) (s[i + 2]'(by omega)) (s[i + 3]'(by omega)) = ham7 (bitC ((t[0].toNat : Int) == 49)) (bitC ((t[1].toNat : Int) == 49)) (bitC ((t[2].toNat : Int) == 49)) (bitC ((t[3].toNat : Int) == 49)) by
        rw [e0, e1, e2, e3, one_bit (ok_bit H.out (by omega)), one_bit (ok_bit H.out (by omega)), one_bit (ok_bit H.out (by omega)), one_bit (ok_bit H.out (by omega))]; rfl)
      have HTE := Lib.hid ht
      clear e0 e1 e2 e3 ht hi4n
      go_wp2_with fail
      have hw : (s.extract i i4) = t := HTE.out
      rw [hw]
      clear hw
      refine (groupFor_any t _ _ _ _ _ ht4 rfl rfl rfl rfl ht4b (HDP.out.from HB.out)).mono ?_
      rintro e w1 ⟨rfl, hb1⟩
      have HO1 := Lib.hid (HO.out.below hb1 (Nat.le_refl _))
      have HB1 := Lib.hid (HB.out.trans (hb1.mono HB.out.size))
      clear hb1
      have H7 := Lib.hid (ham7_of ((t[0].toNat : Int) == 49) ((t[1].toNat : Int) == 49) ((t[2].toNat : Int) == 49) ((t[3].toNat : Int) == 49))
      generalize decide (synF ((t[0].toNat : Int) == 49) ((t[1].toNat : Int) == 49) ((t[2].toNat : Int) == 49) ((t[3].toNat : Int) == 49) % 2 = 1) = p1 at *
      generalize decide (synF ((t[0].toNat : Int) == 49) ((t[1].toNat : Int) == 49) ((t[2].toNat : Int) == 49) ((t[3].toNat : Int) == 49) / 2 % 2 = 1) = p2 at *
      generalize decide (synF ((t[0].toNat : Int) == 49) ((t[1].toNat : Int) == 49) ((t[2].toNat : Int) == 49) ((t[3].toNat : Int) == 49) / 4 % 2 = 1) = p4 at *
      generalize ((t[0].toNat : Int) == 49) = xa at *
      generalize ((t[1].toNat : Int) == 49) = xb at *
      generalize ((t[2].toNat : Int) == 49) = xc at *
      generalize ((t[3].toNat : Int) == 49) = xd at *
      go_wp2_with fail
      refine (code_any false p1 p2 xa p4 xb xc xd _).mono ?_
      rintro e w2 ⟨v2, rfl, ho2, hb2⟩
      obtain ⟨g, cap, hv, _, _, _, _⟩ := ho2.pos (by simp)
      subst hv
      have HC := Lib.hid (ho2.cells (g := g) rfl)
      have HO2 := Lib.hid (HO1.out.below hb2 (Nat.le_refl _))
      have HB2 := Lib.hid (HB1.out.trans (hb2.mono HB1.out.size))
      clear hb2 ho2
      go_wp2_with (at_builtin; refine wpList_append_OB _ rfl _ _ 22 rfl w.heap.size 5 i0 Tryd.underlying22 HI.out HZ0.out HZ1.out HZ2.out _ (hamL (s.data.toList.take i)) rfl HO2.out ⟨g, 0, none⟩ 7 cap [bitC p1, bitC p2, bitC xa, bitC p4, bitC xb, bitC xc, bitC xd] rfl rfl HC.out (by rw [HLEN.out]; simp; omega) (by have := HB2.out.size; omega) ?_; intro v3 w3 hown3 hg3)
      go_roundw
      case rel =>
        refine ⟨k + 1, by have := HI4.out; omega, val_int (by have := HI4.out; omega), ?_, ?_⟩
        · rw [show 4 * (k + 1) = i4 by have := HI4.out; omega, HS.out, HT.out, H7.out]; exact hown3
        · exact HB2.out.grown hg3 (by have := HB2.out.size; omega) (fun k hk => (HO2.out.lt k hk).1)
      case measure => simp [intOf]; omega
    · have HE := Lib.hid (take_all s i (by omega))
      go_wp2_with (refine wpList_string_of_OB _ rfl 22 9 5 _ rfl w.heap.size _ _ rfl Tryd.underlying22 Tryd.underlying5 Tryd.underlying9 HO.out ?_)
      go_ret
      exact ⟨by rw [HE.out]; rfl, HB.out⟩
theorem implHam_no (s : ByteArray) (w : World) (hs : s.size ≤ maxLen) (h : hamOkB s.data.toList = false) :
    Calls Tryd.prog 9 #[.string s] w fun e w' => e = .returned (.string ⟨#[]⟩) ∧ w = w' := by
  have hs0 := hs
  unfold maxLen at hs0
  cases hk : okB s.data.toList with
  | false =>
    clear h
    go_enter Tryd.func9, Tryd.ntmps9
    go_wp2_with (go_at_call 19; refine (implOk_any _ _ hs).mono ?_; rintro e w' ⟨rfl, rfl⟩)
    go_ret
    exact ⟨rfl, rfl⟩
  | true =>
    by_cases hbig : 600 < s.size
    · have hbi : (600 : Int) < (s.size : Int) := by omega
      clear h hbig
      go_enter Tryd.func9, Tryd.ntmps9
      go_wp2_with (go_at_call 19; refine (implOk_any _ _ hs).mono ?_; rintro e w' ⟨rfl, rfl⟩)
      go_ret
      exact ⟨rfl, rfl⟩
    · have hm4 : ((s.size : Int) % 4 != 0) = true := by
        rw [bne_iff_ne]
        intro h0
        unfold hamOkB at h
        rw [hk, Bool.true_and, size_list, decide_eq_true (show s.size ≤ 600 by omega), Bool.true_and, decide_eq_false_iff_not] at h
        omega
      clear h
      go_enter Tryd.func9, Tryd.ntmps9
      go_wp2_with (go_at_call 19; refine (implOk_any _ _ hs).mono ?_; rintro e w' ⟨rfl, rfl⟩)
      go_ret
      exact ⟨rfl, rfl⟩
theorem hamPutL_yes {l : List UInt8} (h : hamOkB l = true) : hamPutL l = hamL l := by unfold hamPutL; rw [if_pos h]
theorem hamPutL_no {l : List UInt8} (h : hamOkB l = false) : hamPutL l = [] := by unfold hamPutL; rw [if_neg (by rw [h]; decide)]
theorem implHam_any (s : ByteArray) (w : World) (hs : s.size ≤ maxLen) (hdp : DP w) :
    Calls Tryd.prog 9 #[.string s] w fun e w' => e = .returned (.string ⟨(hamPutL s.data.toList).toArray⟩) ∧ Below w.heap.size w w' := by
  cases hk : hamOkB s.data.toList with
  | false => exact (implHam_no s w hs hk).mono fun e w' ⟨h1, h2⟩ => ⟨by rw [hamPutL_no hk]; exact h1, h2 ▸ Below.refl _ _⟩
  | true => exact (implHam_yes s w hk hdp).mono fun e w' ⟨h1, h2⟩ => ⟨by rw [hamPutL_yes hk]; exact h1, h2⟩
end Go.Proofs.YtjnehfbeokpgpaaDoor
