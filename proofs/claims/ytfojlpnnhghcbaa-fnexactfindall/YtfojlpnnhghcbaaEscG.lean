/- EscapeGet of the program, where what it reads has no flag and no escape at its end. -/
import Derived.Test.YtfojlpnnhghcbaaEscP
import Derived.Test.YtfojlpnnhghcbaaIdx
namespace Go.Proofs.Ytfojlpnnhghcbaa
open Go.ChangeShapes Go.WideShapes Go.ChangeAt Go.RowKit
theorem last_at (s : ByteArray) (h : 0 < s.size) : s.data.toList.getLast? = some s[s.size - 1] := by
  have : s.data.toList ≠ [] := by intro e; have := size_list s; rw [e] at this; simp at this; omega
  rw [List.getLast?_eq_getElem?, List.getElem?_eq_getElem (by simp; omega)]
  congr 1
set_option maxHeartbeats 1000000 in
theorem getOk_any (m : Nat) (s : ByteArray) (w : World) (hm : m ≤ 4294967295) (hs : s.size ≤ 1200) (h6 : (126 : UInt8) ∉ s.data.toList) (h5 : s.data.toList.getLast? ≠ some 125) :
    Calls Try.prog 123 #[.int .i64 m, .string s] w fun e w' => e = .returned (.bool true) ∧ w = w' := by
  have hk : mapOkB m = true := by simp [mapOkB]; omega
  have hidx : Lib.indexByte s.data.toList 126 = -1 := idx_none h6
  by_cases he : s.size = 0
  · have hse : s = ⟨#[]⟩ := by
      have : s.data = #[] := Array.eq_empty_of_size_eq_zero he
      cases s; simp at this; subst this; rfl
    subst hse
    go_enter Try.func123, Try.ntmps123
    go_wp2_with (first | (go_at_call 79; refine (mapOk_any _ _).mono ?_; rintro e w' ⟨rfl, hw⟩; obtain rfl := hw.symm) | (go_at_call 53; refine (idx_any _ _ _).mono ?_; rintro e w' ⟨rfl, rfl⟩))
    go_ret
    exact ⟨rfl, rfl⟩
  · obtain ⟨n, hn⟩ : ∃ n, n = s.size - 1 := ⟨_, rfl⟩
    have hnl : n < s.size := by omega
    have hlast : ¬ s[n].toNat = 125 := fun e => h5 (by rw [last_at s (by omega)]; congr 1; apply UInt8.toNat_inj.1; simp only [← hn]; exact e)
    have hb5 : ((s[n].toNat : Int) != 125) = true := by simp; omega
    have HS := Lib.hid hn
    have hsi : (s.size : Int) - 1 = (n : Int) := by omega
    clear hn
    go_enter Try.func123, Try.ntmps123
    go_wp2_with (first | (go_at_call 79; refine (mapOk_any _ _).mono ?_; rintro e w' ⟨rfl, hw⟩; obtain rfl := hw.symm) | (go_at_call 53; refine (idx_any _ _ _).mono ?_; rintro e w' ⟨rfl, rfl⟩))
    all_goals go_ret
    all_goals exact ⟨rfl, rfl⟩
theorem drop_at (s : ByteArray) (k : Nat) (h : k < s.size) : s.data.toList.drop k = s[k] :: s.data.toList.drop (k + 1) := by
  rw [List.drop_eq_getElem_cons (by simpa using h)]; rfl
set_option maxRecDepth 100000 in
set_option maxHeartbeats 4000000 in
theorem implEscGet_yes (m : Nat) (s : ByteArray) (w : World) (hm : m ≤ 4294967295) (hs : s.size ≤ 1200) (h6 : (126 : UInt8) ∉ s.data.toList) (h5 : s.data.toList.getLast? ≠ some 125) :
    Calls Try.prog 120 #[.int .i64 m, .string s] w fun e w' => e = .returned (.tuple #[.string ⟨(unR m s.data.toList).toArray⟩, .bool true]) ∧ Below w.heap.size w w' := by
  have HSL := Lib.hid (size_list s)
  have hz := zero_builderE
  have H6 := Lib.hid h6
  have H5 := Lib.hid h5
  clear h6 h5
  go_enter Try.func120, Try.ntmps120
  go_wp2_with (go_at_call 123; refine (getOk_any m s _ hm hs H6.out H5.out).mono ?_; rintro e w' ⟨rfl, rfl⟩)
  refine (mappedBy_make _ _).mono ?_
  rintro e w1 ⟨rfl, rfl⟩
  have HBX := Lib.hid (show ((w.alloc (.cells #[.pointer none, .slice none 0 0] 139)).alloc (.cells #[.int .i64 m] 3)).heap[w.heap.size + 1]? = some (.cells #[.int .i64 m] 3 (0, 0)) by
    have h := heap_alloc_new (w.alloc (.cells #[.pointer none, .slice none 0 0] 139)) (.cells #[.int .i64 m] 3)
    rw [World.size_alloc] at h
    exact h)
  have HBU := Lib.hid ((BU.fresh w).alloc (.cells #[.int .i64 m] 3))
  have HBel := Lib.hid (((Below.refl w.heap.size w).alloc (Nat.le_refl _) (.cells #[.pointer none, .slice none 0 0] 139)).alloc (by simp) (.cells #[.int .i64 m] 3))
  have hws : (w.alloc (.cells #[.pointer none, .slice none 0 0] 139)).heap.size = w.heap.size + 1 := by simp
  rw [hws]
  clear hz hws
  generalize (w.alloc (.cells #[.pointer none, .slice none 0 0] 139)).alloc (.cells #[.int .i64 m] 3) = w0 at *
  go_wp2
  go_loopw [8] (fun i wr => ∃ (k : Nat) (out : List UInt8), k ≤ s.size ∧ i = .int .i64 k ∧ wr.heap[w.heap.size + 1]? = some (.cells #[.int .i64 m] 3 (0, 0)) ∧ out.length ≤ k ∧ out ++ unR m (s.data.toList.drop k) = unR m s.data.toList ∧ BU wr w.heap.size w.heap.size out ∧ Below w.heap.size w wr) (fun i _ => s.size - (intOf i).toNat)
  case atStart => exact ⟨0, [], Nat.zero_le _, rfl, HBX.out, Nat.le_refl _, rfl, HBU.out, HBel.out⟩
  case round =>
    clear HBX HBU HBel
    obtain ⟨k, out, hk, rfl, hbx, hol, hun, hbu, hbel⟩ := hrel
    have HBX := Lib.hid hbx
    have HBU := Lib.hid hbu
    have HBel := Lib.hid hbel
    have HUN := Lib.hid hun
    have hsz := hbel.size
    have hcx : wr.cell? ⟨w.heap.size + 1, 0, none⟩ = some (.int .i64 m) := by rw [cell_of_row wr _ 0 _ _ _ hbx]; rfl
    have box : ∀ W, NB w.heap.size wr W → W.heap[w.heap.size + 1]? = some (.cells #[.int .i64 m] 3 (0, 0)) := fun W hn => by
      rw [hn.2 _ (Array.getElem?_eq_some_iff.1 hbx).1 (by omega) (fun cs fz he => by
        rw [hbx] at he; injection he with he; injection he with _ ht; exact absurd ht (by decide))]
      exact hbx
    have HBox := Lib.hid box
    clear hbx hbu hbel hun box
    by_cases hlt : k < s.size
    · have HD := Lib.hid (drop_at s k hlt)
      by_cases hc : s[k].toNat = 125
      · have hce : s[k] = 125 := by apply UInt8.toNat_inj.1; exact hc
        have hk1 : k + 1 < s.size := by
          rcases Nat.lt_or_ge (k + 1) s.size with h | h
          · exact h
          · exfalso
            apply H5.out
            rw [last_at s (by omega)]
            have e : s.size - 1 = k := by omega
            simp only [e, hce]
        have hb : ((s[k].toNat : Int) == 125) = true := by rw [beq_iff_eq]; omega
        have hx : bits .xor .u8 (s[k + 1].toNat : Int) 32 = ((s[k + 1] ^^^ 32).toNat : Int) := bits_xor_u8 s[k + 1] 32
        have HN := Lib.hid (show (out ++ [s[k + 1] ^^^ 32]) ++ unR m (s.data.toList.drop (k + 2)) = unR m s.data.toList by
          rw [← HUN.out, HD.out, drop_at s (k + 1) hk1, hce, unR_esc]; simp)
        have hki : IntKind.i64.wrap ((k : Int) + 1) = ((k + 1 : Nat) : Int) := by rw [IntKind.wrap_i64]; omega
        clear hc hce
        go_wp2_with fail
        refine (writeByte_any w.heap.size w.heap.size out (s[k + 1] ^^^ 32) _ HBU.out (by omega) (by omega)).mono ?_
        rintro e w3 ⟨rfl, hbu3, hbel3, hnb3⟩
        have HBU3 := Lib.hid hbu3
        have HBel3 := Lib.hid (HBel.out.trans hbel3)
        have HBX3 := Lib.hid (HBox.out _ hnb3)
        clear hbu3 hbel3 hnb3
        go_wp2
        go_roundw
        case rel => exact ⟨k + 2, out ++ [s[k + 1] ^^^ 32], by omega, by go_num, HBX3.out, by simp; omega, HN.out, HBU3.out, HBel3.out⟩
        case measure => simp [intOf]; omega
      · have hce : s[k] ≠ 125 := fun e => hc (by rw [e]; rfl)
        have hb : ((s[k].toNat : Int) == 125) = false := beq_eq_false_iff_ne.2 (by omega)
        cases hmb : mapB m s[k] with
        | true =>
          have HN := Lib.hid (show out ++ unR m (s.data.toList.drop (k + 1)) = unR m s.data.toList by
            rw [← HUN.out, HD.out, unR_map _ hce hmb])
          clear hc hce
          go_wp2_with fail
          refine (mapped_any m s[k] (w.heap.size + 1) wr hm hcx).mono ?_
          rintro e w1 ⟨rfl, hw⟩
          obtain rfl := hw.symm
          rw [hmb]
          go_wp2
          go_roundw
          case rel => exact ⟨k + 1, out, by omega, by go_num, HBX.out, by omega, HN.out, HBU.out, HBel.out⟩
          case measure => simp [intOf]; omega
        | false =>
          have HN := Lib.hid (show (out ++ [s[k]]) ++ unR m (s.data.toList.drop (k + 1)) = unR m s.data.toList by
            rw [← HUN.out, HD.out, unR_own _ hce hmb]; simp)
          clear hc hce
          go_wp2_with fail
          refine (mapped_any m s[k] (w.heap.size + 1) wr hm hcx).mono ?_
          rintro e w1 ⟨rfl, hw⟩
          obtain rfl := hw.symm
          rw [hmb]
          go_wp2_with fail
          refine (writeByte_any w.heap.size w.heap.size out s[k] _ HBU.out (by omega) (by omega)).mono ?_
          rintro e w3 ⟨rfl, hbu3, hbel3, hnb3⟩
          have HBU3 := Lib.hid hbu3
          have HBel3 := Lib.hid (HBel.out.trans hbel3)
          have HBX3 := Lib.hid (HBox.out _ hnb3)
          clear hbu3 hbel3 hnb3
          go_wp2
          go_roundw
          case rel => exact ⟨k + 1, out ++ [s[k]], by omega, by go_num, HBX3.out, by simp; omega, HN.out, HBU3.out, HBel3.out⟩
          case measure => simp [intOf]; omega
    · have HE := Lib.hid (show out = unR m s.data.toList by
        have h := HUN.out
        rw [List.drop_eq_nil_of_le (by rw [HSL.out]; omega)] at h
        simpa [unR] using h)
      go_wp2_with fail
      refine (string_any _ _ _ _ HBU.out (by omega)).mono ?_
      rintro e w1 ⟨rfl, hb1⟩
      have HB1 := Lib.hid (HBel.out.trans hb1)
      clear hb1
      go_wp2
      go_ret2
      exact ⟨by rw [HE.out]; rfl, HB1.out⟩
end Go.Proofs.Ytfojlpnnhghcbaa
