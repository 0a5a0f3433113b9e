/- The draw of bits of frames. -/
import Derived.Test.YtekhakapmpdnaaaKitDraw
import Derived.Test.YtekhakapmpdnaaaHdlcP
import Derived.Test.YtekhakapmpdnaaaMark
import Derived.Deep.RegionWith
namespace Go.Proofs.Ytekhakapmpdnaaa
open Go.ChangeShapes Go.WideShapes Go.ChangeAt Go.RowKit
theorem Rd.from {w w' : World} {B g N : Nat} (h : Rd w B g N) (hb : Below w.heap.size w w') : Rd w' B g N := h.grow (below_grown hb none) (by simp) (by simp)
theorem grown_from {a b c : World} {g : Nat} (h : a.grownBy b (some g)) (hb : Below b.heap.size b c) : a.grownBy c (some g) := grown_trans h (below_grown hb _)
theorem wgrown_drew {a b : World} {row : Option Nat} (h : a.grownBy b row) : a.grownBy b.drew row := ⟨h.os, h.tape, h.output, h.size, h.block⟩
/-- bits, so many at most -/
def BitsUp (T : ByteArray) (n : Nat) : Prop := T.data.toList.all bitB = true ∧ T.size ≤ n
theorem BitsUp.app {T X : ByteArray} {n m : Nat} (h : BitsUp T n) (k : BitsUp X m) : BitsUp (T ++ X) (n + m) :=
  ⟨by rw [str_app, List.all_append, h.1, k.1]; rfl, by rw [app_size]; have := h.2; have := k.2; omega⟩
theorem BitsUp.mono {T : ByteArray} {n m : Nat} (h : BitsUp T n) (k : n ≤ m) : BitsUp T m := ⟨h.1, Nat.le_trans h.2 k⟩
theorem bits_flag : BitsUp ⟨#[48, 49, 49, 49, 49, 49, 49, 48]⟩ 8 := ⟨by decide, by decide⟩
theorem bits_ones : BitsUp ⟨#[49, 49, 49, 49, 49, 49, 49]⟩ 7 := ⟨by decide, by decide⟩
theorem flag_bits : flagL.all bitB = true := by decide
theorem frames_bits (kd : Int) (ls : List (List UInt8)) : (framesL kd ls).all bitB = true := by
  unfold framesL
  rw [List.all_append, flag_bits, Bool.true_and, List.all_eq_true]
  intro c hc
  obtain ⟨f, _, hf⟩ := List.mem_flatMap.1 hc
  rcases List.mem_append.1 hf with h | h
  · exact List.all_eq_true.1 (put_bits (ofL (putL kd f)) 0) c h
  · exact List.all_eq_true.1 flag_bits c h
theorem RS_one (w : World) (X : ByteArray) : RS (w.alloc (.cells #[.string X] 9)) (w.heap.size + 1) (.slice (some ⟨w.heap.size, 0, none⟩) 1 1) [X] := by
  refine ⟨_, _, rfl, fun _ => ⟨_, rfl, by simp, fun j hj => ?_⟩⟩
  obtain rfl : j = 0 := by simpa using hj
  simp [Addr.add]
def WirePost (w : World) (B g N : Nat) (e : Ending) (w' : World) : Prop := ∃ T : ByteArray, e = .returned (.string T) ∧ BitsUp T 1200 ∧ Rd w' B g N ∧ w.grownBy w' (some g)
theorem xor_bit (b : UInt8) (h : b = 48 ∨ b = 49) : ∃ c : UInt8, bitB c = true ∧ bits .xor .u8 (b.toNat : Int) 1 = (c.toNat : Int) := by
  rcases h with rfl | rfl
  · exact ⟨49, rfl, by decide⟩
  · exact ⟨48, rfl, by decide⟩
set_option maxRecDepth 100000 in
set_option maxHeartbeats 4000000 in
theorem wire_any {w : World} {B g N : Nat} (kd : Int) (hk : kindB kd = true) (h : Rd w B g N) (hN : N + 400 ≤ 1000000000) :
    Calls Try.prog 46 #[.pointer (some ⟨g, 0, none⟩), .int .i64 kd] w (WirePost w B g (N + 400)) := by
  have HR := Lib.hid h
  have HK := Lib.hid hk
  have hgl := h.lt
  clear h hk
  go_enter Try.func46, Try.ntmps46
  go_wp2_with fail
  refine (pick_any _ HR.out (by omega)).mono ?_
  rintro e w1 ⟨⟨x, rfl, hx, _⟩, hr1, hg1⟩
  obtain ⟨h0, h1⟩ := hx (by omega)
  obtain ⟨n0, rfl⟩ := Int.eq_ofNat_of_zero_le h0
  have HR1 := Lib.hid hr1
  have HG1 := Lib.hid hg1
  clear hr1 hg1 hx
  go_wp2_with fail
  go_loopw [5, 6] (fun s n wr => ∃ (k : Nat) (T : ByteArray), k ≤ 3 ∧ n = .int .i64 k ∧ s = .string T ∧ BitsUp T (310 * (3 - k)) ∧ Rd wr B g (N + 1 + 100 * (3 - k)) ∧ w.grownBy wr (some g)) (fun _ n _ => (intOf n).toNat)
  case atStart => exact ⟨n0 + 1, ⟨#[]⟩, by omega, val_int (by omega), rfl, ⟨rfl, Nat.zero_le _⟩, HR1.out.mono (by omega), HG1.out⟩
  case round =>
    obtain ⟨k, T, hk, rfl, rfl, hT, hrd, hgr⟩ := hrel
    have HT := Lib.hid hT
    have HRd := Lib.hid hrd
    have HGr := Lib.hid hgr
    have hTs := hT.2
    clear hT hrd hgr HR1 HG1
    by_cases hpos : 0 < k
    · go_wp2_with fail
      refine (pick_any _ HRd.out (by omega)).mono ?_
      rintro e w2 ⟨⟨x, rfl, hx, _⟩, hr2, hg2⟩
      obtain ⟨h0, h1⟩ := hx (by omega)
      have HR2 := Lib.hid hr2
      have HG2 := Lib.hid (grown_trans HGr.out hg2)
      have hfin : ∀ (T' : ByteArray) (w3 : World) (M : Nat), BitsUp T' (310 * (3 - k) + 310) → Rd w3 B g M → M ≤ N + 1 + 100 * (3 - k) + 100 → w.grownBy w3 (some g) →
          ∃ (k' : Nat) (T'' : ByteArray), k' ≤ 3 ∧ Value.int .i64 ((k : Int) - 1) = .int .i64 k' ∧ Value.string T' = .string T'' ∧ BitsUp T'' (310 * (3 - k')) ∧ Rd w3 B g (N + 1 + 100 * (3 - k')) ∧ w.grownBy w3 (some g) := by
        intro T' w3 M hX hM hM2 hg3
        exact ⟨k - 1, _, by omega, val_int (by omega), rfl, hX.mono (by omega), hM.mono (by omega), hg3⟩
      have HF := Lib.hid hfin
      clear hr2 hg2 hx hfin HRd HGr
      by_cases hx0 : x = 0
      · subst hx0
        go_wp2_with fail
        refine (bits_any 20 HR2.out (by omega) (by omega)).mono ?_
        rintro e w3 ⟨X, rfl, hX1, hX2, hr3, hg3⟩
        have HR3 := Lib.hid hr3
        have HG3 := Lib.hid (grown_trans HG2.out hg3)
        have HX := Lib.hid (show BitsUp X 310 from ⟨hX2, by omega⟩)
        clear hr3 hg3 hX2
        go_wp2
        go_roundw
        case rel => exact HF.out _ _ _ (HT.out.app HX.out) HR3.out (by omega) HG3.out
        case measure => simp [intOf]; omega
      have hb0 : ((x : Int) == 0) = false := beq_eq_false_iff_ne.2 hx0
      by_cases hx1 : x = 1
      · subst hx1
        clear hx0 hb0
        go_wp2_with fail
        refine (bits_any 3 HR2.out (by omega) (by omega)).mono ?_
        rintro e w3 ⟨X, rfl, hX1, hX2, hr3, hg3⟩
        have HR3 := Lib.hid hr3
        have HG3 := Lib.hid (grown_trans HG2.out hg3)
        have HX := Lib.hid (show BitsUp X 3 from ⟨hX2, hX1⟩)
        clear hr3 hg3 hX2
        go_wp2
        go_roundw
        case rel => exact HF.out _ _ _ (((HT.out.app bits_ones).app HX.out).mono (by omega)) HR3.out (by omega) HG3.out
        case measure => simp [intOf]; omega
      have hb1 : ((x : Int) == 1) = false := beq_eq_false_iff_ne.2 hx1
      by_cases hx2 : x = 2
      · subst hx2
        clear hx0 hx1 hb0 hb1
        go_wp2_with (go_at_call 60; refine (l4Flag_any _).mono ?_; rintro e w' ⟨rfl, rfl⟩)
        refine (bytes_any 30 HR2.out (by omega) (by omega)).mono ?_
        rintro e w3 ⟨X, rfl, hX1, hr3, hg3⟩
        have HR3 := Lib.hid hr3
        have HG3 := Lib.hid (grown_trans HG2.out hg3)
        clear hr3 hg3
        go_wp2_with fail
        refine (l2Of_any X _ (by omega)).mono ?_
        rintro e w4 ⟨rfl, hb4⟩
        have HR4 := Lib.hid (HR3.out.from hb4)
        have HG4 := Lib.hid (grown_from HG3.out hb4)
        clear hb4
        have hXl : X.data.toList.length ≤ 30 := by rw [size_list]; exact hX1
        have HOk := Lib.hid (ofL_ok (l := X.data.toList) (by omega))
        obtain ⟨Y, hY⟩ : ∃ Y : ByteArray, Y = ⟨(ofL X.data.toList).toArray⟩ := ⟨_, rfl⟩
        have HY := Lib.hid (show Y.data.toList = ofL X.data.toList by rw [hY])
        have hYs : Y.size ≤ 240 := by rw [hY, mk_size, ofL_len]; omega
        rw [← hY]
        clear hY
        go_wp2_with fail
        refine (l3Put_any Y _ (by omega) (by rw [HY.out]; exact ok_bits HOk.out)).mono ?_
        rintro e w5 ⟨rfl, hb5⟩
        have HR5 := Lib.hid (HR4.out.from hb5)
        have HG5 := Lib.hid (grown_from HG4.out hb5)
        clear hb5
        have hpl := (put_len Y.data.toList 0 (by omega)).2
        rw [size_list] at hpl
        have HZB := Lib.hid (put_bits Y.data.toList 0)
        obtain ⟨Z, hZ⟩ : ∃ Z : ByteArray, Z = ⟨(putR Y.data.toList).toArray⟩ := ⟨_, rfl⟩
        have hZs : Z.size ≤ 290 := by rw [hZ, mk_size]; show (recS putStep 0 Y.data.toList).length ≤ 290; omega
        have HZU := Lib.hid (show BitsUp Z 290 from ⟨by rw [hZ]; exact HZB.out, hZs⟩)
        rw [show (⟨(recS putStep 0 Y.data.toList).toArray⟩ : ByteArray) = Z from hZ.symm]
        clear hZ hpl
        go_wp2_with (go_at_call 60; refine (l4Flag_any _).mono ?_; rintro e w' ⟨rfl, rfl⟩)
        go_roundw
        case rel => exact HF.out _ _ _ ((((HT.out.app bits_flag).app HZU.out).app bits_flag).mono (by omega)) HR5.out (by omega) HG5.out
        case measure => simp [intOf]; omega
      have hb2 : ((x : Int) == 2) = false := beq_eq_false_iff_ne.2 hx2
      clear hx0 hx1 hx2
      go_wp2_with fail
      refine (bytes_any 8 HR2.out (by omega) (by omega)).mono ?_
      rintro e w3 ⟨X, rfl, hX1, hr3, hg3⟩
      have HR3 := Lib.hid hr3
      have HG3 := Lib.hid (grown_trans HG2.out hg3)
      clear hr3 hg3
      go_wp2_with fail
      refine (l4Put_any kd (.slice (some ⟨w3.heap.size, 0, none⟩) 1 1) [X] _ (w3.heap.size + 1) (RS_one w3 X) (by simp) HK.out (by simp) (by simp [roomB]; omega)).mono ?_
      rintro e w4 ⟨rfl, hb4⟩
      have hb34 : Below w3.heap.size w3 w4 := ((Below.refl _ w3).alloc (Nat.le_refl _) _).trans (hb4.mono (by simp))
      have HR4 := Lib.hid (HR3.out.from hb34)
      have HG4 := Lib.hid (grown_from HG3.out hb34)
      clear hb4 hb34
      have hfl := framesL_len kd HK.out [X] (by simp [roomB]; omega)
      have HFB := Lib.hid (frames_bits kd (bitsL [X]))
      obtain ⟨Z, hZ⟩ : ∃ Z : ByteArray, Z = ⟨(framesL kd (bitsL [X])).toArray⟩ := ⟨_, rfl⟩
      have HZU := Lib.hid (show BitsUp Z 296 from ⟨by rw [hZ]; exact HFB.out, by rw [hZ, mk_size]; simpa using hfl⟩)
      rw [← hZ]
      have hZs := HZU.out.2
      clear hZ hfl
      go_wp2
      go_roundw
      case rel => exact HF.out _ _ _ ((HT.out.app HZU.out).mono (by omega)) HR4.out (by omega) HG4.out
      case measure => simp [intOf]; omega
    · obtain rfl : k = 0 := by omega
      go_wp2_with fail
      refine (pick_any _ HRd.out (by omega)).mono ?_
      rintro e w2 ⟨⟨x, rfl, hx, _⟩, hr2, hg2⟩
      obtain ⟨h0, h1⟩ := hx (by omega)
      obtain ⟨q, rfl⟩ := Int.eq_ofNat_of_zero_le h0
      have HR2 := Lib.hid hr2
      have HG2 := Lib.hid (grown_trans HGr.out hg2)
      clear hr2 hg2 hx
      go_wp2_with fail
      refine (pick_any _ HR2.out (by omega)).mono ?_
      rintro e w3 ⟨⟨x, rfl, hx, _⟩, hr3, hg3⟩
      have HR3 := Lib.hid hr3
      have HG3 := Lib.hid (grown_trans HG2.out hg3)
      clear hr3 hg3 hx
      by_cases hx0 : x = 0
      · subst hx0
        by_cases hq : q < T.size
        · have hbq := bit_at HT.out.1 hq
          obtain ⟨c, hc1, hc2⟩ := xor_bit _ hbq
          clear hbq
          have hcv := run_string_of_OB (P := Try.prog) ((w3.alloc (.cells #[.int .u8 c.toNat] 5)).drew) 22 9 5 0 (.slice (some ⟨w3.heap.size, 0, none⟩) 1 1) [c] Try.underlying22 Try.underlying5 Try.underlying9 ((OB_one 5 w3 0 (Nat.zero_le _) c _ rfl).drew)
          have hwr : IntKind.i64.wrap ((q : Int) + 1) = (q : Int) + 1 := wrap_in _ (by omega) (by omega)
          have hE1 : (T.extract 0 q).data.toList = T.data.toList.take q := ext_head T q
          have HU := Lib.hid (show BitsUp (T.extract 0 q ++ ⟨[c].toArray⟩ ++ T.extract (q + 1) T.size) 1200 by
            have hs : (T.extract (q + 1) T.size).data.toList = T.data.toList.drop (q + 1) := by
              rw [ByteArray.data_extract, Array.toList_extract, List.extract_eq_take_drop]
              rw [List.take_of_length_le]
              rw [List.length_drop, size_list]; omega
            refine ⟨?_, ?_⟩
            · rw [str_app, str_app, hE1, hs, List.all_append, List.all_append]
              have h1 : (T.data.toList.take q).all bitB = true := take_bits HT.out.1 q
              have h2 : (T.data.toList.drop (q + 1)).all bitB = true := by
                have := HT.out.1
                rw [List.all_eq_true] at this ⊢
                exact fun x hx => this x (List.mem_of_mem_drop hx)
              rw [h1, h2]
              simp [hc1]
            · rw [app_size, app_size, ← size_list, ← size_list (T.extract (q + 1) T.size), hE1, hs, mk_size, List.length_take, List.length_drop, size_list]
              simp; omega)
          have HC := Lib.hid hc1
          clear hE1 hc1
          go_wp2_with fail
          go_region
          have HG4 := Lib.hid (show w.grownBy ((w3.alloc (.cells #[.int .u8 c.toNat] 5)).drew) (some g) from wgrown_drew (grown_alloc HG3.out _))
          have HR4 := Lib.hid ((HR3.out.alloc (.cells #[.int .u8 c.toNat] 5)).drew)
          clear hcv hwr hc2
          go_wp2
          go_ret
          exact ⟨_, rfl, HU.out, HR4.out.mono (by omega), HG4.out⟩
        · go_wp2
          go_ret
          exact ⟨_, rfl, HT.out.mono (by omega), HR3.out.mono (by omega), HG3.out⟩
      · have hb0 : ((x : Int) == 0) = false := beq_eq_false_iff_ne.2 hx0
        go_wp2
        go_ret
        exact ⟨_, rfl, HT.out.mono (by omega), HR3.out.mono (by omega), HG3.out⟩
end Go.Proofs.Ytekhakapmpdnaaa
