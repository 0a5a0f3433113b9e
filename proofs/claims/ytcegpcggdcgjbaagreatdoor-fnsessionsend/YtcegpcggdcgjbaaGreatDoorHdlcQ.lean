/- HdlcPut in the program and in the model (a session's answer 'bits'). -/
import Derived.Test.YtcegpcggdcgjbaaGreatDoorKitFindB
import Derived.Test.YtcegpcggdcgjbaaGreatDoorKitOf
import Derived.Test.YtcegpcggdcgjbaaGreatDoorStrs
import Derived.Test.YtcegpcggdcgjbaaGreatDoorKitStuff
namespace Go.Proofs.YtcegpcggdcgjbaaGreatDoor
open Go.ChangeShapes Go.WideShapes Go.ChangeAt Go.RowKit
theorem mk_toList {s : ByteArray} {l : List UInt8} (h : s.data.toList = l) : s = ⟨l.toArray⟩ := by rw [← h, Lib.mk_data]
def flagL : List UInt8 := [48, 49, 49, 49, 49, 49, 49, 48]
def bitsL (ss : List ByteArray) : List (List UInt8) := ss.map (·.data.toList)
/-- a frame as bits -/
def frameL (kd : Int) (f : List UInt8) : List UInt8 := putR (ofL (putL kd f))
def framesL (kd : Int) (ls : List (List UInt8)) : List UInt8 := flagL ++ ls.flatMap fun f => frameL kd f ++ flagL
theorem framesL_snoc (kd : Int) (ls : List (List UInt8)) (f : List UInt8) : framesL kd (ls ++ [f]) = framesL kd ls ++ frameL kd f ++ flagL := by simp [framesL]
theorem frameL_len (kd : Int) (f : List UInt8) (hk : kindB kd = true) (hf : f.length ≤ 24) : (frameL kd f).length ≤ 280 := by
  have hkd : kd = 2 ∨ kd = 4 := by simpa [kindB] using hk
  have h1 := (put_lenS (ofL (putL kd f)) 0 (by omega)).2
  rw [ofL_len, putL_len] at h1
  show (recS putStep 0 (ofL (putL kd f))).length ≤ 280
  have : kd.toNat ≤ 4 := by omega
  omega
def roomB (ss : List ByteArray) : Bool := ss.all fun s => decide (s.size ≤ 24)
theorem framesL_len (kd : Int) (hk : kindB kd = true) (ss : List ByteArray) (h : roomB ss = true) : (framesL kd (bitsL ss)).length ≤ 8 + 288 * ss.length := by
  induction ss with
  | nil => simp [framesL, bitsL, flagL]
  | cons s ss ih =>
    simp only [roomB, List.all_cons, Bool.and_eq_true, decide_eq_true_eq] at h
    have h1 := ih (by simpa [roomB] using h.2)
    have h2 := frameL_len kd s.data.toList hk (by rw [size_list]; exact h.1)
    simp only [framesL, bitsL, List.map_cons, List.flatMap_cons, List.length_append, List.length_cons] at h1 ⊢
    have h3 : flagL.length = 8 := rfl
    omega
theorem room_take {ss : List ByteArray} {k : Nat} (hk : k < ss.length) (h : roomB (ss.take k) = true) (hs : ss[k].size ≤ 24) : roomB (ss.take (k + 1)) = true := by
  unfold roomB at h ⊢
  rw [List.take_succ_eq_append_getElem hk, List.all_append, h]; simp [hs]
theorem room_not {ss : List ByteArray} {k : Nat} (hk : k < ss.length) (hs : ¬ ss[k].size ≤ 24) : roomB ss = false := by
  unfold roomB
  rw [List.all_eq_false]
  exact ⟨ss[k], List.getElem_mem _, by simpa using hs⟩
theorem bits_take (ss : List ByteArray) (k : Nat) (hk : k < ss.length) : bitsL (ss.take (k + 1)) = bitsL (ss.take k) ++ [ss[k].data.toList] := by
  unfold bitsL; rw [List.take_succ_eq_append_getElem hk]; simp only [List.map_append, List.map_cons, List.map_nil]
def roomA (kd : Int) (ss : List ByteArray) : List UInt8 := if roomB ss = true then framesL kd (bitsL ss) else []
theorem roomA_yes {kd : Int} {ss : List ByteArray} (h : roomB ss = true) : roomA kd ss = framesL kd (bitsL ss) := if_pos h
theorem roomA_no {kd : Int} {ss : List ByteArray} (h : roomB ss = false) : roomA kd ss = [] := if_neg (by rw [h]; exact Bool.false_ne_true)
def hputA (kd : Int) (ss : List ByteArray) : List UInt8 := if (kindB kd && decide (ss.length ≤ 4) && roomB ss) = true then framesL kd (bitsL ss) else []
theorem hputA_no {kd : Int} {ss : List ByteArray} (h : (kindB kd && decide (ss.length ≤ 4) && roomB ss) = false) : hputA kd ss = [] := by
  unfold hputA; rw [if_neg (by rw [h]; exact Bool.false_ne_true)]
theorem kind_le {kd : Int} (hk : kindB kd = true) : 2 ≤ kd ∧ kd ≤ 4 := by
  have : kd = 2 ∨ kd = 4 := by simpa [kindB] using hk
  omega
/-- one frame's bits, in the program: three calls -/
theorem chain_sum (kd : Int) (s : ByteArray) (w : World) (hk : kindB kd = true) (hs : s.size ≤ 24) :
    Calls Tryz.prog 23 #[.int .i64 kd, .string s] w fun e w' => e = .returned (.string ⟨(putL kd s.data.toList).toArray⟩) ∧ Below w.heap.size w w' := implPut_yes kd s w hk (by omega)
theorem mk_size (l : List UInt8) : (⟨l.toArray⟩ : ByteArray).size = l.length := by rw [← size_list]
theorem chain_of (kd : Int) (s : ByteArray) (w : World) (hk : kindB kd = true) (hs : s.size ≤ 24) :
    Calls Tryz.prog 106 #[.string ⟨(putL kd s.data.toList).toArray⟩] w fun e w' => e = .returned (.string ⟨(ofL (putL kd s.data.toList)).toArray⟩) ∧ Below w.heap.size w w' := by
  have hkl := kind_le hk
  have hl : (putL kd s.data.toList).length ≤ 28 := by rw [putL_len, size_list]; omega
  have h := implOf_any ⟨(putL kd s.data.toList).toArray⟩ w (by rw [mk_size]; omega)
  rw [show (⟨(putL kd s.data.toList).toArray⟩ : ByteArray).data.toList = putL kd s.data.toList from rfl, ofA_of (by omega)] at h
  exact h
theorem chain_put (kd : Int) (s : ByteArray) (w : World) (hk : kindB kd = true) (hs : s.size ≤ 24) :
    Calls Tryz.prog 105 #[.string ⟨(ofL (putL kd s.data.toList)).toArray⟩] w fun e w' => e = .returned (.string ⟨(frameL kd s.data.toList).toArray⟩) ∧ Below w.heap.size w w' := by
  have hkl := kind_le hk
  have hl : (putL kd s.data.toList).length ≤ 28 := by rw [putL_len, size_list]; omega
  have h := implPut_any ⟨(ofL (putL kd s.data.toList)).toArray⟩ w (by rw [mk_size, ofL_len]; omega)
  rw [show (⟨(ofL (putL kd s.data.toList)).toArray⟩ : ByteArray).data.toList = ofL (putL kd s.data.toList) from rfl, putA_yes (ofL_ok (by omega))] at h
  exact h
theorem BU.from {w w' : World} {B b : Nat} {l : List UInt8} (h : BU w B b l) (hb : Below w.heap.size w w') : BU w' B b l := by
  obtain ⟨hB, p, v, hbb, hp, hrb⟩ := h
  refine ⟨hB, p, v, (hb.block b (Array.getElem?_eq_some_iff.1 hbb).1).trans hbb, hp, ?_, hrb.2⟩
  exact hrb.1.kept (row := none) ⟨hb.os, hb.tape, hb.output, hb.size, fun g hg _ => hb.block g hg⟩ (by cases v.ownBlock <;> simp)
theorem implHput_kind (kd : Int) (v : Value) (w : World) (hk : kindB kd = false) :
    Calls Tryz.prog 74 #[.int .i64 kd, v] w fun e w' => e = .returned (.string ⟨#[]⟩) ∧ Below w.heap.size w w' := by
  go_enter Tryz.func74, Tryz.ntmps74
  go_wp2_with (go_at_call 66; refine (polyOf_no _ _ hk).mono ?_; rintro e w' ⟨rfl, rfl⟩)
  go_ret
  exact ⟨rfl, Below.refl _ _⟩
theorem implHput_many (kd : Int) (v : Value) (ss : List ByteArray) (w : World) (B : Nat) (h : RS w B v ss) (hk : kindB kd = true) (hl : 4 < ss.length) (hm : ss.length ≤ 1048576) :
    Calls Tryz.prog 74 #[.int .i64 kd, v] w fun e w' => e = .returned (.string ⟨#[]⟩) ∧ Below w.heap.size w w' := by
  obtain ⟨a, cap, rfl⟩ := h.shape
  clear h
  go_enter Tryz.func74, Tryz.ntmps74
  go_wp2_with (go_at_call 66; refine (polyOf_yes _ _ hk).mono ?_; rintro e w' ⟨rfl, rfl⟩)
  go_ret
  exact ⟨rfl, Below.refl _ _⟩
set_option maxRecDepth 100000 in
set_option maxHeartbeats 2000000 in
theorem implHput_few (kd : Int) (v : Value) (ss : List ByteArray) (w : World) (B : Nat) (h : RS w B v ss) (hB : B ≤ w.heap.size) (hk : kindB kd = true) (hl : ss.length ≤ 4) (hz : ∀ s ∈ ss, s.size ≤ 1048576) :
    Calls Tryz.prog 74 #[.int .i64 kd, v] w fun e w' => e = .returned (.string ⟨(roomA kd ss).toArray⟩) ∧ Below w.heap.size w w' := by
  obtain ⟨a, cap, rfl⟩ := h.shape
  have H := Lib.hid h
  have HZ := Lib.hid hz
  have HK := Lib.hid hk
  have hzb := zero_builder
  clear h hz hk
  go_enter Tryz.func74, Tryz.ntmps74
  go_wp2_with fail
  refine (polyOf_yes kd _ HK.out).mono ?_
  rintro e w' ⟨rfl, rfl⟩
  go_wp2_with fail
  refine (writeString_any w.heap.size w.heap.size [] ⟨#[48, 49, 49, 49, 49, 49, 49, 48]⟩ _ (BU.fresh w) (by rw [mk_size]; simp) (by simp)).mono ?_
  rintro e w1 ⟨rfl, hbu1, hbel1, _⟩
  have HBU1 := Lib.hid hbu1
  have HB1 := Lib.hid (((Below.refl _ w).alloc (Nat.le_refl _) _).trans hbel1)
  clear hbu1 hbel1 hzb
  go_wp2_with fail
  go_loopw [9, 25] (fun _ j wr => ∃ k : Nat, k ≤ ss.length ∧ j = .int .i64 k ∧ roomB (ss.take k) = true ∧ BU wr w.heap.size w.heap.size (framesL kd (bitsL (ss.take k))) ∧ Below w.heap.size w wr) (fun _ j _ => ss.length - (intOf j).toNat)
  case atStart => exact ⟨0, Nat.zero_le _, rfl, rfl, HBU1.out, HB1.out⟩
  case round =>
    obtain ⟨k, hk, rfl, hroom, hbu, hbel⟩ := hrel
    have HR := Lib.hid hroom
    have HBU := Lib.hid hbu
    have HBel := Lib.hid hbel
    have hsz := hbel.size
    have hfl := framesL_len kd HK.out _ hroom
    have htl : (ss.take k).length ≤ 4 := by rw [List.length_take]; omega
    by_cases hlt : k < ss.length
    · obtain ⟨x, rfl, hxB, c0⟩ := (H.out.below (hbel.mono hB)).at_ hlt
      have HS := Lib.hid (bits_take ss k hlt)
      have hs0 := HZ.out ss[k] (List.getElem_mem _)
      have HRN := Lib.hid (@room_not ss k hlt)
      have HRT := Lib.hid (@room_take ss k hlt)
      generalize ss[k] = s at *
      clear hroom hbu hbel HBU1 HB1
      by_cases h24 : s.size ≤ 24
      · have hfr := frameL_len kd s.data.toList HK.out (by rw [size_list]; exact h24)
        obtain ⟨out, hout⟩ : ∃ out, framesL kd (bitsL (ss.take k)) = out := ⟨_, rfl⟩
        rw [hout] at HBU hfl
        have HOut := Lib.hid hout
        clear hout
        go_wp2_with fail
        refine (chain_sum kd s _ HK.out h24).mono ?_
        rintro e w2 ⟨rfl, hb2⟩
        go_wp2_with fail
        refine (chain_of kd s _ HK.out h24).mono ?_
        rintro e w3 ⟨rfl, hb3⟩
        go_wp2_with fail
        refine (chain_put kd s _ HK.out h24).mono ?_
        rintro e w4 ⟨rfl, hb4⟩
        have hb24 := hb2.trans ((hb3.trans (hb4.mono hb3.size)).mono hb2.size)
        have HBU4 := Lib.hid (HBU.out.from hb24)
        have HBel4 := Lib.hid (HBel.out.trans (hb24.mono hsz))
        have hsz4 := HBel4.out.size
        clear hb2 hb3 hb4 hb24
        obtain ⟨T, hT⟩ : ∃ T : ByteArray, T = ⟨(frameL kd s.data.toList).toArray⟩ := ⟨_, rfl⟩
        have hTs : T.size ≤ 280 := by rw [hT, mk_size]; exact hfr
        have HT := Lib.hid (show T.data.toList = frameL kd s.data.toList by rw [hT])
        rw [← hT]
        clear hT
        go_wp2_with fail
        refine (writeString_any w.heap.size w.heap.size out T _ HBU4.out (by omega) hsz4).mono ?_
        rintro e w5 ⟨rfl, hbu5, hbel5, _⟩
        have HBU5 := Lib.hid hbu5
        have HBel5 := Lib.hid (HBel4.out.trans hbel5)
        have hl5 : (out ++ T.data.toList).length ≤ 3000 := by rw [List.length_append, size_list]; omega
        clear hbu5 hbel5
        go_wp2_with fail
        refine (writeString_any w.heap.size w.heap.size (out ++ T.data.toList) ⟨#[48, 49, 49, 49, 49, 49, 49, 48]⟩ _ HBU5.out (by rw [mk_size]; simp at hl5 ⊢; omega) HBel5.out.size).mono ?_
        rintro e w6 ⟨rfl, hbu6, hbel6, _⟩
        have HBU6 := Lib.hid hbu6
        have HBel6 := Lib.hid (HBel5.out.trans hbel6)
        clear hbu6 hbel6
        go_wp2
        go_roundw
        case rel =>
          refine ⟨k + 1, by omega, by go_num, HRT.out HR.out h24, ?_, HBel6.out⟩
          have := HBU6.out
          rw [HT.out] at this
          rw [HS.out, framesL_snoc, HOut.out]
          exact this
        case measure => simp [intOf]; omega
      · have HN := Lib.hid (HRN.out h24)
        go_wp2
        go_ret
        exact ⟨by rw [roomA_no HN.out]; rfl, HBel.out⟩
    · have HE := Lib.hid (show ss.take k = ss from List.take_of_length_le (by omega))
      rw [HE.out] at HR HBU hfl
      clear hroom hbu hbel HBU1 HB1
      go_wp2_with fail
      refine (string_any _ _ _ _ HBU.out (by omega)).mono ?_
      rintro e w2 ⟨rfl, hb2⟩
      have HB2 := Lib.hid (HBel.out.trans hb2)
      clear hb2
      go_wp2
      go_ret
      exact ⟨by rw [roomA_yes HR.out]; rfl, HB2.out⟩
theorem implHput_any (kd : Int) (v : Value) (ss : List ByteArray) (w : World) (B : Nat) (h : RS w B v ss) (hB : B ≤ w.heap.size) (hl : ss.length ≤ 1048576) (hz : ∀ s ∈ ss, s.size ≤ 1048576) :
    Calls Tryz.prog 74 #[.int .i64 kd, v] w fun e w' => e = .returned (.string ⟨(hputA kd ss).toArray⟩) ∧ Below w.heap.size w w' := by
  cases hk : kindB kd with
  | false => rw [hputA_no (by rw [hk]; rfl)]; exact implHput_kind kd v w hk
  | true =>
    by_cases h4 : ss.length ≤ 4
    · have e : hputA kd ss = roomA kd ss := by
        unfold hputA roomA; rw [hk, decide_eq_true h4, Bool.true_and, Bool.true_and]
      rw [e]
      exact implHput_few kd v ss w B h hB hk h4 hz
    · rw [hputA_no (by rw [decide_eq_false h4]; simp)]
      exact implHput_many kd v ss w B h hk (by omega) hl
theorem l4Flag_any (w : World) : Calls Tryz.prog 91 #[] w fun e w' => e = .returned (.string ⟨#[48, 49, 49, 49, 49, 49, 49, 48]⟩) ∧ w = w' := by
  go_enter Tryz.func91, Tryz.ntmps91
  go_wp2
  go_ret
  exact ⟨rfl, rfl⟩
theorem str_app (a b : ByteArray) : (a ++ b).data.toList = a.data.toList ++ b.data.toList := by simp
theorem app_size (a b : ByteArray) : (a ++ b).size = a.size + b.size := by rw [← size_list, str_app, List.length_append, size_list, size_list]
theorem l4chain_sum (kd : Int) (s : ByteArray) (w : World) (hk : kindB kd = true) (hs : s.size ≤ 24) :
    Calls Tryz.prog 84 #[.int .i64 kd, .string s] w fun e w' => e = .returned (.string ⟨(putL kd s.data.toList).toArray⟩) ∧ Below w.heap.size w w' := l1Put_any kd s w hk (by omega)
theorem l4chain_of (kd : Int) (s : ByteArray) (w : World) (hk : kindB kd = true) (hs : s.size ≤ 24) :
    Calls Tryz.prog 93 #[.string ⟨(putL kd s.data.toList).toArray⟩] w fun e w' => e = .returned (.string ⟨(ofL (putL kd s.data.toList)).toArray⟩) ∧ Below w.heap.size w w' := by
  have hkl := kind_le hk
  have hl : (putL kd s.data.toList).length ≤ 28 := by rw [putL_len, size_list]; omega
  exact l2Of_any ⟨(putL kd s.data.toList).toArray⟩ w (by rw [mk_size]; omega)
theorem l4chain_put (kd : Int) (s : ByteArray) (w : World) (hk : kindB kd = true) (hs : s.size ≤ 24) :
    Calls Tryz.prog 92 #[.string ⟨(ofL (putL kd s.data.toList)).toArray⟩] w fun e w' => e = .returned (.string ⟨(frameL kd s.data.toList).toArray⟩) ∧ Below w.heap.size w w' := by
  have hkl := kind_le hk
  have hl : (putL kd s.data.toList).length ≤ 28 := by rw [putL_len, size_list]; omega
  exact l3Put_any ⟨(ofL (putL kd s.data.toList)).toArray⟩ w (by rw [mk_size, ofL_len]; omega) (ok_bits (ofL_ok (by omega)))
set_option maxRecDepth 100000 in
set_option maxHeartbeats 2000000 in
theorem l4Put_any (kd : Int) (v : Value) (ss : List ByteArray) (w : World) (B : Nat) (h : RS w B v ss) (hB : B ≤ w.heap.size) (hk : kindB kd = true) (hl : ss.length ≤ 4) (hr : roomB ss = true) :
    Calls Tryz.prog 65 #[.int .i64 kd, v] w fun e w' => e = .returned (.string ⟨(framesL kd (bitsL ss)).toArray⟩) ∧ Below w.heap.size w w' := by
  obtain ⟨a, cap, rfl⟩ := h.shape
  have H := Lib.hid h
  have HR := Lib.hid hr
  have HK := Lib.hid hk
  clear h hr hk
  go_enter Tryz.func65, Tryz.ntmps65
  go_wp2_with (go_at_call 91; refine (l4Flag_any _).mono ?_; rintro e w' ⟨rfl, rfl⟩)
  go_loopw [5, 6] (fun o j wr => ∃ (k : Nat) (T : ByteArray), k ≤ ss.length ∧ j = .int .i64 k ∧ o = .string T ∧ T.data.toList = framesL kd (bitsL (ss.take k)) ∧ Below w.heap.size w wr) (fun _ j _ => ss.length - (intOf j).toNat)
  case atStart => exact ⟨0, _, Nat.zero_le _, rfl, rfl, rfl, Below.refl _ _⟩
  case round =>
    obtain ⟨k, T, hk, rfl, rfl, hT, hbel⟩ := hrel
    have HT := Lib.hid hT
    have HBel := Lib.hid hbel
    have hrt : roomB (ss.take k) = true := by
      have := HR.out
      unfold roomB at this ⊢
      rw [List.all_eq_true] at this ⊢
      exact fun s hs => this s (List.mem_of_mem_take hs)
    have hfl := framesL_len kd HK.out _ hrt
    have htl : (ss.take k).length ≤ 4 := by rw [List.length_take]; omega
    rw [← hT, size_list] at hfl
    by_cases hlt : k < ss.length
    · obtain ⟨x, rfl, hxB, c0⟩ := (H.out.below (hbel.mono hB)).at_ hlt
      have HS := Lib.hid (bits_take ss k hlt)
      have h24 : ss[k].size ≤ 24 := by
        have := HR.out
        unfold roomB at this
        rw [List.all_eq_true] at this
        simpa using this ss[k] (List.getElem_mem _)
      generalize ss[k] = s at *
      have hfr := frameL_len kd s.data.toList HK.out (by rw [size_list]; exact h24)
      clear hT hbel hrt
      go_wp2_with fail
      refine (l4chain_sum kd s _ HK.out h24).mono ?_
      rintro e w2 ⟨rfl, hb2⟩
      go_wp2_with fail
      refine (l4chain_of kd s _ HK.out h24).mono ?_
      rintro e w3 ⟨rfl, hb3⟩
      go_wp2_with fail
      refine (l4chain_put kd s _ HK.out h24).mono ?_
      rintro e w4 ⟨rfl, hb4⟩
      have hb24 := hb2.trans ((hb3.trans (hb4.mono hb3.size)).mono hb2.size)
      have HBel4 := Lib.hid (HBel.out.trans (hb24.mono HBel.out.size))
      clear hb2 hb3 hb4 hb24
      obtain ⟨X, hX⟩ : ∃ X : ByteArray, X = ⟨(frameL kd s.data.toList).toArray⟩ := ⟨_, rfl⟩
      have hXs : X.size ≤ 280 := by rw [hX, mk_size]; exact hfr
      have HX := Lib.hid (show X.data.toList = frameL kd s.data.toList by rw [hX])
      rw [← hX]
      clear hX
      go_wp2_with (go_at_call 91; refine (l4Flag_any _).mono ?_; rintro e w' ⟨rfl, rfl⟩)
      go_roundw
      case rel =>
        refine ⟨k + 1, _, by omega, by go_num, rfl, ?_, HBel4.out⟩
        rw [HS.out, framesL_snoc, str_app, str_app, HT.out, HX.out]
        rfl
      case measure => simp [intOf]; omega
    · have HE := Lib.hid (show ss.take k = ss from List.take_of_length_le (by omega))
      clear hT hbel
      go_wp2
      go_ret
      refine ⟨?_, HBel.out⟩
      have e : T = ⟨(framesL kd (bitsL ss)).toArray⟩ := by rw [mk_toList HT.out, HE.out]
      rw [← e]
      rfl
end Go.Proofs.YtcegpcggdcgjbaaGreatDoor
