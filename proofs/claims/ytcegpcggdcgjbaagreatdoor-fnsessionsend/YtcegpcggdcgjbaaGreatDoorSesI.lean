/- A session in the model: a line; a session. -/
import Derived.Test.YtcegpcggdcgjbaaGreatDoorSesH
import Derived.Test.YtcegpcggdcgjbaaGreatDoorSesC
namespace Go.Proofs.YtcegpcggdcgjbaaGreatDoor
open Go.ChangeShapes Go.WideShapes Go.ChangeAt Go.RowKit
open Go.Lib (decDigits)
set_option linter.unusedVariables false
theorem cut32_any (t : ByteArray) (w : World) (h : lineOk t.data.toList) : Calls Tryz.prog 32 #[.string t, .int .u8 32, .int .i64 5] w (Cut5Post w t 32) :=
  l1Cut5_any t 32 w (by rw [← size_list]; have := h.1; omega) h.2.1
theorem OS.cap_le {w : World} {base r n cap : Nat} {ss : List ByteArray} (h : OS w base (.slice (some ⟨r, 0, none⟩) n cap) ss) : n ≤ cap := by
  have hn : n = ss.length := by
    obtain ⟨a, c, e⟩ := h.reads.shape
    injection e with _ e2 _
  rcases h.2 with ⟨e, _⟩ | ⟨g', cap', cur', e, _, _, hc, _⟩
  · cases e
  · injection e with _ e2 e3; rw [e3, hn]; exact hc
theorem toks_inj {ss ss' : List ByteArray} (h : toks ss = toks ss') : ss = ss' := by
  have hi : ∀ x y : ByteArray, x.data.toList = y.data.toList → x = y := fun x y e => by rw [← Lib.mk_data x, ← Lib.mk_data y, e]
  induction ss generalizing ss' with
  | nil => cases ss' with
    | nil => rfl
    | cons b r => simp [toks] at h
  | cons a r ih => cases ss' with
    | nil => simp [toks] at h
    | cons b r' =>
      have h' : a.data.toList :: toks r = b.data.toList :: toks r' := h
      injection h' with h1 h2
      rw [hi a b h1, ih h2]
theorem words_sizes {l : List UInt8} {ss : List ByteArray} (hl : lineOk l) (hw : wordsL l = toks ss) : ∀ b ∈ ss, b.size ≤ 200 := by
  intro b hb
  have hm : b.data.toList ∈ wordsL l := by rw [hw]; exact List.mem_map.2 ⟨b, hb, rfl⟩
  have := word_len hm
  rw [size_list] at this
  have := hl.1
  omega
set_option maxRecDepth 100000 in
set_option maxHeartbeats 1000000 in
theorem dline1 (s : St) (hok : s.Ok) (g : Nat) (t a : ByteArray) (w : World) (h : DB w g s) (hl : lineOk t.data.toList) (hw : wordsL t.data.toList = toks [a]) :
    Calls Tryz.prog 20 #[.pointer (some ⟨g, 0, none⟩), .string t] w (DPost w g (ansS s (toks [a]))) := by
  have HCUT := Lib.hid (show Calls Tryz.prog 32 #[.string t, .int .u8 32, .int .i64 5] w fun e w' => ∃ r cap, e = .returned (.slice (some ⟨r, 0, none⟩) 1 cap) ∧ OS w' w.heap.size (.slice (some ⟨r, 0, none⟩) 1 cap) [a] ∧ Below w.heap.size w w' from (cut32_any t w hl).mono fun e w' ⟨v, ss, he, ho, hm, hb⟩ => by
    have hss : ss = [a] := toks_inj (hm.trans hw)
    subst hss
    obtain ⟨r, cap, rfl, _, _⟩ := ho.pos (by simp)
    exact ⟨r, cap, he, ho, hb⟩)
  have HDB := Lib.hid h
  have hgw := h.lt
  have htw : t.size ≤ 200 := by rw [← size_list]; exact hl.1
  have hsz := words_sizes hl hw
  clear hl hw h
  by_cases hs1 : a.data.toList = wSet
  · have e1 : (a.toList == [115, 101, 116]) = true := by rw [tok_eq]; exact decide_eq_true hs1
    have e2 : (a.toList == [104, 101, 108, 100]) = false := by rw [tok_eq]; exact decide_eq_false (by rw [hs1]; decide)
    have HE := Lib.hid (show ansS s (toks [a]) = (s, aWhat) by show (if _ then _ else _) = _; exact if_neg (by show ¬ a.data.toList = wHeld; rw [hs1]; decide))
    clear hs1
    go_enter Tryz.func20, Tryz.ntmps20
    go_wp2_with fail
    refine HCUT.out.mono ?_
    rintro ee w1 ⟨r, cap, rfl, ho1, hb1⟩
    have k0 : w1.cell? ⟨r, 0, none⟩ = some (.string a) := ho1.cellAt (k := 0) (by simp)
    have hcap : 1 ≤ cap := ho1.cap_le
    have hrw : r < w1.heap.size := (ho1.low r rfl).2
    have hd1 : DB w1 g s := BK.from HDB.out hb1
    have HB1 := Lib.hid hb1
    have HD1 := Lib.hid hd1
    have HO1 := Lib.hid ho1
    clear ho1 hb1 hd1
    go_wp2
    go_ret
    exact ⟨by rw [HE.out]; rfl, by rw [HE.out]; exact HD1.out, grownB HB1.out⟩
  · have e1 : (a.toList == [115, 101, 116]) = false := by rw [tok_eq]; exact decide_eq_false hs1
    by_cases hh1 : a.data.toList = wHeld
    · have e2 : (a.toList == [104, 101, 108, 100]) = true := by rw [tok_eq]; exact decide_eq_true hh1
      have HE := Lib.hid (show ansS s (toks [a]) = (s, decDigits s.fd.held.length) by show (if _ then _ else _) = _; exact if_pos hh1)
      obtain ⟨H, hH⟩ : ∃ H : ByteArray, H = ⟨s.fd.held.toArray⟩ := ⟨_, rfl⟩
      have hHs : H.size = s.fd.held.length := by rw [hH]; simp [ByteArray.size]
      have HHS := Lib.hid hHs
      have HHE := Lib.hid hH
      have hhl := hok.held
      have hH92 : H.size ≤ 92 := by omega
      have HI := Lib.hid (fun u => l1Dec_any H.size (by omega) u)
      have hd := dec_len10 H.size (by omega)
      obtain ⟨X, hX, hXd, hXs⟩ := text_of (decDigits H.size)
      have HX := Lib.hid hX
      have HXd := Lib.hid hXd
      have hX1 : X.size ≤ 10 := by omega
      obtain ⟨C, hC, hcat⟩ := nl_any X (by omega)
      have HC := Lib.hid hC
      clear hs1 hh1 hH hHs hhl hX hXd hXs hC hd
      go_enter Tryz.func20, Tryz.ntmps20
      go_wp2_with fail
      refine HCUT.out.mono ?_
      rintro ee w1 ⟨r, cap, rfl, ho1, hb1⟩
      have k0 : w1.cell? ⟨r, 0, none⟩ = some (.string a) := ho1.cellAt (k := 0) (by simp)
      have hcap : 1 ≤ cap := ho1.cap_le
      have hrw : r < w1.heap.size := (ho1.low r rfl).2
      have hd1 : DB w1 g s := BK.from HDB.out hb1
      have HB1 := Lib.hid hb1
      have HD1 := Lib.hid hd1
      have HO1 := Lib.hid ho1
      have s4 : w1.cell? ⟨g, 4, none⟩ = some (.string H) := by rw [HHE.out]; exact (DB.cells hd1).2.2.2.2.1
      clear ho1 hb1 hd1
      go_wp2_with fail
      refine (HI.out _).mono ?_
      rintro ee w2 ⟨rfl, hb2⟩
      rw [HX.out]
      have HB2 := Lib.hid (HB1.out.trans (hb2.mono HB1.out.size))
      have HD2 := Lib.hid (show DB w2 g s from BK.from HD1.out hb2)
      clear hb2
      go_wp2
      go_ret
      exact ⟨by rw [HE.out, ← HHS.out, ← HXd.out, ← HC.out]; rfl, by rw [HE.out]; exact HD2.out, grownB HB2.out⟩
    · have e2 : (a.toList == [104, 101, 108, 100]) = false := by rw [tok_eq]; exact decide_eq_false hh1
      have HE := Lib.hid (show ansS s (toks [a]) = (s, aWhat) by show (if _ then _ else _) = _; exact if_neg hh1)
      clear hs1 hh1
      go_enter Tryz.func20, Tryz.ntmps20
      go_wp2_with fail
      refine HCUT.out.mono ?_
      rintro ee w1 ⟨r, cap, rfl, ho1, hb1⟩
      have k0 : w1.cell? ⟨r, 0, none⟩ = some (.string a) := ho1.cellAt (k := 0) (by simp)
      have hcap : 1 ≤ cap := ho1.cap_le
      have hrw : r < w1.heap.size := (ho1.low r rfl).2
      have hd1 : DB w1 g s := BK.from HDB.out hb1
      have HB1 := Lib.hid hb1
      have HD1 := Lib.hid hd1
      have HO1 := Lib.hid ho1
      clear ho1 hb1 hd1
      go_wp2
      go_ret
      exact ⟨by rw [HE.out]; rfl, by rw [HE.out]; exact HD1.out, grownB HB1.out⟩
set_option maxRecDepth 100000 in
set_option maxHeartbeats 1000000 in
theorem dline2 (s : St) (hok : s.Ok) (g : Nat) (t a b : ByteArray) (w : World) (h : DB w g s) (hl : lineOk t.data.toList) (hw : wordsL t.data.toList = toks [a, b]) :
    Calls Tryz.prog 20 #[.pointer (some ⟨g, 0, none⟩), .string t] w (DPost w g (ansS s (toks [a, b]))) := by
  have HCUT := Lib.hid (show Calls Tryz.prog 32 #[.string t, .int .u8 32, .int .i64 5] w fun e w' => ∃ r cap, e = .returned (.slice (some ⟨r, 0, none⟩) 2 cap) ∧ OS w' w.heap.size (.slice (some ⟨r, 0, none⟩) 2 cap) [a, b] ∧ Below w.heap.size w w' from (cut32_any t w hl).mono fun e w' ⟨v, ss, he, ho, hm, hb⟩ => by
    have hss : ss = [a, b] := toks_inj (hm.trans hw)
    subst hss
    obtain ⟨r, cap, rfl, _, _⟩ := ho.pos (by simp)
    exact ⟨r, cap, he, ho, hb⟩)
  have HDB := Lib.hid h
  have hgw := h.lt
  have htw : t.size ≤ 200 := by rw [← size_list]; exact hl.1
  have hsz := words_sizes hl hw
  clear hl hw h
  by_cases hs1 : a.data.toList = wSet
  · have e1 : (a.toList == [115, 101, 116]) = true := by rw [tok_eq]; exact decide_eq_true hs1
    have e2 : (a.toList == [104, 101, 108, 100]) = false := by rw [tok_eq]; exact decide_eq_false (by rw [hs1]; decide)
    clear hs1
    go_enter Tryz.func20, Tryz.ntmps20
    go_wp2_with fail
    refine HCUT.out.mono ?_
    rintro ee w1 ⟨r, cap, rfl, ho1, hb1⟩
    obtain ⟨k0, k1⟩ : w1.cell? ⟨r, 0, none⟩ = some (.string a) ∧ w1.cell? ⟨r, 1, none⟩ = some (.string b) := ⟨ho1.cellAt (k := 0) (by simp), ho1.cellAt (k := 1) (by simp)⟩
    have hcap : 2 ≤ cap := ho1.cap_le
    have hrw : r < w1.heap.size := (ho1.low r rfl).2
    have hd1 : DB w1 g s := BK.from HDB.out hb1
    have HB1 := Lib.hid hb1
    have HD1 := Lib.hid hd1
    have HO1 := Lib.hid ho1
    clear ho1 hb1 hd1
    go_wp2_with fail
    refine (l9Bytes_any b _ (by have := hsz b (by simp); omega)).mono ?_
    rintro ee w2 ⟨⟨T, rfl, hTk⟩, hb2⟩
    have hk2 := HO1.out.below hb2
    have k0 : w2.cell? ⟨r, 0, none⟩ = some (.string a) := hk2.cellAt (k := 0) (by simp)
    have HB2 := Lib.hid (HB1.out.trans (hb2.mono HB1.out.size))
    have HD2 := Lib.hid (show DB w2 g s from BK.from HD1.out hb2)
    have hlen := getH_len b.data.toList
    clear hb2 hk2
    cases hgo : getHOk b.data.toList with
    | false =>
      have HE := Lib.hid (show ansS s (toks [a, b]) = (s, aWhat) by show (if _ then _ else _) = _; rw [if_neg (by rw [hgo]; exact Bool.false_ne_true)])
      clear hTk hgo
      go_wp2
      go_ret
      exact ⟨by rw [HE.out]; rfl, by rw [HE.out]; exact HD2.out, grownB HB2.out⟩
    | true =>
      have hTd : T.data.toList = getH b.data.toList := by rw [hTk hgo]
      have hTs : T.size ≤ 40 := by rw [← size_list, hTd]; exact hlen
      have HE := Lib.hid (show ansS s (toks [a, b]) = twoS s a.data.toList T.data.toList by show (if _ then _ else _) = _; rw [if_pos hgo, hTd])
      clear hTk hgo hTd
      go_wp2_with fail
      refine (dtwo_any s hok g a T _ HD2.out hTs).mono ?_
      rintro ee w3 ⟨rfl, hd3, hg3⟩
      have HD3 := Lib.hid hd3
      have HG3 := Lib.hid (grown_trans (grownB (g := g) HB2.out) hg3)
      clear hd3 hg3
      go_wp2
      go_ret
      exact ⟨by rw [HE.out]; rfl, by rw [HE.out]; exact HD3.out, HG3.out⟩
  · have e1 : (a.toList == [115, 101, 116]) = false := by rw [tok_eq]; exact decide_eq_false hs1
    by_cases hh1 : a.data.toList = wHeld
    · have e2 : (a.toList == [104, 101, 108, 100]) = true := by rw [tok_eq]; exact decide_eq_true hh1
      clear hs1 hh1
      go_enter Tryz.func20, Tryz.ntmps20
      go_wp2_with fail
      refine HCUT.out.mono ?_
      rintro ee w1 ⟨r, cap, rfl, ho1, hb1⟩
      obtain ⟨k0, k1⟩ : w1.cell? ⟨r, 0, none⟩ = some (.string a) ∧ w1.cell? ⟨r, 1, none⟩ = some (.string b) := ⟨ho1.cellAt (k := 0) (by simp), ho1.cellAt (k := 1) (by simp)⟩
      have hcap : 2 ≤ cap := ho1.cap_le
      have hrw : r < w1.heap.size := (ho1.low r rfl).2
      have hd1 : DB w1 g s := BK.from HDB.out hb1
      have HB1 := Lib.hid hb1
      have HD1 := Lib.hid hd1
      have HO1 := Lib.hid ho1
      clear ho1 hb1 hd1
      go_wp2_with fail
      refine (l9Bytes_any b _ (by have := hsz b (by simp); omega)).mono ?_
      rintro ee w2 ⟨⟨T, rfl, hTk⟩, hb2⟩
      have hk2 := HO1.out.below hb2
      have k0 : w2.cell? ⟨r, 0, none⟩ = some (.string a) := hk2.cellAt (k := 0) (by simp)
      have HB2 := Lib.hid (HB1.out.trans (hb2.mono HB1.out.size))
      have HD2 := Lib.hid (show DB w2 g s from BK.from HD1.out hb2)
      have hlen := getH_len b.data.toList
      clear hb2 hk2
      cases hgo : getHOk b.data.toList with
      | false =>
        have HE := Lib.hid (show ansS s (toks [a, b]) = (s, aWhat) by show (if _ then _ else _) = _; rw [if_neg (by rw [hgo]; exact Bool.false_ne_true)])
        clear hTk hgo
        go_wp2
        go_ret
        exact ⟨by rw [HE.out]; rfl, by rw [HE.out]; exact HD2.out, grownB HB2.out⟩
      | true =>
        have hTd : T.data.toList = getH b.data.toList := by rw [hTk hgo]
        have hTs : T.size ≤ 40 := by rw [← size_list, hTd]; exact hlen
        have HE := Lib.hid (show ansS s (toks [a, b]) = twoS s a.data.toList T.data.toList by show (if _ then _ else _) = _; rw [if_pos hgo, hTd])
        clear hTk hgo hTd
        go_wp2_with fail
        refine (dtwo_any s hok g a T _ HD2.out hTs).mono ?_
        rintro ee w3 ⟨rfl, hd3, hg3⟩
        have HD3 := Lib.hid hd3
        have HG3 := Lib.hid (grown_trans (grownB (g := g) HB2.out) hg3)
        clear hd3 hg3
        go_wp2
        go_ret
        exact ⟨by rw [HE.out]; rfl, by rw [HE.out]; exact HD3.out, HG3.out⟩
    · have e2 : (a.toList == [104, 101, 108, 100]) = false := by rw [tok_eq]; exact decide_eq_false hh1
      clear hs1 hh1
      go_enter Tryz.func20, Tryz.ntmps20
      go_wp2_with fail
      refine HCUT.out.mono ?_
      rintro ee w1 ⟨r, cap, rfl, ho1, hb1⟩
      obtain ⟨k0, k1⟩ : w1.cell? ⟨r, 0, none⟩ = some (.string a) ∧ w1.cell? ⟨r, 1, none⟩ = some (.string b) := ⟨ho1.cellAt (k := 0) (by simp), ho1.cellAt (k := 1) (by simp)⟩
      have hcap : 2 ≤ cap := ho1.cap_le
      have hrw : r < w1.heap.size := (ho1.low r rfl).2
      have hd1 : DB w1 g s := BK.from HDB.out hb1
      have HB1 := Lib.hid hb1
      have HD1 := Lib.hid hd1
      have HO1 := Lib.hid ho1
      clear ho1 hb1 hd1
      go_wp2_with fail
      refine (l9Bytes_any b _ (by have := hsz b (by simp); omega)).mono ?_
      rintro ee w2 ⟨⟨T, rfl, hTk⟩, hb2⟩
      have hk2 := HO1.out.below hb2
      have k0 : w2.cell? ⟨r, 0, none⟩ = some (.string a) := hk2.cellAt (k := 0) (by simp)
      have HB2 := Lib.hid (HB1.out.trans (hb2.mono HB1.out.size))
      have HD2 := Lib.hid (show DB w2 g s from BK.from HD1.out hb2)
      have hlen := getH_len b.data.toList
      clear hb2 hk2
      cases hgo : getHOk b.data.toList with
      | false =>
        have HE := Lib.hid (show ansS s (toks [a, b]) = (s, aWhat) by show (if _ then _ else _) = _; rw [if_neg (by rw [hgo]; exact Bool.false_ne_true)])
        clear hTk hgo
        go_wp2
        go_ret
        exact ⟨by rw [HE.out]; rfl, by rw [HE.out]; exact HD2.out, grownB HB2.out⟩
      | true =>
        have hTd : T.data.toList = getH b.data.toList := by rw [hTk hgo]
        have hTs : T.size ≤ 40 := by rw [← size_list, hTd]; exact hlen
        have HE := Lib.hid (show ansS s (toks [a, b]) = twoS s a.data.toList T.data.toList by show (if _ then _ else _) = _; rw [if_pos hgo, hTd])
        clear hTk hgo hTd
        go_wp2_with fail
        refine (dtwo_any s hok g a T _ HD2.out hTs).mono ?_
        rintro ee w3 ⟨rfl, hd3, hg3⟩
        have HD3 := Lib.hid hd3
        have HG3 := Lib.hid (grown_trans (grownB (g := g) HB2.out) hg3)
        clear hd3 hg3
        go_wp2
        go_ret
        exact ⟨by rw [HE.out]; rfl, by rw [HE.out]; exact HD3.out, HG3.out⟩
set_option maxRecDepth 100000 in
set_option maxHeartbeats 1000000 in
theorem dline3 (s : St) (hok : s.Ok) (g : Nat) (t a b c : ByteArray) (w : World) (h : DB w g s) (hl : lineOk t.data.toList) (hw : wordsL t.data.toList = toks [a, b, c]) :
    Calls Tryz.prog 20 #[.pointer (some ⟨g, 0, none⟩), .string t] w (DPost w g (ansS s (toks [a, b, c]))) := by
  have HCUT := Lib.hid (show Calls Tryz.prog 32 #[.string t, .int .u8 32, .int .i64 5] w fun e w' => ∃ r cap, e = .returned (.slice (some ⟨r, 0, none⟩) 3 cap) ∧ OS w' w.heap.size (.slice (some ⟨r, 0, none⟩) 3 cap) [a, b, c] ∧ Below w.heap.size w w' from (cut32_any t w hl).mono fun e w' ⟨v, ss, he, ho, hm, hb⟩ => by
    have hss : ss = [a, b, c] := toks_inj (hm.trans hw)
    subst hss
    obtain ⟨r, cap, rfl, _, _⟩ := ho.pos (by simp)
    exact ⟨r, cap, he, ho, hb⟩)
  have HDB := Lib.hid h
  have hgw := h.lt
  have htw : t.size ≤ 200 := by rw [← size_list]; exact hl.1
  have hsz := words_sizes hl hw
  clear hl hw h
  by_cases hs1 : a.data.toList = wSet
  · have e1 : (a.toList == [115, 101, 116]) = true := by rw [tok_eq]; exact decide_eq_true hs1
    have e2 : (a.toList == [104, 101, 108, 100]) = false := by rw [tok_eq]; exact decide_eq_false (by rw [hs1]; decide)
    have HE := Lib.hid (show ansS s (toks [a, b, c]) = (s, aWhat) by rfl)
    clear hs1
    go_enter Tryz.func20, Tryz.ntmps20
    go_wp2_with fail
    refine HCUT.out.mono ?_
    rintro ee w1 ⟨r, cap, rfl, ho1, hb1⟩
    obtain ⟨k0, k1, k2⟩ : w1.cell? ⟨r, 0, none⟩ = some (.string a) ∧ w1.cell? ⟨r, 1, none⟩ = some (.string b) ∧ w1.cell? ⟨r, 2, none⟩ = some (.string c) := ⟨ho1.cellAt (k := 0) (by simp), ho1.cellAt (k := 1) (by simp), ho1.cellAt (k := 2) (by simp)⟩
    have hcap : 3 ≤ cap := ho1.cap_le
    have hrw : r < w1.heap.size := (ho1.low r rfl).2
    have hd1 : DB w1 g s := BK.from HDB.out hb1
    have HB1 := Lib.hid hb1
    have HD1 := Lib.hid hd1
    have HO1 := Lib.hid ho1
    clear ho1 hb1 hd1
    go_wp2
    go_ret
    exact ⟨by rw [HE.out]; rfl, by rw [HE.out]; exact HD1.out, grownB HB1.out⟩
  · have e1 : (a.toList == [115, 101, 116]) = false := by rw [tok_eq]; exact decide_eq_false hs1
    by_cases hh1 : a.data.toList = wHeld
    · have e2 : (a.toList == [104, 101, 108, 100]) = true := by rw [tok_eq]; exact decide_eq_true hh1
      have HE := Lib.hid (show ansS s (toks [a, b, c]) = (s, aWhat) by rfl)
      clear hs1 hh1
      go_enter Tryz.func20, Tryz.ntmps20
      go_wp2_with fail
      refine HCUT.out.mono ?_
      rintro ee w1 ⟨r, cap, rfl, ho1, hb1⟩
      obtain ⟨k0, k1, k2⟩ : w1.cell? ⟨r, 0, none⟩ = some (.string a) ∧ w1.cell? ⟨r, 1, none⟩ = some (.string b) ∧ w1.cell? ⟨r, 2, none⟩ = some (.string c) := ⟨ho1.cellAt (k := 0) (by simp), ho1.cellAt (k := 1) (by simp), ho1.cellAt (k := 2) (by simp)⟩
      have hcap : 3 ≤ cap := ho1.cap_le
      have hrw : r < w1.heap.size := (ho1.low r rfl).2
      have hd1 : DB w1 g s := BK.from HDB.out hb1
      have HB1 := Lib.hid hb1
      have HD1 := Lib.hid hd1
      have HO1 := Lib.hid ho1
      clear ho1 hb1 hd1
      go_wp2
      go_ret
      exact ⟨by rw [HE.out]; rfl, by rw [HE.out]; exact HD1.out, grownB HB1.out⟩
    · have e2 : (a.toList == [104, 101, 108, 100]) = false := by rw [tok_eq]; exact decide_eq_false hh1
      have HE := Lib.hid (show ansS s (toks [a, b, c]) = (s, aWhat) by rfl)
      clear hs1 hh1
      go_enter Tryz.func20, Tryz.ntmps20
      go_wp2_with fail
      refine HCUT.out.mono ?_
      rintro ee w1 ⟨r, cap, rfl, ho1, hb1⟩
      obtain ⟨k0, k1, k2⟩ : w1.cell? ⟨r, 0, none⟩ = some (.string a) ∧ w1.cell? ⟨r, 1, none⟩ = some (.string b) ∧ w1.cell? ⟨r, 2, none⟩ = some (.string c) := ⟨ho1.cellAt (k := 0) (by simp), ho1.cellAt (k := 1) (by simp), ho1.cellAt (k := 2) (by simp)⟩
      have hcap : 3 ≤ cap := ho1.cap_le
      have hrw : r < w1.heap.size := (ho1.low r rfl).2
      have hd1 : DB w1 g s := BK.from HDB.out hb1
      have HB1 := Lib.hid hb1
      have HD1 := Lib.hid hd1
      have HO1 := Lib.hid ho1
      clear ho1 hb1 hd1
      go_wp2
      go_ret
      exact ⟨by rw [HE.out]; rfl, by rw [HE.out]; exact HD1.out, grownB HB1.out⟩
set_option maxRecDepth 100000 in
set_option maxHeartbeats 1000000 in
theorem dline4 (s : St) (hok : s.Ok) (g : Nat) (t a b c d : ByteArray) (w : World) (h : DB w g s) (hl : lineOk t.data.toList) (hw : wordsL t.data.toList = toks [a, b, c, d]) :
    Calls Tryz.prog 20 #[.pointer (some ⟨g, 0, none⟩), .string t] w (DPost w g (ansS s (toks [a, b, c, d]))) := by
  have HCUT := Lib.hid (show Calls Tryz.prog 32 #[.string t, .int .u8 32, .int .i64 5] w fun e w' => ∃ r cap, e = .returned (.slice (some ⟨r, 0, none⟩) 4 cap) ∧ OS w' w.heap.size (.slice (some ⟨r, 0, none⟩) 4 cap) [a, b, c, d] ∧ Below w.heap.size w w' from (cut32_any t w hl).mono fun e w' ⟨v, ss, he, ho, hm, hb⟩ => by
    have hss : ss = [a, b, c, d] := toks_inj (hm.trans hw)
    subst hss
    obtain ⟨r, cap, rfl, _, _⟩ := ho.pos (by simp)
    exact ⟨r, cap, he, ho, hb⟩)
  have HDB := Lib.hid h
  have hgw := h.lt
  have htw : t.size ≤ 200 := by rw [← size_list]; exact hl.1
  have hsz := words_sizes hl hw
  clear hl hw h
  by_cases hs1 : a.data.toList = wSet
  · have e1 : (a.toList == [115, 101, 116]) = true := by rw [tok_eq]; exact decide_eq_true hs1
    have e2 : (a.toList == [104, 101, 108, 100]) = false := by rw [tok_eq]; exact decide_eq_false (by rw [hs1]; decide)
    have HE := Lib.hid (show ansS s (toks [a, b, c, d]) = (s, aWhat) by rfl)
    clear hs1
    go_enter Tryz.func20, Tryz.ntmps20
    go_wp2_with fail
    refine HCUT.out.mono ?_
    rintro ee w1 ⟨r, cap, rfl, ho1, hb1⟩
    obtain ⟨k0, k1, k2, k3⟩ : w1.cell? ⟨r, 0, none⟩ = some (.string a) ∧ w1.cell? ⟨r, 1, none⟩ = some (.string b) ∧ w1.cell? ⟨r, 2, none⟩ = some (.string c) ∧ w1.cell? ⟨r, 3, none⟩ = some (.string d) := ⟨ho1.cellAt (k := 0) (by simp), ho1.cellAt (k := 1) (by simp), ho1.cellAt (k := 2) (by simp), ho1.cellAt (k := 3) (by simp)⟩
    have hcap : 4 ≤ cap := ho1.cap_le
    have hrw : r < w1.heap.size := (ho1.low r rfl).2
    have hd1 : DB w1 g s := BK.from HDB.out hb1
    have HB1 := Lib.hid hb1
    have HD1 := Lib.hid hd1
    have HO1 := Lib.hid ho1
    clear ho1 hb1 hd1
    go_wp2
    go_ret
    exact ⟨by rw [HE.out]; rfl, by rw [HE.out]; exact HD1.out, grownB HB1.out⟩
  · have e1 : (a.toList == [115, 101, 116]) = false := by rw [tok_eq]; exact decide_eq_false hs1
    by_cases hh1 : a.data.toList = wHeld
    · have e2 : (a.toList == [104, 101, 108, 100]) = true := by rw [tok_eq]; exact decide_eq_true hh1
      have HE := Lib.hid (show ansS s (toks [a, b, c, d]) = (s, aWhat) by rfl)
      clear hs1 hh1
      go_enter Tryz.func20, Tryz.ntmps20
      go_wp2_with fail
      refine HCUT.out.mono ?_
      rintro ee w1 ⟨r, cap, rfl, ho1, hb1⟩
      obtain ⟨k0, k1, k2, k3⟩ : w1.cell? ⟨r, 0, none⟩ = some (.string a) ∧ w1.cell? ⟨r, 1, none⟩ = some (.string b) ∧ w1.cell? ⟨r, 2, none⟩ = some (.string c) ∧ w1.cell? ⟨r, 3, none⟩ = some (.string d) := ⟨ho1.cellAt (k := 0) (by simp), ho1.cellAt (k := 1) (by simp), ho1.cellAt (k := 2) (by simp), ho1.cellAt (k := 3) (by simp)⟩
      have hcap : 4 ≤ cap := ho1.cap_le
      have hrw : r < w1.heap.size := (ho1.low r rfl).2
      have hd1 : DB w1 g s := BK.from HDB.out hb1
      have HB1 := Lib.hid hb1
      have HD1 := Lib.hid hd1
      have HO1 := Lib.hid ho1
      clear ho1 hb1 hd1
      go_wp2
      go_ret
      exact ⟨by rw [HE.out]; rfl, by rw [HE.out]; exact HD1.out, grownB HB1.out⟩
    · have e2 : (a.toList == [104, 101, 108, 100]) = false := by rw [tok_eq]; exact decide_eq_false hh1
      have HE := Lib.hid (show ansS s (toks [a, b, c, d]) = (s, aWhat) by rfl)
      clear hs1 hh1
      go_enter Tryz.func20, Tryz.ntmps20
      go_wp2_with fail
      refine HCUT.out.mono ?_
      rintro ee w1 ⟨r, cap, rfl, ho1, hb1⟩
      obtain ⟨k0, k1, k2, k3⟩ : w1.cell? ⟨r, 0, none⟩ = some (.string a) ∧ w1.cell? ⟨r, 1, none⟩ = some (.string b) ∧ w1.cell? ⟨r, 2, none⟩ = some (.string c) ∧ w1.cell? ⟨r, 3, none⟩ = some (.string d) := ⟨ho1.cellAt (k := 0) (by simp), ho1.cellAt (k := 1) (by simp), ho1.cellAt (k := 2) (by simp), ho1.cellAt (k := 3) (by simp)⟩
      have hcap : 4 ≤ cap := ho1.cap_le
      have hrw : r < w1.heap.size := (ho1.low r rfl).2
      have hd1 : DB w1 g s := BK.from HDB.out hb1
      have HB1 := Lib.hid hb1
      have HD1 := Lib.hid hd1
      have HO1 := Lib.hid ho1
      clear ho1 hb1 hd1
      go_wp2
      go_ret
      exact ⟨by rw [HE.out]; rfl, by rw [HE.out]; exact HD1.out, grownB HB1.out⟩
set_option maxRecDepth 100000 in
set_option maxHeartbeats 1000000 in
theorem dline5 (s : St) (hok : s.Ok) (g : Nat) (t a b c d z : ByteArray) (w : World) (h : DB w g s) (hl : lineOk t.data.toList) (hw : wordsL t.data.toList = toks [a, b, c, d, z]) :
    Calls Tryz.prog 20 #[.pointer (some ⟨g, 0, none⟩), .string t] w (DPost w g (ansS s (toks [a, b, c, d, z]))) := by
  have HCUT := Lib.hid (show Calls Tryz.prog 32 #[.string t, .int .u8 32, .int .i64 5] w fun e w' => ∃ r cap, e = .returned (.slice (some ⟨r, 0, none⟩) 5 cap) ∧ OS w' w.heap.size (.slice (some ⟨r, 0, none⟩) 5 cap) [a, b, c, d, z] ∧ Below w.heap.size w w' from (cut32_any t w hl).mono fun e w' ⟨v, ss, he, ho, hm, hb⟩ => by
    have hss : ss = [a, b, c, d, z] := toks_inj (hm.trans hw)
    subst hss
    obtain ⟨r, cap, rfl, _, _⟩ := ho.pos (by simp)
    exact ⟨r, cap, he, ho, hb⟩)
  have HDB := Lib.hid h
  have hgw := h.lt
  have htw : t.size ≤ 200 := by rw [← size_list]; exact hl.1
  have hsz := words_sizes hl hw
  clear hl hw h
  by_cases hs1 : a.data.toList = wSet
  · have e1 : (a.toList == [115, 101, 116]) = true := by rw [tok_eq]; exact decide_eq_true hs1
    have e2 : (a.toList == [104, 101, 108, 100]) = false := by rw [tok_eq]; exact decide_eq_false (by rw [hs1]; decide)
    have HE := Lib.hid (show ansS s (toks [a, b, c, d, z]) = setS s (confW b.data.toList c.data.toList d.data.toList z.data.toList) by show (if _ then _ else _) = _; exact if_pos hs1)
    clear hs1
    go_enter Tryz.func20, Tryz.ntmps20
    go_wp2_with fail
    refine HCUT.out.mono ?_
    rintro ee w1 ⟨r, cap, rfl, ho1, hb1⟩
    obtain ⟨k0, k1, k2, k3, k4⟩ : w1.cell? ⟨r, 0, none⟩ = some (.string a) ∧ w1.cell? ⟨r, 1, none⟩ = some (.string b) ∧ w1.cell? ⟨r, 2, none⟩ = some (.string c) ∧ w1.cell? ⟨r, 3, none⟩ = some (.string d) ∧ w1.cell? ⟨r, 4, none⟩ = some (.string z) := ⟨ho1.cellAt (k := 0) (by simp), ho1.cellAt (k := 1) (by simp), ho1.cellAt (k := 2) (by simp), ho1.cellAt (k := 3) (by simp), ho1.cellAt (k := 4) (by simp)⟩
    have hcap : 5 ≤ cap := ho1.cap_le
    have hrw : r < w1.heap.size := (ho1.low r rfl).2
    have hd1 : DB w1 g s := BK.from HDB.out hb1
    have HB1 := Lib.hid hb1
    have HD1 := Lib.hid hd1
    have HO1 := Lib.hid ho1
    have HDS := Lib.hid (fun cp => dset_any s g r cp b c d z w1 hd1 hrw ⟨k1, k2, k3, k4⟩)
    clear ho1 hb1 hd1
    go_wp2_with fail
    refine (HDS.out _).mono ?_
    rintro ee w2 ⟨rfl, hd2, hg2⟩
    have HD2 := Lib.hid hd2
    have HG2 := Lib.hid (grown_trans (grownB (g := g) HB1.out) hg2)
    clear hd2 hg2
    go_wp2
    go_ret
    exact ⟨by rw [HE.out]; rfl, by rw [HE.out]; exact HD2.out, HG2.out⟩
  · have e1 : (a.toList == [115, 101, 116]) = false := by rw [tok_eq]; exact decide_eq_false hs1
    by_cases hh1 : a.data.toList = wHeld
    · have e2 : (a.toList == [104, 101, 108, 100]) = true := by rw [tok_eq]; exact decide_eq_true hh1
      have HE := Lib.hid (show ansS s (toks [a, b, c, d, z]) = (s, aWhat) by show (if _ then _ else _) = _; exact if_neg hs1)
      clear hs1 hh1
      go_enter Tryz.func20, Tryz.ntmps20
      go_wp2_with fail
      refine HCUT.out.mono ?_
      rintro ee w1 ⟨r, cap, rfl, ho1, hb1⟩
      obtain ⟨k0, k1, k2, k3, k4⟩ : w1.cell? ⟨r, 0, none⟩ = some (.string a) ∧ w1.cell? ⟨r, 1, none⟩ = some (.string b) ∧ w1.cell? ⟨r, 2, none⟩ = some (.string c) ∧ w1.cell? ⟨r, 3, none⟩ = some (.string d) ∧ w1.cell? ⟨r, 4, none⟩ = some (.string z) := ⟨ho1.cellAt (k := 0) (by simp), ho1.cellAt (k := 1) (by simp), ho1.cellAt (k := 2) (by simp), ho1.cellAt (k := 3) (by simp), ho1.cellAt (k := 4) (by simp)⟩
      have hcap : 5 ≤ cap := ho1.cap_le
      have hrw : r < w1.heap.size := (ho1.low r rfl).2
      have hd1 : DB w1 g s := BK.from HDB.out hb1
      have HB1 := Lib.hid hb1
      have HD1 := Lib.hid hd1
      have HO1 := Lib.hid ho1
      clear ho1 hb1 hd1
      go_wp2
      go_ret
      exact ⟨by rw [HE.out]; rfl, by rw [HE.out]; exact HD1.out, grownB HB1.out⟩
    · have e2 : (a.toList == [104, 101, 108, 100]) = false := by rw [tok_eq]; exact decide_eq_false hh1
      have HE := Lib.hid (show ansS s (toks [a, b, c, d, z]) = (s, aWhat) by show (if _ then _ else _) = _; exact if_neg hs1)
      clear hs1 hh1
      go_enter Tryz.func20, Tryz.ntmps20
      go_wp2_with fail
      refine HCUT.out.mono ?_
      rintro ee w1 ⟨r, cap, rfl, ho1, hb1⟩
      obtain ⟨k0, k1, k2, k3, k4⟩ : w1.cell? ⟨r, 0, none⟩ = some (.string a) ∧ w1.cell? ⟨r, 1, none⟩ = some (.string b) ∧ w1.cell? ⟨r, 2, none⟩ = some (.string c) ∧ w1.cell? ⟨r, 3, none⟩ = some (.string d) ∧ w1.cell? ⟨r, 4, none⟩ = some (.string z) := ⟨ho1.cellAt (k := 0) (by simp), ho1.cellAt (k := 1) (by simp), ho1.cellAt (k := 2) (by simp), ho1.cellAt (k := 3) (by simp), ho1.cellAt (k := 4) (by simp)⟩
      have hcap : 5 ≤ cap := ho1.cap_le
      have hrw : r < w1.heap.size := (ho1.low r rfl).2
      have hd1 : DB w1 g s := BK.from HDB.out hb1
      have HB1 := Lib.hid hb1
      have HD1 := Lib.hid hd1
      have HO1 := Lib.hid ho1
      clear ho1 hb1 hd1
      go_wp2
      go_ret
      exact ⟨by rw [HE.out]; rfl, by rw [HE.out]; exact HD1.out, grownB HB1.out⟩
theorem toks_all (ls : List (List UInt8)) : ∃ ss, ls = toks ss := ⟨ls.map (fun l => ⟨l.toArray⟩), by simp [toks, Function.comp_def]⟩
theorem dline_any (s : St) (hok : s.Ok) (g : Nat) (t : ByteArray) (w : World) (h : DB w g s) (hl : lineOk t.data.toList) :
    Calls Tryz.prog 20 #[.pointer (some ⟨g, 0, none⟩), .string t] w (DPost w g (lineS s t.data.toList)) := by
  obtain ⟨ss, hss⟩ := toks_all (wordsL t.data.toList)
  have hk := words_ok hl hss.symm
  unfold lineS
  rw [hss]
  match ss, hk, hss with
  | [], hk, _ => exact absurd hk.1 (by simp)
  | [a], hk, e => exact dline1 s hok g t a w h hl e
  | [a, b], hk, e => exact dline2 s hok g t a b w h hl e
  | [a, b, c], hk, e => exact dline3 s hok g t a b c w h hl e
  | [a, b, c, d], hk, ew => exact dline4 s hok g t a b c d w h hl ew
  | [a, b, c, d, e], hk, ew => exact dline5 s hok g t a b c d e w h hl ew
  | a :: b :: c :: d :: e :: f :: r, hk, _ => exact absurd hk.2.1 (by simp)
set_option maxRecDepth 100000 in
set_option maxHeartbeats 2000000 in
theorem specSession_any (ss : List ByteArray) (r cap : Nat) (w : World) (base : Nat) (h : OS w base (.slice (some ⟨r, 0, none⟩) ss.length cap) ss) (hlen : ss.length ≤ 40) (hl : ∀ t ∈ ss, lineOk t.data.toList) :
    Calls Tryz.prog 7 #[.slice (some ⟨r, 0, none⟩) ss.length cap] w fun e w' => e = .returned (.string ⟨(sessS (toks ss)).2.toArray⟩) ∧ Below w.heap.size w w' := by
  have HOS := Lib.hid h
  have HL := Lib.hid hl
  have hcap : ss.length ≤ cap := h.cap_le
  have hrw : r < w.heap.size := (h.low r rfl).2
  clear h hl
  go_enter Tryz.func7, Tryz.ntmps7
  go_wp2_with fail
  have hb0 : DB (w.alloc (.cells #[.int .i64 0, .int .i64 0, .int .i64 0, .int .i64 0, .string ⟨#[]⟩, .bool false, .bool false] 52)) w.heap.size St.fresh := BK.new w _ _
  go_loopw [4, 5] (fun ov i wr => ∃ (k : Nat) (O : ByteArray), k ≤ ss.length ∧ i = .int .i64 k ∧ ov = .string O ∧ O.data.toList = (sessS (toks (ss.take k))).2 ∧ DB wr w.heap.size (sessS (toks (ss.take k))).1 ∧ Below w.heap.size w wr) (fun _ i _ => ss.length - (intOf i).toNat)
  case atStart => exact ⟨0, ⟨#[]⟩, Nat.zero_le _, rfl, rfl, rfl, hb0, (Below.refl _ _).alloc (Nat.le_refl _) _⟩
  case round =>
    clear hb0
    obtain ⟨k, O, hk, rfl, rfl, hO, hdb, hb⟩ := hrel
    have HDB := Lib.hid hdb
    have HB := Lib.hid hb
    have hsl := sessS_len (toks (ss.take k))
    have htl : (toks (ss.take k)).length ≤ 40 := by unfold toks; rw [List.length_map]; have := List.length_take_le k ss; omega
    rw [← hO, size_list] at hsl
    have HO := Lib.hid hO
    by_cases hlt : k < ss.length
    · have c0 := (HOS.out.below hb).cellAt hlt
      have hlk := HL.out ss[k] (List.getElem_mem hlt)
      have HT := Lib.hid (sess_take ss k hlt)
      have hok := sessS_ok (toks (ss.take k))
      have hk40 : k < 40 := by omega
      clear hO
      generalize sessS (toks (ss.take k)) = p at *
      obtain ⟨s, L⟩ := p
      simp only at hok
      obtain ⟨t, ht⟩ : ∃ t, t = ss[k] := ⟨_, rfl⟩
      rw [← ht] at c0 hlk HT
      have hal := ansS_len s (wordsL t.data.toList) hok
      have HLN := Lib.hid (dline_any s hok w.heap.size t wr HDB.out hlk)
      obtain ⟨T, hT, hTd, hTs⟩ := text_of ((lineS s t.data.toList).2 ++ [10])
      have HTE := Lib.hid hT
      have HTd := Lib.hid hTd
      have hTz : T.size ≤ 4001 := by
        rw [hTs, List.length_append]
        have : (lineS s t.data.toList).2.length ≤ 4000 := hal
        simp only [List.length_cons, List.length_nil]; omega
      obtain ⟨C, hCd, hCs, hCe, hcat⟩ := cat_any O T (by omega)
      have HCd := Lib.hid hCd
      clear ht hdb hb hlk hok hT hTd hTs hal hCd hCs hCe
      go_wp2_with fail
      refine HLN.out.mono ?_
      rintro e w2 ⟨rfl, hd2, hg2⟩
      rw [HTE.out]
      have HD2 := Lib.hid hd2
      have HB2 := Lib.hid (HB.out.grown hg2 HB.out.size (fun j hj => by injection hj with hj; omega))
      clear hd2 hg2
      go_wp2
      go_roundw
      case rel =>
        refine ⟨k + 1, C, by omega, by go_num, rfl, ?_, ?_, HB2.out⟩
        · rw [HT.out, HCd.out, HO.out, HTd.out]; rfl
        · rw [HT.out]; exact HD2.out
      case measure => simp [intOf]; omega
    · have HALL := Lib.hid (show ss.take k = ss from List.take_of_length_le (by omega))
      have HOE := Lib.hid (show (⟨(sessS (toks ss)).2.toArray⟩ : ByteArray) = O by rw [← Lib.mk_data O, HO.out, HALL.out])
      clear hdb hb hO
      go_wp2
      go_ret
      exact ⟨by rw [HOE.out]; rfl, HB.out⟩
end Go.Proofs.YtcegpcggdcgjbaaGreatDoor
