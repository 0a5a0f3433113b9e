/- The draw of lines. -/
import Derived.Test.YtcegpcggdcgjbaaGreatDoorSesW
import Derived.Test.YtcegpcggdcgjbaaGreatDoorSesF
import Derived.Test.YtcegpcggdcgjbaaGreatDoorDrawStr
import Derived.Test.YtcegpcggdcgjbaaGreatDoorDrawD
import Derived.Test.YtcegpcggdcgjbaaGreatDoorHexC
namespace Go.Proofs.YtcegpcggdcgjbaaGreatDoor
open Go.ChangeShapes Go.WideShapes Go.ChangeAt Go.RowKit
set_option linter.unusedVariables false
theorem fig_no32 : ∀ n, n < 16 → figB n ≠ 32 := by decide
theorem hexL_no32 (l : List UInt8) : (32 : UInt8) ∉ hexL l := by
  intro h
  simp only [hexL, List.mem_flatMap, List.mem_cons, List.not_mem_nil, or_false] at h
  obtain ⟨b, _, h | h⟩ := h
  · exact fig_no32 _ (by have := b.toNat_lt; omega) h.symm
  · exact fig_no32 _ (by omega) h.symm
theorem putH_no32 (l : List UInt8) : (32 : UInt8) ∉ putH l := by
  unfold putH
  split
  · simp
  split
  · decide
  · exact hexL_no32 l
theorem words_cut (l : List UInt8) : (wordsL l).length = (cutS 32 l).1.length + 1 := by simp [wordsL]
theorem line_two {a b : List UInt8} (ha : (32 : UInt8) ∉ a) (hb : (32 : UInt8) ∉ b) (ha0 : a ≠ []) (hb0 : b ≠ []) (hl : a.length + b.length ≤ 190) : lineOk (a ++ 32 :: b) ∧ wordsL (a ++ 32 :: b) = [a, b] := by
  have hw : wordsL (a ++ 32 :: b) = [a, b] := by rw [words_split _ ha, words_free hb]
  refine ⟨⟨by rw [List.length_append, List.length_cons]; omega, ?_, ?_⟩, hw⟩
  · have := words_cut (a ++ 32 :: b)
    rw [hw] at this
    simp at this
    omega
  · rw [hw]
    intro p hp
    simp only [List.mem_cons, List.not_mem_nil, or_false] at hp
    rcases hp with rfl | rfl
    · exact ha0
    · exact hb0
theorem feed_line {l : List UInt8} (h : l.length ≤ 40) : lineOk (wFeed ++ 32 :: putH l) ∧ wordsL (wFeed ++ 32 :: putH l) = [wFeed, putH l] :=
  line_two (by decide) (putH_no32 l) (by decide) (fun e => by have := putH_nil.1 e; omega) (by have := putH_len l; have : wFeed.length = 4 := rfl; omega)
def lines4 : List ByteArray := [⟨#[115, 101, 116, 32, 99, 111, 98, 115, 32, 50, 32, 49, 50, 32, 48]⟩, ⟨#[115, 101, 116, 32, 108, 101, 115, 115, 32, 52, 32, 56, 32, 48]⟩, ⟨#[115, 101, 116, 32, 101, 115, 99, 97, 112, 101, 32, 50, 32, 49, 50, 32, 54, 53, 53, 51, 54, 48]⟩, ⟨#[115, 101, 116, 32, 99, 111, 98, 115, 32, 51, 32, 49, 32, 48]⟩]
def lines18 (T : ByteArray) : List ByteArray := [⟨#[115, 101, 110, 100, 32, 48, 49, 48, 50]⟩, ⟨#[115, 101, 110, 100, 32, 45]⟩, ⟨#[115, 101, 110, 100, 32, 55, 101, 55, 100, 49, 49]⟩, ⟨#[102, 101, 101, 100, 32, 48, 48]⟩, ⟨#[102, 101, 101, 100, 32, 55, 101]⟩, T, ⟨#[102, 101, 101, 100, 32, 48, 51]⟩, ⟨#[102, 101, 101, 100, 32, 45]⟩, ⟨#[115, 104, 111, 114, 116, 32, 51, 49, 51, 50, 51, 51, 51, 52, 51, 53, 51, 54, 51, 55, 51, 56, 51, 57]⟩, ⟨#[108, 111, 110, 103, 32, 51, 49, 51, 50, 51, 51, 51, 52, 51, 53, 51, 54, 51, 55, 51, 56, 51, 57]⟩, ⟨#[99, 111, 98, 115, 32, 48, 48, 48, 48]⟩, ⟨#[99, 111, 98, 115, 32, 49, 49, 48, 48, 50, 50, 48, 48]⟩, ⟨#[108, 101, 115, 115, 32, 48, 53]⟩, ⟨#[98, 105, 116, 115, 32, 102, 102]⟩, ⟨#[104, 101, 108, 100]⟩, ⟨#[119, 104, 97, 116]⟩, ⟨#[115, 101, 110, 100, 32, 120, 120]⟩, ⟨#[115, 101, 116, 32, 101, 115, 99, 97, 112, 101, 32, 52, 32, 51, 32, 48]⟩]
theorem lines4_ok : ∀ t ∈ lines4, lineOk t.data.toList := by decide +kernel
theorem lines18_ok (T : ByteArray) (hT : lineOk T.data.toList) : ∀ t ∈ lines18 T, lineOk t.data.toList := by
  intro t ht
  simp only [lines18, List.mem_cons, List.not_mem_nil, or_false] at ht
  rcases ht with rfl | rfl | rfl | rfl | rfl | rfl | rfl | rfl | rfl | rfl | rfl | rfl | rfl | rfl | rfl | rfl | rfl | rfl
  · show lineOk [115, 101, 110, 100, 32, 48, 49, 48, 50]; decide +kernel
  · show lineOk [115, 101, 110, 100, 32, 45]; decide +kernel
  · show lineOk [115, 101, 110, 100, 32, 55, 101, 55, 100, 49, 49]; decide +kernel
  · show lineOk [102, 101, 101, 100, 32, 48, 48]; decide +kernel
  · show lineOk [102, 101, 101, 100, 32, 55, 101]; decide +kernel
  · exact hT
  · show lineOk [102, 101, 101, 100, 32, 48, 51]; decide +kernel
  · show lineOk [102, 101, 101, 100, 32, 45]; decide +kernel
  · show lineOk [115, 104, 111, 114, 116, 32, 51, 49, 51, 50, 51, 51, 51, 52, 51, 53, 51, 54, 51, 55, 51, 56, 51, 57]; decide +kernel
  · show lineOk [108, 111, 110, 103, 32, 51, 49, 51, 50, 51, 51, 51, 52, 51, 53, 51, 54, 51, 55, 51, 56, 51, 57]; decide +kernel
  · show lineOk [99, 111, 98, 115, 32, 48, 48, 48, 48]; decide +kernel
  · show lineOk [99, 111, 98, 115, 32, 49, 49, 48, 48, 50, 50, 48, 48]; decide +kernel
  · show lineOk [108, 101, 115, 115, 32, 48, 53]; decide +kernel
  · show lineOk [98, 105, 116, 115, 32, 102, 102]; decide +kernel
  · show lineOk [104, 101, 108, 100]; decide +kernel
  · show lineOk [119, 104, 97, 116]; decide +kernel
  · show lineOk [115, 101, 110, 100, 32, 120, 120]; decide +kernel
  · show lineOk [115, 101, 116, 32, 101, 115, 99, 97, 112, 101, 32, 52, 32, 51, 32, 48]; decide +kernel
theorem OS.keptL {w w' : World} {base g : Nat} {v : Value} {ss : List ByteArray} (h : OS w base v ss) (hg : w.grownBy w' (some g)) (hb : g < base) : OS w' base v ss := by
  refine h.kept hg ?_
  cases hv : v.ownBlock with
  | none => exact .inl rfl
  | some k => exact .inr (fun e => by injection e with e; have := (h.low k hv).1; omega)
theorem text_ofJ (l : List UInt8) : ∃ T : ByteArray, (⟨l.toArray⟩ : ByteArray) = T ∧ T.data.toList = l ∧ T.size = l.length := ⟨⟨l.toArray⟩, rfl, rfl, by simp [ByteArray.size]⟩
theorem OS_one (w : World) (x : ByteArray) {base : Nat} (hb : base ≤ w.heap.size) : OS (w.alloc (.cells #[.string x] 9)) base (.slice (some ⟨w.heap.size, 0, none⟩) 1 1) [x] := by
  refine ⟨rfl, .inr ⟨w.heap.size, 1, #[.string x], rfl, hb, heap_alloc_new w _, Nat.le_refl _, by unfold maxLen; omega, rfl, rfl⟩⟩
def Of4Post (W : World) (B g N : Nat) (e : Ending) (w' : World) : Prop := ∃ x : ByteArray, lineOk x.data.toList ∧ e = .returned (.string x) ∧ Rd w' B g (N + 1) ∧ W.grownBy w' (some g)
set_option maxRecDepth 100000 in
theorem of4_any {w : World} {B g N : Nat} (h : Rd w B g N) (hN : N ≤ 1000000000) (hg : g < w.heap.size) :
    Calls Tryz.prog 11 #[.pointer (some ⟨g, 0, none⟩), .slice (some ⟨w.heap.size, 0, none⟩) 4 4] (w.alloc (.cells #[.string ⟨#[115, 101, 116, 32, 99, 111, 98, 115, 32, 50, 32, 49, 50, 32, 48]⟩, .string ⟨#[115, 101, 116, 32, 108, 101, 115, 115, 32, 52, 32, 56, 32, 48]⟩, .string ⟨#[115, 101, 116, 32, 101, 115, 99, 97, 112, 101, 32, 50, 32, 49, 50, 32, 54, 53, 53, 51, 54, 48]⟩, .string ⟨#[115, 101, 116, 32, 99, 111, 98, 115, 32, 51, 32, 49, 32, 48]⟩] 9)) (Of4Post (w.alloc (.cells #[.string ⟨#[115, 101, 116, 32, 99, 111, 98, 115, 32, 50, 32, 49, 50, 32, 48]⟩, .string ⟨#[115, 101, 116, 32, 108, 101, 115, 115, 32, 52, 32, 56, 32, 48]⟩, .string ⟨#[115, 101, 116, 32, 101, 115, 99, 97, 112, 101, 32, 50, 32, 49, 50, 32, 54, 53, 53, 51, 54, 48]⟩, .string ⟨#[115, 101, 116, 32, 99, 111, 98, 115, 32, 51, 32, 49, 32, 48]⟩] 9)) B g N) :=
  (of_any (m := w.heap.size) lines4 9 (h.alloc _) hN (by decide) (by decide) (by omega) (heap_alloc_new w _)).mono fun e w' ⟨x, hx, he, hr, hg⟩ => ⟨x, lines4_ok x hx, he, hr, hg⟩
set_option maxRecDepth 100000 in
theorem of18_any {w : World} {B g N : Nat} (T : ByteArray) (hT : lineOk T.data.toList) (h : Rd w B g N) (hN : N ≤ 1000000000) (hg : g < w.heap.size) :
    Calls Tryz.prog 11 #[.pointer (some ⟨g, 0, none⟩), .slice (some ⟨w.heap.size, 0, none⟩) 18 18] (w.alloc (.cells #[.string ⟨#[115, 101, 110, 100, 32, 48, 49, 48, 50]⟩, .string ⟨#[115, 101, 110, 100, 32, 45]⟩, .string ⟨#[115, 101, 110, 100, 32, 55, 101, 55, 100, 49, 49]⟩, .string ⟨#[102, 101, 101, 100, 32, 48, 48]⟩, .string ⟨#[102, 101, 101, 100, 32, 55, 101]⟩, .string T, .string ⟨#[102, 101, 101, 100, 32, 48, 51]⟩, .string ⟨#[102, 101, 101, 100, 32, 45]⟩, .string ⟨#[115, 104, 111, 114, 116, 32, 51, 49, 51, 50, 51, 51, 51, 52, 51, 53, 51, 54, 51, 55, 51, 56, 51, 57]⟩, .string ⟨#[108, 111, 110, 103, 32, 51, 49, 51, 50, 51, 51, 51, 52, 51, 53, 51, 54, 51, 55, 51, 56, 51, 57]⟩, .string ⟨#[99, 111, 98, 115, 32, 48, 48, 48, 48]⟩, .string ⟨#[99, 111, 98, 115, 32, 49, 49, 48, 48, 50, 50, 48, 48]⟩, .string ⟨#[108, 101, 115, 115, 32, 48, 53]⟩, .string ⟨#[98, 105, 116, 115, 32, 102, 102]⟩, .string ⟨#[104, 101, 108, 100]⟩, .string ⟨#[119, 104, 97, 116]⟩, .string ⟨#[115, 101, 110, 100, 32, 120, 120]⟩, .string ⟨#[115, 101, 116, 32, 101, 115, 99, 97, 112, 101, 32, 52, 32, 51, 32, 48]⟩] 9)) (Of4Post (w.alloc (.cells #[.string ⟨#[115, 101, 110, 100, 32, 48, 49, 48, 50]⟩, .string ⟨#[115, 101, 110, 100, 32, 45]⟩, .string ⟨#[115, 101, 110, 100, 32, 55, 101, 55, 100, 49, 49]⟩, .string ⟨#[102, 101, 101, 100, 32, 48, 48]⟩, .string ⟨#[102, 101, 101, 100, 32, 55, 101]⟩, .string T, .string ⟨#[102, 101, 101, 100, 32, 48, 51]⟩, .string ⟨#[102, 101, 101, 100, 32, 45]⟩, .string ⟨#[115, 104, 111, 114, 116, 32, 51, 49, 51, 50, 51, 51, 51, 52, 51, 53, 51, 54, 51, 55, 51, 56, 51, 57]⟩, .string ⟨#[108, 111, 110, 103, 32, 51, 49, 51, 50, 51, 51, 51, 52, 51, 53, 51, 54, 51, 55, 51, 56, 51, 57]⟩, .string ⟨#[99, 111, 98, 115, 32, 48, 48, 48, 48]⟩, .string ⟨#[99, 111, 98, 115, 32, 49, 49, 48, 48, 50, 50, 48, 48]⟩, .string ⟨#[108, 101, 115, 115, 32, 48, 53]⟩, .string ⟨#[98, 105, 116, 115, 32, 102, 102]⟩, .string ⟨#[104, 101, 108, 100]⟩, .string ⟨#[119, 104, 97, 116]⟩, .string ⟨#[115, 101, 110, 100, 32, 120, 120]⟩, .string ⟨#[115, 101, 116, 32, 101, 115, 99, 97, 112, 101, 32, 52, 32, 51, 32, 48]⟩] 9)) B g N) :=
  (of_any (m := w.heap.size) (lines18 T) 9 (h.alloc _) hN (by show 1 ≤ 18; omega) (by show 18 ≤ 1000; omega) (by omega) (heap_alloc_new w _)).mono fun e w' ⟨x, hx, he, hr, hg⟩ => ⟨x, lines18_ok T hT x hx, he, hr, hg⟩
def LinesPost (w : World) (e : Ending) (w' : World) : Prop := ∃ (r cap : Nat) (ss : List ByteArray), e = .returned (.slice (some ⟨r, 0, none⟩) ss.length cap) ∧ OS w' w.heap.size (.slice (some ⟨r, 0, none⟩) ss.length cap) ss ∧ 1 ≤ ss.length ∧ ss.length ≤ 20 ∧ (∀ t ∈ ss, lineOk t.data.toList) ∧ Below w.heap.size w w'
set_option maxRecDepth 100000 in
set_option maxHeartbeats 4000000 in
theorem drawSession_any {w : World} (a : Option Addr) (len cap : Nat) (zs : List Int) (h : IsRow .u8 w a len cap zs) :
    Calls Tryz.prog 5 #[.slice a len cap] w (LinesPost w) := by
  obtain ⟨i0, hi, hz0, hz1, hz2⟩ := info_parts info_str
  have HI := Lib.hid hi
  have HZ0 := Lib.hid hz0
  have HZ1 := Lib.hid hz1
  have HZ2 := Lib.hid hz2
  have HH := Lib.hid h
  clear h hi hz0 hz1 hz2
  go_enter Tryz.func5, Tryz.ntmps5
  go_wp2_with fail
  refine (open_any a len cap zs HH.out).mono ?_
  rintro e w1 ⟨rfl, hr1, hb1, hs1⟩
  have HR1 := Lib.hid hr1
  have HB1 := Lib.hid hb1
  have hg1 : w.heap.size < w1.heap.size := by omega
  clear hr1 hb1 hs1
  go_wp2_with fail
  refine (of4_any HR1.out (by omega) hg1).mono ?_
  rintro e w2 ⟨x0, hx0, rfl, hr2, hg2⟩
  have HR2 := Lib.hid (hr2.alloc (.cells #[.string x0] 9))
  have hsz2 : w1.heap.size + 1 ≤ w2.heap.size := by have := hg2.size; simpa using this
  have HB2 := Lib.hid (HB1.out.trans ((show Below w.heap.size w1 w2 from ((Below.refl w.heap.size w1).alloc (by omega) _).trans (grown_below hg2 (by simp; omega) (Nat.le_refl _))).mono (Nat.le_refl _)))
  have HO2 := Lib.hid (OS_one w2 x0 (base := w.heap.size + 1) (by omega))
  have HX0 := Lib.hid hx0
  clear hr2 hg2 hx0
  go_wp2_with fail
  refine (pick_any _ HR2.out (by omega)).mono ?_
  rintro e w3 ⟨⟨x, rfl, hx, _⟩, hr3, hg3⟩
  obtain ⟨h0, h1⟩ := hx (by omega)
  obtain ⟨n0, rfl⟩ := Int.eq_ofNat_of_zero_le h0
  have hn0 : n0 ≤ 19 := by omega
  have HR3 := Lib.hid hr3
  have HO3 := Lib.hid (HO2.out.keptL hg3 (by omega))
  have HB3 := Lib.hid ((HB2.out.alloc HB2.out.size (.cells #[.string x0] 9)).trans (grown_below hg3 (by simp; omega) (Nat.le_refl _)))
  have hsz3 : w.heap.size + 2 ≤ w3.heap.size := by have := hg3.size; simp at this; omega
  clear hr3 hg3 hx h0 h1
  go_wp2_with fail
  go_loopw [4, 5] (fun v n wr => ∃ (k : Nat) (ss : List ByteArray), k ≤ n0 ∧ n = .int .i64 k ∧ ss.length + k = n0 + 1 ∧ 1 ≤ ss.length ∧ (∀ t ∈ ss, lineOk t.data.toList) ∧ OS wr (w.heap.size + 1) v ss ∧ Rd wr w.heap.size w.heap.size (2 + 20 * ss.length) ∧ Below w.heap.size w wr ∧ w.heap.size + 2 ≤ wr.heap.size) (fun _ n _ => (intOf n).toNat)
  case atStart => exact ⟨n0, [x0], Nat.le_refl _, rfl, by simp; omega, by simp, fun t ht => by rw [List.mem_singleton.1 ht]; exact HX0.out, HO3.out, HR3.out.mono (by simp), HB3.out, hsz3⟩
  case round =>
    obtain ⟨k, ss, hk, rfl, hlk, hl1, hsz, hown, hrd, hb, hwr⟩ := hrel
    have HOr := Lib.hid hown
    have HRr := Lib.hid hrd
    have HBr := Lib.hid hb
    have HSZ := Lib.hid hsz
    have HLK := Lib.hid hlk
    have hss : ss.length ≤ 20 := by omega
    obtain ⟨A4, C4, hsh⟩ := hown.reads.shape
    subst hsh
    clear hown hrd hb hsz
    by_cases hk0 : 0 < k
    · clear hlk
      go_wp2_with fail
      refine (bytes_any 6 HRr.out (by omega) (by omega)).mono ?_
      rintro e w4 ⟨s, rfl, hs, hr4, hg4⟩
      have HR4 := Lib.hid hr4
      have HO4 := Lib.hid (HOr.out.keptL hg4 (by omega))
      have HB4 := Lib.hid (HBr.out.trans (grown_below hg4 (by omega) (Nat.le_refl _)))
      have hsz4 : w.heap.size + 2 ≤ w4.heap.size := by have := hg4.size; omega
      clear hr4 hg4
      obtain ⟨P, hP, hPd, hPs⟩ := text_ofJ (putH s.data.toList)
      have HP := Lib.hid hP
      have hPl : P.size ≤ 80 := by rw [hPs]; exact putH_len _
      obtain ⟨T, hTd, hTs, hTe, hcat⟩ := cat_any ⟨#[102, 101, 101, 100, 32]⟩ P (by have : (⟨#[102, 101, 101, 100, 32]⟩ : ByteArray).size = 5 := rfl; omega)
      have hTok : lineOk T.data.toList := by
        rw [hTd, hPd]
        exact (feed_line (l := s.data.toList) (by rw [size_list]; omega)).1
      have HTK := Lib.hid hTok
      clear hP hPd hPs hTd hTs hTe hTok
      go_wp2_with fail
      refine (specHexPut_any s _).mono ?_
      rintro e w5 ⟨rfl, hb5⟩
      rw [HP.out]
      have HR5 := Lib.hid (HR4.out.grow (below_grown hb5 none) (by simp) (by simp))
      have HO5 := Lib.hid (HO4.out.below hb5)
      have HB5 := Lib.hid (HB4.out.trans (hb5.mono HB4.out.size))
      have hsz5 : w.heap.size + 2 ≤ w5.heap.size := Nat.le_trans hsz4 hb5.size
      clear hb5
      go_wp2_with fail
      refine (of18_any T HTK.out HR5.out (by omega) (by omega)).mono ?_
      rintro e w6 ⟨y, hy, rfl, hr6, hg6⟩
      have HY := Lib.hid hy
      have HR6 := Lib.hid hr6
      have HO6 := Lib.hid ((HO5.out.alloc _).keptL hg6 (by omega))
      have HB6 := Lib.hid ((HB5.out.alloc HB5.out.size _).trans (grown_below hg6 (by simp; omega) (Nat.le_refl _)))
      have hsz6 : w.heap.size + 2 ≤ w6.heap.size := by have := hg6.size; simp at this; omega
      clear hr6 hg6 hy
      go_wp2_with (at_builtin; refine wpList_append_os _ rfl _ _ 23 rfl (w.heap.size + 1) i0 Tryz.underlying23 HI.out HZ0.out HZ1.out HZ2.out _ ss rfl (HO6.out.alloc _) _ _ [y] rfl (RS_one w6 y) (by simp; omega) (by simp; omega) ?_; intro v7 w7 hown7 hg7 _)
      go_roundw
      case rel =>
        have hlow := HO6.out.low
        refine ⟨k - 1, ss ++ [y], by omega, val_int (by omega), by simp; have := HLK.out; omega, by simp, fun z hz => ?_, hown7, ?_, ?_, ?_⟩
        · rw [List.mem_append] at hz
          rcases hz with hz | hz
          · exact HSZ.out z hz
          · rw [List.mem_singleton.1 hz]; exact HY.out
        · refine ((HR6.out.alloc _).grow hg7 (fun e => by have := (hlow _ e).1; omega) (fun j e => by have := (hlow j e).1; omega)).mono (by simp; omega)
        · exact (HB6.out.alloc HB6.out.size _).grown hg7 (by have := HB6.out.size; simp; omega) (fun j e => by have := (hlow j e).1; omega)
        · have := hg7.size; simp at this; omega
      case measure => simp [intOf]; omega
    · obtain rfl : k = 0 := by omega
      obtain ⟨r, cp, hsh, _, _⟩ := HOr.out.pos (by omega)
      injection hsh with e1 _ e2
      subst e1 e2
      go_wp2
      go_ret
      exact ⟨r, _, ss, rfl, HOr.out.mono (by omega), hl1, hss, HSZ.out, HBr.out⟩
end Go.Proofs.YtcegpcggdcgjbaaGreatDoor
