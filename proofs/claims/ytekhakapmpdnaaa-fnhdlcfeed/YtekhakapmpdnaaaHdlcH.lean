/- The model's finder of frames of bits: a bit taken. -/
import Derived.Test.YtekhakapmpdnaaaHdlcG
namespace Go.Proofs.Ytekhakapmpdnaaa
open Go.ChangeShapes Go.WideShapes Go.ChangeAt Go.RowKit
def BitPost (w : World) (p : HS × Option Ev) (e : Ending) (w' : World) : Prop := (∃ v, e = .returned (.tuple #[hV p.1, v]) ∧ RE w' w.heap.size w'.heap.size v p.2.toList) ∧ Below w.heap.size w w'
theorem bit_none {w w' : World} {h : HS} {p : HS × Option Ev} {r : Value} (hp : p = (h, none)) (hr : r = .tuple #[hV h, .slice none 0 0]) (hb : Below w.heap.size w w') : BitPost w p (.returned r) w' := by
  subst hp hr
  exact ⟨⟨_, rfl, RE_nil _ _ _⟩, hb⟩
theorem bit_some {w w2 : World} {h : HS} {ev : Ev} {p : HS × Option Ev} {r : Value} {g : Nat} (hp : p = (h, some ev)) (hg : w2.heap.size = g) (hr : r = .tuple #[hV h, .slice (some ⟨g, 0, none⟩) 1 1]) (hb : Below w.heap.size w w2) : BitPost w p (.returned r) (w2.alloc (.cells #[.int .i64 ev.kind, .string ⟨ev.text.toArray⟩] 42)) := by
  subst hp hr hg
  exact ⟨⟨_, rfl, (RE_new w2 ev).mono hb.size (by simp)⟩, hb.alloc hb.size _⟩
set_option maxRecDepth 100000 in
set_option maxHeartbeats 1000000 in
theorem l4Bit_one (kd : Int) (i : Bool) (n : Nat) (b : ByteArray) (w : World) (hn : n ≤ 7) (hb : b.size ≤ 240) (hB0 : i = false → b.data.toList = []) :
    Calls Try.prog 66 #[.int .i64 kd, .agg #[.bool i, .int .i64 n, .string b], .int .u8 49] w (BitPost w (hstep kd ⟨i, n, b.data.toList⟩ 49)) := by
  have hz := zero_event
  have hz2 := zero_hdlc
  have HSL := Lib.hid (size_list b)
  cases i with
  | true =>
    clear hB0
    by_cases h4 : n ≤ 4
    · by_cases h240 : 240 ≤ b.size
      · have HE := Lib.hid (show hstep kd ⟨true, n, b.data.toList⟩ 49 = (⟨true, n + 1, b.data.toList⟩, none) by
          show inOne n b.data.toList = _
          unfold inOne holdL; rw [if_neg (by omega), if_pos h4, if_pos (by rw [HSL.out]; exact h240)])
        have h7 : ((n : Int) + 1 == 7) = false := beq_eq_false_iff_ne.2 (by omega)
        go_enter Try.func66, Try.ntmps66
        go_wp2
        exact bodyPost_ret (v := .tuple #[.agg #[.bool true, .int .i64 ((n : Int) + 1), .string b], .slice none 0 0]) (by simp [results, Try.results66, go_sem]) rfl (bit_none HE.out rfl (below2 _ _ _))
      · have HE := Lib.hid (show hstep kd ⟨true, n, b.data.toList⟩ 49 = (⟨true, n + 1, b.data.toList ++ [49]⟩, none) by
          show inOne n b.data.toList = _
          unfold inOne holdL; rw [if_neg (by omega), if_pos h4, if_neg (by rw [HSL.out]; exact h240)])
        have h7 : ((n : Int) + 1 == 7) = false := beq_eq_false_iff_ne.2 (by omega)
        go_enter Try.func66, Try.ntmps66
        go_wp2
        exact bodyPost_ret (v := .tuple #[.agg #[.bool true, .int .i64 ((n : Int) + 1), .string (b ++ ⟨#[49]⟩)], .slice none 0 0]) (by simp [results, Try.results66, go_sem]) rfl (bit_none HE.out (by rw [mk_append]; rfl) (below2 _ _ _))
    · by_cases h5 : n = 5
      · subst h5
        have HE := Lib.hid (show hstep kd ⟨true, 5, b.data.toList⟩ 49 = (⟨true, 6, b.data.toList⟩, none) from rfl)
        go_enter Try.func66, Try.ntmps66
        go_wp2
        exact bodyPost_ret (v := .tuple #[.agg #[.bool true, .int .i64 6, .string b], .slice none 0 0]) (by simp [results, Try.results66, go_sem]) rfl (bit_none HE.out rfl (below2 _ _ _))
      · have HE := Lib.hid (show hstep kd ⟨true, n, b.data.toList⟩ 49 = (⟨false, 7, []⟩, some ⟨3, []⟩) by
          show inOne n b.data.toList = _
          unfold inOne; rw [if_pos (by omega)])
        by_cases h6 : n = 6
        · subst h6
          go_enter Try.func66, Try.ntmps66
          go_wp2
          exact bodyPost_ret (v := .tuple #[.agg #[.bool false, .int .i64 7, .string ⟨#[]⟩], .slice (some ⟨w.heap.size + 1 + 1, 0, none⟩) 1 1]) (by simp [results, Try.results66, go_sem]) rfl (bit_some (ev := ⟨3, []⟩) HE.out (by simp) rfl (below2 _ _ _))
        · obtain rfl : n = 7 := by omega
          go_enter Try.func66, Try.ntmps66
          go_wp2
          exact bodyPost_ret (v := .tuple #[.agg #[.bool false, .int .i64 7, .string ⟨#[]⟩], .slice (some ⟨w.heap.size + 1 + 1, 0, none⟩) 1 1]) (by simp [results, Try.results66, go_sem]) rfl (bit_some (ev := ⟨3, []⟩) HE.out (by simp) rfl (below2 _ _ _))
  | false =>
    have HB0 := Lib.hid (hB0 rfl)
    have hbe : b = ⟨#[]⟩ := mk_toList HB0.out
    clear hB0
    subst hbe
    by_cases h7 : n = 7
    · subst h7
      have HE := Lib.hid (show hstep kd ⟨false, 7, (⟨#[]⟩ : ByteArray).data.toList⟩ 49 = (⟨false, 7, []⟩, none) from rfl)
      go_enter Try.func66, Try.ntmps66
      go_wp2
      exact bodyPost_ret (v := .tuple #[.agg #[.bool false, .int .i64 7, .string ⟨#[]⟩], .slice none 0 0]) (by simp [results, Try.results66, go_sem]) rfl (bit_none HE.out rfl (below2 _ _ _))
    · have HE := Lib.hid (show hstep kd ⟨false, n, (⟨#[]⟩ : ByteArray).data.toList⟩ 49 = (⟨false, n + 1, []⟩, none) by
        show (outOne n, none) = _
        unfold outOne moreN; rw [if_pos (by omega)])
      have hn6 : n ≤ 6 := by omega
      clear h7 hn
      by_cases h6 : n ≤ 4
      · go_enter Try.func66, Try.ntmps66
        go_wp2
        all_goals exact bodyPost_ret (v := .tuple #[.agg #[.bool false, .int .i64 ((n : Int) + 1), .string ⟨#[]⟩], .slice none 0 0]) (by simp [results, Try.results66, go_sem]) rfl (bit_none HE.out rfl (below2 _ _ _))
      · have h56 : n = 5 ∨ n = 6 := by omega
        clear h6 hn6
        rcases h56 with rfl | rfl
        all_goals
          go_enter Try.func66, Try.ntmps66
          go_wp2
        · exact bodyPost_ret (v := .tuple #[.agg #[.bool false, .int .i64 6, .string ⟨#[]⟩], .slice none 0 0]) (by simp [results, Try.results66, go_sem]) rfl (bit_none HE.out rfl (below2 _ _ _))
        · exact bodyPost_ret (v := .tuple #[.agg #[.bool false, .int .i64 7, .string ⟨#[]⟩], .slice none 0 0]) (by simp [results, Try.results66, go_sem]) rfl (bit_none HE.out rfl (below2 _ _ _))
set_option maxRecDepth 100000 in
set_option maxHeartbeats 1000000 in
theorem l4Bit_nought (kd : Int) (i : Bool) (n : Nat) (b : ByteArray) (w : World) (hk : kindB kd = true) (hn : n ≤ 7) (hb : b.size ≤ 240) (hbits : b.data.toList.all bitB = true) (hB0 : i = false → b.data.toList = []) :
    Calls Try.prog 66 #[.int .i64 kd, .agg #[.bool i, .int .i64 n, .string b], .int .u8 48] w (BitPost w (hstep kd ⟨i, n, b.data.toList⟩ 48)) := by
  have hz := zero_event
  have hz2 := zero_hdlc
  have HSL := Lib.hid (size_list b)
  have HK := Lib.hid hk
  have HB := Lib.hid hbits
  clear hk hbits
  cases i with
  | true =>
    clear hB0
    by_cases h6 : n = 6
    · subst h6
      have HE := Lib.hid (show hstep kd ⟨true, 6, b.data.toList⟩ 48 = (⟨true, 0, []⟩, endL kd b.data.toList) from rfl)
      go_enter Try.func66, Try.ntmps66
      go_wp2_with fail
      refine (l4End_any kd b _ HK.out hb HB.out).mono ?_
      rintro e w1 ⟨⟨v, rfl, hre⟩, hb1⟩
      have htwo := (Two.start w _ _ _ _ _ _ _ _).from hb1
      obtain ⟨_, _, _, c3, c4, c5⟩ := htwo.cells
      obtain ⟨_, _, _, f3, f4, f5⟩ := htwo.free
      have HRE := Lib.hid hre
      have HBel := Lib.hid htwo.2.2.2
      clear hre hb1 htwo
      go_wp2
      exact bodyPost_ret (v := .tuple #[.agg #[.bool true, .int .i64 0, .string ⟨#[]⟩], v]) (by simp [results, Try.results66, go_sem, c3, c4, c5]) rfl (by
        rw [HE.out]
        refine ⟨⟨v, rfl, ?_⟩, ((HBel.out.setCell (by simp) _).setCell (by simp) _).setCell (by simp) _⟩
        have h1 := (((HRE.out.setCell (p := ⟨w.heap.size + 1, 0, none⟩) (by simp) (.bool true)).setCell (p := ⟨w.heap.size + 1, 1, none⟩) (by simp) (.int .i64 0)).setCell (p := ⟨w.heap.size + 1, 2, none⟩) (by simp) (.string ⟨#[]⟩))
        exact h1.mono (by simp; omega) (by simp))
    by_cases h5 : n = 5
    · subst h5
      have HE := Lib.hid (show hstep kd ⟨true, 5, b.data.toList⟩ 48 = (⟨true, 0, b.data.toList⟩, none) from rfl)
      go_enter Try.func66, Try.ntmps66
      go_wp2
      exact bodyPost_ret (v := .tuple #[.agg #[.bool true, .int .i64 0, .string b], .slice none 0 0]) (by simp [results, Try.results66, go_sem]) rfl (bit_none HE.out rfl (below2 _ _ _))
    have hb6 : ((n : Int) == 6) = false := beq_eq_false_iff_ne.2 (by omega)
    have hb5 : ((n : Int) != 5) = true := by rw [bne_iff_ne]; omega
    by_cases h240 : 240 ≤ b.size
    · have HE := Lib.hid (show hstep kd ⟨true, n, b.data.toList⟩ 48 = (⟨true, 0, b.data.toList⟩, none) by
        show inNought kd n b.data.toList = _
        unfold inNought holdL; rw [if_neg h5, if_neg h6, if_pos (by rw [HSL.out]; exact h240)])
      clear h5 h6
      go_enter Try.func66, Try.ntmps66
      go_wp2
      exact bodyPost_ret (v := .tuple #[.agg #[.bool true, .int .i64 0, .string b], .slice none 0 0]) (by simp [results, Try.results66, go_sem]) rfl (bit_none HE.out rfl (below2 _ _ _))
    · have HE := Lib.hid (show hstep kd ⟨true, n, b.data.toList⟩ 48 = (⟨true, 0, b.data.toList ++ [48]⟩, none) by
        show inNought kd n b.data.toList = _
        unfold inNought holdL; rw [if_neg h5, if_neg h6, if_neg (by rw [HSL.out]; exact h240)])
      clear h5 h6
      go_enter Try.func66, Try.ntmps66
      go_wp2
      exact bodyPost_ret (v := .tuple #[.agg #[.bool true, .int .i64 0, .string (b ++ ⟨#[48]⟩)], .slice none 0 0]) (by simp [results, Try.results66, go_sem]) rfl (bit_none HE.out (by rw [mk_append]; rfl) (below2 _ _ _))
  | false =>
    have HB0 := Lib.hid (hB0 rfl)
    have hbe : b = ⟨#[]⟩ := mk_toList HB0.out
    clear hB0
    subst hbe
    by_cases h6 : n = 6
    · subst h6
      have HE := Lib.hid (show hstep kd ⟨false, 6, (⟨#[]⟩ : ByteArray).data.toList⟩ 48 = (⟨true, 0, []⟩, none) from rfl)
      go_enter Try.func66, Try.ntmps66
      go_wp2
      exact bodyPost_ret (v := .tuple #[.agg #[.bool true, .int .i64 0, .string ⟨#[]⟩], .slice none 0 0]) (by simp [results, Try.results66, go_sem]) rfl (bit_none HE.out rfl (below2 _ _ _))
    · have HE := Lib.hid (show hstep kd ⟨false, n, (⟨#[]⟩ : ByteArray).data.toList⟩ 48 = (⟨false, 0, []⟩, none) by
        show (outNought n, none) = _
        unfold outNought; rw [if_neg h6])
      have hb6 : ((n : Int) == 6) = false := beq_eq_false_iff_ne.2 (by omega)
      clear h6
      by_cases h5 : n = 5
      · subst h5
        go_enter Try.func66, Try.ntmps66
        go_wp2
        exact bodyPost_ret (v := .tuple #[.agg #[.bool false, .int .i64 0, .string ⟨#[]⟩], .slice none 0 0]) (by simp [results, Try.results66, go_sem]) rfl (bit_none HE.out rfl (below2 _ _ _))
      · have hb5 : ((n : Int) != 5) = true := by rw [bne_iff_ne]; omega
        clear h5
        go_enter Try.func66, Try.ntmps66
        go_wp2
        exact bodyPost_ret (v := .tuple #[.agg #[.bool false, .int .i64 0, .string ⟨#[]⟩], .slice none 0 0]) (by simp [results, Try.results66, go_sem]) rfl (bit_none HE.out rfl (below2 _ _ _))
theorem l4Bit_any (kd : Int) (i : Bool) (n : Nat) (b : ByteArray) (c : UInt8) (w : World) (hk : kindB kd = true) (hok : hokB ⟨i, n, b.data.toList⟩ = true) (hc : bitB c = true) :
    Calls Try.prog 66 #[.int .i64 kd, .agg #[.bool i, .int .i64 n, .string b], .int .u8 c.toNat] w (BitPost w (hstep kd ⟨i, n, b.data.toList⟩ c)) := by
  obtain ⟨h1, h2, h3, h4⟩ := (hok_iff _).1 hok
  have hcc : c = 48 ∨ c = 49 := by simpa [bitB] using hc
  have h2' : b.size ≤ 240 := by simpa [size_list] using h2
  rcases hcc with rfl | rfl
  · exact l4Bit_nought kd i n b w hk h1 h2' h3 h4
  · exact l4Bit_one kd i n b w h1 h2' h4
end Go.Proofs.Ytekhakapmpdnaaa
