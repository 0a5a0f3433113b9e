/- What the laws of the scrambler take. -/
import Derived.Test.YtcljldnaecldnaaScrF
import Derived.Test.YtcljldnaecldnaaDrawScr
namespace Go.Proofs.Ytcljldnaecldnaa
open Go.ChangeShapes Go.WideShapes Go.ChangeAt Go.RowKit Go.Conc
theorem scOk_yes {n : Nat} {s : ByteArray} (hn : n < 128) (h : okB s.data.toList = true) : scOkB n s = true := by
  unfold scOkB stB
  rw [decide_eq_true (show 0 ≤ (n : Int) by omega), decide_eq_true (show (n : Int) ≤ 127 by omega), h]; rfl
theorem endS_yes (f : Nat → Bool → Nat × Bool) {n : Nat} {s : ByteArray} (hn : n < 128) (h : okB s.data.toList = true) : endS f n s = ((mealy f n s.data.toList).1 : Nat) := by
  unfold endS; rw [if_pos (scOk_yes hn h)]; rfl
theorem outS_yes (f : Nat → Bool → Nat × Bool) {n : Nat} {s : ByteArray} (hn : n < 128) (h : okB s.data.toList = true) : outS f n s = ⟨(mealy f n s.data.toList).2.toArray⟩ := by
  unfold outS; rw [if_pos (scOk_yes hn h)]; rfl
theorem endS_no (f : Nat → Bool → Nat × Bool) {st : Int} {s : ByteArray} (h : scOkB st s = false) : endS f st s = -1 := by unfold endS; rw [h]; rfl
theorem outS_no (f : Nat → Bool → Nat × Bool) {st : Int} {s : ByteArray} (h : scOkB st s = false) : outS f st s = ⟨#[]⟩ := by unfold outS; rw [h]; rfl
theorem sok_size {s : ByteArray} (h : okB s.data.toList = true) : s.size ≤ maxLen := by
  have := (okB_iff.1 h).2
  rw [size_list] at this
  unfold maxLen; omega
theorem scPutY (n : Nat) (s T : ByteArray) (E : Nat) (w : World) (hn : n < 128) (h : okB s.data.toList = true) (hm : mealy scP n s.data.toList = (E, T.data.toList)) :
    Calls Try.prog 11 #[.int .i64 n, .string s] w fun e w' => e = .returned (.tuple #[.int .i64 E, .string T]) ∧ Below w.heap.size w w' := by
  have := implScPut_any n s w (sok_size h)
  rw [endS_yes scP hn h, outS_yes scP hn h, hm] at this
  simpa using this
theorem scGetY (n : Nat) (s T : ByteArray) (E : Nat) (w : World) (hn : n < 128) (h : okB s.data.toList = true) (hm : mealy scG n s.data.toList = (E, T.data.toList)) :
    Calls Try.prog 13 #[.int .i64 n, .string s] w fun e w' => e = .returned (.tuple #[.int .i64 E, .string T]) ∧ Below w.heap.size w w' := by
  have := implScGet_any n s w (sok_size h)
  rw [endS_yes scG hn h, outS_yes scG hn h, hm] at this
  simpa using this
theorem scPutM (n : Nat) (s T : ByteArray) (E : Nat) (w : World) (hn : n < 128) (h : okB s.data.toList = true) (hm : mealy scP n s.data.toList = (E, T.data.toList)) :
    Calls Try.prog 12 #[.int .i64 n, .string s] w fun e w' => e = .returned (.tuple #[.int .i64 E, .string T]) ∧ Below w.heap.size w w' := by
  have := specScPut_any n s w (sok_size h)
  rw [endS_yes scP hn h, outS_yes scP hn h, hm] at this
  simpa using this
theorem scGetM (n : Nat) (s T : ByteArray) (E : Nat) (w : World) (hn : n < 128) (h : okB s.data.toList = true) (hm : mealy scG n s.data.toList = (E, T.data.toList)) :
    Calls Try.prog 15 #[.int .i64 n, .string s] w fun e w' => e = .returned (.tuple #[.int .i64 E, .string T]) ∧ Below w.heap.size w w' := by
  have := specScGet_any n s w (sok_size h)
  rw [endS_yes scG hn h, outS_yes scG hn h, hm] at this
  simpa using this
/-- a text that holds a list -/
theorem text_of (l : List UInt8) : ∃ T : ByteArray, T.data.toList = l := ⟨⟨l.toArray⟩, rfl⟩
end Go.Proofs.Ytcljldnaecldnaa
