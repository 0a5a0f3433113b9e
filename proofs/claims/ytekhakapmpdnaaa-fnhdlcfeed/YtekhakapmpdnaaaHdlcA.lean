/- Contracts of the finder's states in the program: a bit taken. -/
import Derived.Test.YtekhakapmpdnaaaHdlcM
import Derived.Lib.Strings
namespace Go.Proofs.Ytekhakapmpdnaaa
open Go.ChangeShapes Go.WideShapes Go.ChangeAt Go.RowKit
theorem mk_toList {s : ByteArray} {l : List UInt8} (h : s.data.toList = l) : s = ⟨l.toArray⟩ := by rw [← h, Lib.mk_data]
theorem mk_append (s : ByteArray) (c : UInt8) : s ++ ⟨#[c]⟩ = ⟨(s.data.toList ++ [c]).toArray⟩ := by
  apply mk_toList
  simp
theorem more_any (n : Nat) (w : World) (h : n ≤ 7) :
    Calls Try.prog 106 #[.int .i64 n] w fun e w' => e = .returned (.int .i64 (moreN n : Int)) ∧ w = w' := by
  by_cases h6 : n ≤ 6
  · have HE := Lib.hid (show moreN n = n + 1 from if_pos h6)
    go_enter Try.func106, Try.ntmps106
    go_wp2
    all_goals
      go_ret
      exact ⟨ret_int (by rw [HE.out]; omega), rfl⟩
  · have HE := Lib.hid (show moreN n = 7 from if_neg h6)
    go_enter Try.func106, Try.ntmps106
    go_wp2
    all_goals
      go_ret
      exact ⟨ret_int (by rw [HE.out]; omega), rfl⟩
set_option maxRecDepth 100000 in
theorem hold_any (s : ByteArray) (c : UInt8) (w : World) (h : s.size ≤ 240) :
    Calls Try.prog 107 #[.string s, .string ⟨#[c]⟩] w fun e w' => e = .returned (.string ⟨(holdL s.data.toList c).toArray⟩) ∧ w = w' := by
  have HSL := Lib.hid (size_list s)
  by_cases h6 : 240 ≤ s.size
  · have HE := Lib.hid (show holdL s.data.toList c = s.data.toList by unfold holdL; rw [if_pos (by rw [HSL.out]; exact h6)])
    go_enter Try.func107, Try.ntmps107
    go_wp2
    go_ret
    exact ⟨by rw [HE.out, Lib.mk_data]; rfl, rfl⟩
  · have HE := Lib.hid (show holdL s.data.toList c = s.data.toList ++ [c] by unfold holdL; rw [if_neg (by rw [HSL.out]; exact h6)])
    go_enter Try.func107, Try.ntmps107
    go_wp2
    go_ret
    refine ⟨?_, rfl⟩
    rw [HE.out, ← mk_append]; rfl
/-- an event as a value; none is of kind 0 -/
def evV : Option Ev → Value
  | none => .agg #[.int .i64 0, .string ⟨#[]⟩]
  | some e => .agg #[.int .i64 e.kind, .string ⟨e.text.toArray⟩]
/-- a finder's state as a value -/
def stV (h : HS) : Value := if h.inn then .iface 99 (.agg #[.int .i64 h.ones, .string ⟨h.bits.toArray⟩]) else .iface 101 (.agg #[.int .i64 h.ones])
def retTwo (p : HS × Option Ev) : Ending := .returned (.tuple #[stV p.1, evV p.2])
theorem zero_event (w : World) : (zeroValue 42).run Try.prog w = .ok (.agg #[.int .i64 0, .string ⟨#[]⟩]) w := by kernel_rfl
theorem zero_inside (w : World) : (zeroValue 99).run Try.prog w = .ok (.agg #[.int .i64 0, .string ⟨#[]⟩]) w := by kernel_rfl
theorem zero_outside (w : World) : (zeroValue 101).run Try.prog w = .ok (.agg #[.int .i64 0]) w := by kernel_rfl
theorem zero_hdlc (w : World) : (zeroValue 29).run Try.prog w = .ok (.agg #[.bool false, .int .i64 0, .string ⟨#[]⟩]) w := by kernel_rfl
theorem below2 (w : World) (a b : Obj) : Below w.heap.size w ((w.alloc a).alloc b) := ((Below.refl _ _).alloc (Nat.le_refl _) _).alloc (by simp) _
set_option maxRecDepth 100000 in
theorem takeOne_any (n : Nat) (b : ByteArray) (w : World) (hn : n ≤ 7) (hb : b.size ≤ 240) :
    Calls Try.prog 103 #[.agg #[.int .i64 n, .string b]] w fun e w' => e = retTwo (inOne n b.data.toList) ∧ Below w.heap.size w w' := by
  have hz := zero_event
  have hz2 := zero_inside
  have hz3 := zero_outside
  by_cases h6 : 6 ≤ n
  · have HE := Lib.hid (show inOne n b.data.toList = (⟨false, 7, []⟩, some ⟨3, []⟩) from if_pos h6)
    have HM := Lib.hid (show moreN n = 7 by unfold moreN; split <;> omega)
    go_enter Try.func103, Try.ntmps103
    go_wp2_with (go_at_call 106; refine (more_any _ _ hn).mono ?_; rintro e w' ⟨rfl, rfl⟩; rw [HM.out])
    exact bodyPost_ret (v := .tuple #[.iface 101 (.agg #[.int .i64 7]), .agg #[.int .i64 3, .string ⟨#[]⟩]]) (by simp [results, Try.results103, go_sem]) rfl ⟨by rw [HE.out]; rfl, below2 _ _ _⟩
  · have HM := Lib.hid (show (moreN n : Int) = (n : Int) + 1 by unfold moreN; split <;> omega)
    have hb7 : ((n : Int) + 1 == 7) = false := beq_eq_false_iff_ne.2 (by omega)
    by_cases h4 : n ≤ 4
    · have HE := Lib.hid (show inOne n b.data.toList = (⟨true, n + 1, holdL b.data.toList 49⟩, none) by unfold inOne; rw [if_neg h6, if_pos h4])
      go_enter Try.func103, Try.ntmps103
      go_wp2_with (first | (go_at_call 106; refine (more_any _ _ hn).mono ?_; rintro e w' ⟨rfl, rfl⟩; rw [HM.out]) | (go_at_call 107; refine (hold_any _ _ _ hb).mono ?_; rintro e w' ⟨rfl, rfl⟩))
      exact bodyPost_ret (v := .tuple #[.iface 99 (.agg #[.int .i64 ((n : Int) + 1), .string ⟨(holdL b.data.toList 49).toArray⟩]), .agg #[.int .i64 0, .string ⟨#[]⟩]]) (by simp [results, Try.results103, go_sem]) rfl ⟨by rw [HE.out]; rfl, below2 _ _ _⟩
    · have HE := Lib.hid (show inOne n b.data.toList = (⟨true, n + 1, b.data.toList⟩, none) by unfold inOne; rw [if_neg h6, if_neg h4])
      go_enter Try.func103, Try.ntmps103
      go_wp2_with (first | (go_at_call 106; refine (more_any _ _ hn).mono ?_; rintro e w' ⟨rfl, rfl⟩; rw [HM.out]) | (go_at_call 107; refine (hold_any _ _ _ hb).mono ?_; rintro e w' ⟨rfl, rfl⟩))
      exact bodyPost_ret (v := .tuple #[.iface 99 (.agg #[.int .i64 ((n : Int) + 1), .string b]), .agg #[.int .i64 0, .string ⟨#[]⟩]]) (by simp [results, Try.results103, go_sem]) rfl ⟨by rw [HE.out]; rfl, below2 _ _ _⟩
def evOf (o : Option Ev) : Ending := .returned (evV o)
theorem ext_head (b : ByteArray) (m : Nat) : (b.extract 0 m).data.toList = b.data.toList.take m := by
  rw [ByteArray.data_extract, Array.toList_extract, List.extract_eq_take_drop]; simp
theorem empty_of {T : ByteArray} (h : 0 < T.size) : T.toList.isEmpty = false := by
  rw [ByteArray.toList_eq]
  cases hl : T.data.toList with
  | nil => have := size_list T; rw [hl] at this; simp at this; omega
  | cons a l => rfl
theorem toL_ok {T : ByteArray} (hb : T.size ≤ 240) (hbits : T.data.toList.all bitB = true) : okB T.data.toList = true := by
  apply ok_of hbits; rw [size_list]; omega
/-- the box of a result that is two cells, behind calls -/
theorem ev_cells {w w2 : World} {u v : Value} {t : TypeId} (h : Below (w.alloc (.cells #[u, v] t)).heap.size (w.alloc (.cells #[u, v] t)) w2) :
    w2.cell? ⟨w.heap.size, 0, none⟩ = some u ∧ w2.cell? ⟨w.heap.size, 1, none⟩ = some v ∧ w2.frozen? ⟨w.heap.size, 0, none⟩ = false ∧ w2.frozen? ⟨w.heap.size, 1, none⟩ = false ∧ w.heap.size < w2.heap.size ∧ Below w.heap.size w w2 := by
  have hlt : w.heap.size < (w.alloc (.cells #[u, v] t)).heap.size := by simp
  refine ⟨(h.cell (p := ⟨w.heap.size, 0, none⟩) hlt).trans (by simp), (h.cell (p := ⟨w.heap.size, 1, none⟩) hlt).trans (by simp), (h.frozen (p := ⟨w.heap.size, 0, none⟩) hlt).trans (by simp), (h.frozen (p := ⟨w.heap.size, 1, none⟩) hlt).trans (by simp), Nat.lt_of_lt_of_le hlt h.size, ?_⟩
  exact ((Below.refl _ w).alloc (Nat.le_refl _) _).trans (h.mono (by simp))
set_option maxRecDepth 100000 in
set_option maxHeartbeats 1000000 in
theorem frame_some (kd : Int) (b T : ByteArray) (w : World) (hk : kindB kd = true) (hb : b.size ≤ 240) (h6 : 6 < b.size) (hx : b.extract 0 ((b.size : Int) - 6).toNat = T) (hTs : T.size ≤ 240) (hT0 : 0 < T.size) (hbits : T.data.toList.all bitB = true) :
    Calls Try.prog 108 #[.int .i64 kd, .string b] w fun e w' => e = evOf (evL kd T.data.toList) ∧ Below w.heap.size w w' := by
  have hz := zero_event
  have hk2 : 2 ≤ kd ∧ kd ≤ 4 := by
    have : kd = 2 ∨ kd = 4 := by simpa [kindB] using hk
    omega
  obtain ⟨hk1, hk2⟩ := hk2
  have hE := empty_of hT0
  have HSL := Lib.hid (size_list T)
  have HK := Lib.hid hk
  have HB := Lib.hid hbits
  clear hk hbits
  have HE0 := Lib.hid (show ¬ T.data.toList.length = 0 by rw [HSL.out]; omega)
  by_cases hA : 8 * (24 + kd) < (T.size : Int)
  · have HE := Lib.hid (show evL kd T.data.toList = some ⟨5, []⟩ by unfold evL; rw [if_neg HE0.out, if_pos (by rw [HSL.out]; exact hA)])
    go_enter Try.func108, Try.ntmps108
    go_wp2
    exact bodyPost_ret (v := .agg #[.int .i64 5, .string ⟨#[]⟩]) (by simp [results, Try.results108, go_sem]) rfl ⟨by rw [HE.out]; rfl, (Below.refl _ _).alloc (Nat.le_refl _) _⟩
  have HA := Lib.hid (show ¬ 8 * (24 + kd) < (T.data.toList.length : Int) by rw [HSL.out]; exact hA)
  by_cases hB : T.size % 8 ≠ 0
  · have HE := Lib.hid (show evL kd T.data.toList = some ⟨6, []⟩ by unfold evL; rw [if_neg HE0.out, if_neg HA.out, if_pos (by rw [HSL.out]; exact hB)])
    have hm8 : ((T.size : Int) % 8 != 0) = true := by rw [bne_iff_ne]; omega
    clear hB
    go_enter Try.func108, Try.ntmps108
    go_wp2
    exact bodyPost_ret (v := .agg #[.int .i64 6, .string ⟨#[]⟩]) (by simp [results, Try.results108, go_sem]) rfl ⟨by rw [HE.out]; rfl, (Below.refl _ _).alloc (Nat.le_refl _) _⟩
  have hm8 : ((T.size : Int) % 8 != 0) = false := by rw [show (T.size : Int) % 8 = 0 by omega]; rfl
  have hB' : T.size % 8 = 0 := by omega
  have H8 := Lib.hid hB'
  have HB8 := Lib.hid (show ¬ T.data.toList.length % 8 ≠ 0 by rw [HSL.out]; exact hB)
  clear hB hB'
  by_cases hC : (T.size : Int) < 8 * kd
  · have HE := Lib.hid (show evL kd T.data.toList = some ⟨4, []⟩ by unfold evL; rw [if_neg HE0.out, if_neg HA.out, if_neg HB8.out, if_pos (by rw [HSL.out]; exact hC)])
    go_enter Try.func108, Try.ntmps108
    go_wp2
    exact bodyPost_ret (v := .agg #[.int .i64 4, .string ⟨#[]⟩]) (by simp [results, Try.results108, go_sem]) rfl ⟨by rw [HE.out]; rfl, (Below.refl _ _).alloc (Nat.le_refl _) _⟩
  have HE := Lib.hid (show evL kd T.data.toList = some (evB kd (toL T.data.toList)) by unfold evL; rw [if_neg HE0.out, if_neg HA.out, if_neg HB8.out, if_neg (by rw [HSL.out]; exact hC)])
  obtain ⟨X, hX⟩ : ∃ X : ByteArray, X = ⟨(toL T.data.toList).toArray⟩ := ⟨_, rfl⟩
  have HX := Lib.hid (show X.data.toList = toL T.data.toList by rw [hX])
  have hXs : X.size ≤ 30 := by rw [← size_list, HX.out, toL_len, HSL.out]; omega
  have HXX := Lib.hid hX
  clear hX
  have HOK := Lib.hid (toL_ok hTs HB.out)
  cases hg : getB kd X.data.toList with
  | true =>
    have HG := Lib.hid hg
    have HEV := Lib.hid (show evB kd (toL T.data.toList) = ⟨1, cutL kd X.data.toList⟩ by rw [← HX.out]; unfold evB; rw [if_pos HG.out])
    clear hg
    go_enter Try.func108, Try.ntmps108
    go_wp2_with fail
    refine (implTo_yes T _ HOK.out H8.out).mono ?_
    rintro e w1 ⟨rfl, hb1⟩
    rw [← HXX.out]
    go_wp2_with fail
    refine (implGet_hit kd X _ (by omega) HG.out).mono ?_
    rintro e w2 ⟨rfl, hb2⟩
    obtain ⟨hc0, hc1, hf0, hf1, hlt, hbel⟩ := ev_cells (hb1.trans (hb2.mono hb1.size))
    have HBel := Lib.hid hbel
    clear hb1 hb2 hbel
    go_wp2
    exact bodyPost_ret (v := .agg #[.int .i64 1, .string ⟨(cutL kd X.data.toList).toArray⟩]) (by simp [results, Try.results108, go_sem, hc0, hc1]) rfl ⟨by rw [HE.out, HEV.out]; rfl, (HBel.out.setCell (by simp) _).setCell (by simp) _⟩
  | false =>
    have HG := Lib.hid hg
    have HEV := Lib.hid (show evB kd (toL T.data.toList) = ⟨2, []⟩ by rw [← HX.out]; unfold evB; rw [if_neg (by rw [HG.out]; exact Bool.false_ne_true)])
    clear hg
    go_enter Try.func108, Try.ntmps108
    go_wp2_with fail
    refine (implTo_yes T _ HOK.out H8.out).mono ?_
    rintro e w1 ⟨rfl, hb1⟩
    rw [← HXX.out]
    go_wp2_with fail
    refine (implGet_miss kd X _ (by omega) HG.out).mono ?_
    rintro e w2 ⟨rfl, hb2⟩
    obtain ⟨hc0, hc1, hf0, hf1, hlt, hbel⟩ := ev_cells (hb1.trans (hb2.mono hb1.size))
    have HBel := Lib.hid hbel
    clear hb1 hb2 hbel
    go_wp2
    exact bodyPost_ret (v := .agg #[.int .i64 2, .string ⟨#[]⟩]) (by simp [results, Try.results108, go_sem, hc0, hc1]) rfl ⟨by rw [HE.out, HEV.out]; rfl, (HBel.out.setCell (by simp) _).setCell (by simp) _⟩
theorem take_bits {l : List UInt8} (h : l.all bitB = true) (m : Nat) : (l.take m).all bitB = true := by
  rw [List.all_eq_true] at h ⊢
  exact fun x hx => h x (List.mem_of_mem_take hx)
theorem frame_any (kd : Int) (b : ByteArray) (w : World) (hk : kindB kd = true) (hb : b.size ≤ 240) (hbits : b.data.toList.all bitB = true) :
    Calls Try.prog 108 #[.int .i64 kd, .string b] w fun e w' => e = evOf (endL kd b.data.toList) ∧ Below w.heap.size w w' := by
  by_cases h6 : 6 < b.size
  · have hT := ext_head b (b.size - 6)
    have e : ((b.size : Int) - 6).toNat = b.size - 6 := by omega
    have hs : (b.extract 0 (b.size - 6)).size = b.size - 6 := by rw [← size_list, hT, List.length_take, size_list]; omega
    have := frame_some kd b (b.extract 0 (b.size - 6)) w hk hb h6 (by rw [e]) (by omega) (by omega) (by rw [hT]; exact take_bits hbits _)
    rw [hT] at this
    unfold endL
    rw [size_list]
    exact this
  · have hz := zero_event
    have HE := Lib.hid (show endL kd b.data.toList = none by unfold endL evL; rw [if_pos (by rw [List.length_take, size_list]; omega)])
    have hx : b.extract 0 0 = ⟨#[]⟩ := by rw [mk_toList (ext_head b 0)]; rfl
    have hle : (b.size : Int) - 6 ≤ 0 := by omega
    go_enter Try.func108, Try.ntmps108
    go_wp2
    exact bodyPost_ret (v := .agg #[.int .i64 0, .string ⟨#[]⟩]) (by simp [results, Try.results108, go_sem]) rfl ⟨by rw [HE.out]; rfl, (Below.refl _ _).alloc (Nat.le_refl _) _⟩
end Go.Proofs.Ytekhakapmpdnaaa
