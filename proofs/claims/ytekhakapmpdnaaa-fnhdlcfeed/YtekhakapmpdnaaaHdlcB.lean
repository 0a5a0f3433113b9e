/- Contracts of the finder's states in the program, second part: a nought, a bit outside, the states shown. -/
import Derived.Test.YtekhakapmpdnaaaHdlcA
import Derived.Deep.RegionWith
namespace Go.Proofs.Ytekhakapmpdnaaa
open Go.ChangeShapes Go.WideShapes Go.ChangeAt Go.RowKit
theorem evV_form (o : Option Ev) : ∃ k t, evV o = .agg #[.int .i64 k, .string t] := by
  cases o with
  | none => exact ⟨_, _, rfl⟩
  | some e => exact ⟨_, _, rfl⟩
theorem ev_cells2 {w w2 : World} {o : Obj} {u v : Value} {t : TypeId} (h : Below ((w.alloc o).alloc (.cells #[u, v] t)).heap.size ((w.alloc o).alloc (.cells #[u, v] t)) w2) :
    w2.cell? ⟨w.heap.size + 1, 0, none⟩ = some u ∧ w2.cell? ⟨w.heap.size + 1, 1, none⟩ = some v ∧ w2.frozen? ⟨w.heap.size + 1, 0, none⟩ = false ∧ w2.frozen? ⟨w.heap.size + 1, 1, none⟩ = false ∧ w.heap.size + 1 < w2.heap.size ∧ Below w.heap.size w w2 := by
  have h1 := ev_cells h
  rw [World.size_alloc] at h1
  exact ⟨h1.1, h1.2.1, h1.2.2.1, h1.2.2.2.1, h1.2.2.2.2.1, ((Below.refl _ w).alloc (Nat.le_refl _) _).trans (h1.2.2.2.2.2.mono (by omega))⟩
set_option maxRecDepth 100000 in
theorem nought_any (kd : Int) (n : Nat) (b : ByteArray) (w : World) (hk : kindB kd = true) (hn : n ≤ 7) (hb : b.size ≤ 240) (hbits : b.data.toList.all bitB = true) :
    Calls Try.prog 104 #[.agg #[.int .i64 n, .string b], .int .i64 kd] w fun e w' => e = retTwo (inNought kd n b.data.toList) ∧ Below w.heap.size w w' := by
  have hz := zero_event
  have hz2 := zero_inside
  have HK := Lib.hid hk
  have HB := Lib.hid hbits
  clear hk hbits
  by_cases h5 : n = 5
  · subst h5
    have HE := Lib.hid (show inNought kd 5 b.data.toList = (⟨true, 0, b.data.toList⟩, none) from rfl)
    go_enter Try.func104, Try.ntmps104
    go_wp2
    exact bodyPost_ret (v := .tuple #[.iface 99 (.agg #[.int .i64 0, .string b]), .agg #[.int .i64 0, .string ⟨#[]⟩]]) (by simp [results, Try.results104, go_sem]) rfl ⟨by rw [HE.out]; rfl, below2 _ _ _⟩
  by_cases h6 : n = 6
  · subst h6
    have HE := Lib.hid (show inNought kd 6 b.data.toList = (⟨true, 0, []⟩, endL kd b.data.toList) from rfl)
    go_enter Try.func104, Try.ntmps104
    go_wp2_with fail
    refine (frame_any kd b _ HK.out hb HB.out).mono ?_
    rintro e w2 ⟨rfl, hb2⟩
    obtain ⟨hc0, hc1, hf0, hf1, hlt, hbel⟩ := ev_cells2 hb2
    have HBel := Lib.hid hbel
    clear hb2 hbel
    obtain ⟨k, t, hV⟩ := evV_form (endL kd b.data.toList)
    have HV := Lib.hid hV
    rw [evOf, hV]
    clear hV
    go_wp2
    exact bodyPost_ret (v := .tuple #[.iface 99 (.agg #[.int .i64 0, .string ⟨#[]⟩]), .agg #[.int .i64 k, .string t]]) (by simp [results, Try.results104, go_sem, hc0, hc1]) rfl ⟨by rw [HE.out, retTwo, HV.out]; rfl, (HBel.out.setCell (by simp) _).setCell (by simp) _⟩
  · have HE := Lib.hid (show inNought kd n b.data.toList = (⟨true, 0, holdL b.data.toList 48⟩, none) by unfold inNought; rw [if_neg h5, if_neg h6])
    have hb5 : ((n : Int) == 5) = false := beq_eq_false_iff_ne.2 (by omega)
    have hb6 : ((n : Int) == 6) = false := beq_eq_false_iff_ne.2 (by omega)
    clear h5 h6
    go_enter Try.func104, Try.ntmps104
    go_wp2_with (go_at_call 107; refine (hold_any _ _ _ hb).mono ?_; rintro e w' ⟨rfl, rfl⟩)
    exact bodyPost_ret (v := .tuple #[.iface 99 (.agg #[.int .i64 0, .string ⟨(holdL b.data.toList 48).toArray⟩]), .agg #[.int .i64 0, .string ⟨#[]⟩]]) (by simp [results, Try.results104, go_sem]) rfl ⟨by rw [HE.out]; rfl, below2 _ _ _⟩
set_option maxRecDepth 100000 in
theorem outTake_any (kd : Int) (n : Nat) (c : UInt8) (w : World) (hn : n ≤ 7) (hc : bitB c = true) :
    Calls Try.prog 112 #[.agg #[.int .i64 n], .int .i64 kd, .int .u8 c.toNat] w fun e w' => e = retTwo (hstep kd ⟨false, n, []⟩ c) ∧ Below w.heap.size w w' := by
  have hz := zero_event
  have hz2 := zero_inside
  have hz3 := zero_outside
  have hcc : c = 48 ∨ c = 49 := by simpa [bitB] using hc
  clear hc
  rcases hcc with rfl | rfl
  · by_cases h6 : n = 6
    · subst h6
      have HE := Lib.hid (show hstep kd ⟨false, 6, []⟩ 48 = (⟨true, 0, []⟩, none) from rfl)
      go_enter Try.func112, Try.ntmps112
      go_wp2
      exact bodyPost_ret (v := .tuple #[.iface 99 (.agg #[.int .i64 0, .string ⟨#[]⟩]), .agg #[.int .i64 0, .string ⟨#[]⟩]]) (by simp [results, Try.results112, go_sem]) rfl ⟨by rw [HE.out]; rfl, below2 _ _ _⟩
    · have HE := Lib.hid (show hstep kd ⟨false, n, []⟩ 48 = (⟨false, 0, []⟩, none) by show (outNought n, none) = _; unfold outNought; rw [if_neg h6])
      have hb6 : ((n : Int) == 6) = false := beq_eq_false_iff_ne.2 (by omega)
      clear h6
      go_enter Try.func112, Try.ntmps112
      go_wp2
      exact bodyPost_ret (v := .tuple #[.iface 101 (.agg #[.int .i64 0]), .agg #[.int .i64 0, .string ⟨#[]⟩]]) (by simp [results, Try.results112, go_sem]) rfl ⟨by rw [HE.out]; rfl, below2 _ _ _⟩
  · have HE := Lib.hid (show hstep kd ⟨false, n, []⟩ 49 = (⟨false, moreN n, []⟩, none) from rfl)
    go_enter Try.func112, Try.ntmps112
    go_wp2_with (go_at_call 106; refine (more_any _ _ hn).mono ?_; rintro e w' ⟨rfl, rfl⟩)
    exact bodyPost_ret (v := .tuple #[.iface 101 (.agg #[.int .i64 (moreN n)]), .agg #[.int .i64 0, .string ⟨#[]⟩]]) (by simp [results, Try.results112, go_sem]) rfl ⟨by rw [HE.out]; rfl, below2 _ _ _⟩
set_option maxRecDepth 100000 in
theorem inTake_any (kd : Int) (n : Nat) (b : ByteArray) (c : UInt8) (w : World) (hk : kindB kd = true) (hn : n ≤ 7) (hb : b.size ≤ 240) (hbits : b.data.toList.all bitB = true) (hc : bitB c = true) :
    Calls Try.prog 101 #[.agg #[.int .i64 n, .string b], .int .i64 kd, .int .u8 c.toNat] w fun e w' => e = retTwo (hstep kd ⟨true, n, b.data.toList⟩ c) ∧ Below w.heap.size w w' := by
  have hz := zero_event
  have hcc : c = 48 ∨ c = 49 := by simpa [bitB] using hc
  have HK := Lib.hid hk
  have HB := Lib.hid hbits
  clear hc hk hbits
  rcases hcc with rfl | rfl
  · have HE := Lib.hid (show hstep kd ⟨true, n, b.data.toList⟩ 48 = inNought kd n b.data.toList from rfl)
    go_enter Try.func101, Try.ntmps101
    go_wp2_with fail
    refine (nought_any kd n b _ HK.out hn hb HB.out).mono ?_
    rintro e w2 ⟨rfl, hb2⟩
    obtain ⟨hc0, hc1, hf0, hf1, hlt, hbel⟩ := ev_cells2 hb2
    have HBel := Lib.hid hbel
    clear hb2 hbel
    obtain ⟨k, t, hV⟩ := evV_form (inNought kd n b.data.toList).2
    have HV := Lib.hid hV
    rw [retTwo, hV]
    clear hV
    go_wp2
    exact bodyPost_ret (v := .tuple #[stV (inNought kd n b.data.toList).1, .agg #[.int .i64 k, .string t]]) (by simp [results, Try.results101, go_sem, hc0, hc1]) rfl ⟨by rw [HE.out, retTwo, HV.out], (HBel.out.setCell (by simp) _).setCell (by simp) _⟩
  · have HE := Lib.hid (show hstep kd ⟨true, n, b.data.toList⟩ 49 = inOne n b.data.toList from rfl)
    go_enter Try.func101, Try.ntmps101
    go_wp2_with fail
    refine (takeOne_any n b _ hn hb).mono ?_
    rintro e w2 ⟨rfl, hb2⟩
    obtain ⟨hc0, hc1, hf0, hf1, hlt, hbel⟩ := ev_cells2 hb2
    have HBel := Lib.hid hbel
    clear hb2 hbel
    obtain ⟨k, t, hV⟩ := evV_form (inOne n b.data.toList).2
    have HV := Lib.hid hV
    rw [retTwo, hV]
    clear hV
    go_wp2
    exact bodyPost_ret (v := .tuple #[stV (inOne n b.data.toList).1, .agg #[.int .i64 k, .string t]]) (by simp [results, Try.results101, go_sem, hc0, hc1]) rfl ⟨by rw [HE.out, retTwo, HV.out], (HBel.out.setCell (by simp) _).setCell (by simp) _⟩
/-- a finder as a value -/
def hV (h : HS) : Value := .agg #[.bool h.inn, .int .i64 h.ones, .string ⟨h.bits.toArray⟩]
theorem stateOf_any (i : Bool) (n : Nat) (b : ByteArray) (w : World) :
    Calls Try.prog 44 #[.agg #[.bool i, .int .i64 n, .string b]] w fun e w' => e = .returned (stV ⟨i, n, b.data.toList⟩) ∧ Below w.heap.size w w' := by
  have hz2 := zero_inside
  have hz3 := zero_outside
  cases i with
  | true =>
    go_enter Try.func44, Try.ntmps44
    go_wp2
    go_ret
    exact ⟨rfl, (Below.refl _ _).alloc (Nat.le_refl _) _⟩
  | false =>
    go_enter Try.func44, Try.ntmps44
    go_wp2
    go_ret
    exact ⟨rfl, (Below.refl _ _).alloc (Nat.le_refl _) _⟩
theorem outShown_any (n : Nat) (w : World) :
    Calls Try.prog 111 #[.agg #[.int .i64 n]] w fun e w' => e = .returned (hV ⟨false, n, []⟩) ∧ Below w.heap.size w w' := by
  have hz := zero_hdlc
  go_enter Try.func111, Try.ntmps111
  go_wp2
  exact bodyPost_ret (v := .agg #[.bool false, .int .i64 n, .string ⟨#[]⟩]) (by simp [results, Try.results111, go_sem]) rfl ⟨rfl, below2 _ _ _⟩
theorem shown_cells {w w2 : World} {u v a b c : Value} {t t2 : TypeId} (h : Below (((w.alloc (.cells #[u, v] t)).alloc (.cells #[a, b, c] t2)).drew).heap.size ((w.alloc (.cells #[u, v] t)).alloc (.cells #[a, b, c] t2)).drew w2) :
    (w2.cell? ⟨w.heap.size, 0, none⟩ = some u ∧ w2.cell? ⟨w.heap.size, 1, none⟩ = some v) ∧ (w2.cell? ⟨w.heap.size + 1, 0, none⟩ = some a ∧ w2.cell? ⟨w.heap.size + 1, 1, none⟩ = some b ∧ w2.cell? ⟨w.heap.size + 1, 2, none⟩ = some c) ∧ (w2.frozen? ⟨w.heap.size + 1, 0, none⟩ = false ∧ w2.frozen? ⟨w.heap.size + 1, 1, none⟩ = false ∧ w2.frozen? ⟨w.heap.size + 1, 2, none⟩ = false) ∧ w.heap.size + 1 < w2.heap.size ∧ Below w.heap.size w w2 := by
  have hs : (((w.alloc (.cells #[u, v] t)).alloc (.cells #[a, b, c] t2)).drew).heap.size = w.heap.size + 2 := by simp
  have k0 : w.heap.size < (((w.alloc (.cells #[u, v] t)).alloc (.cells #[a, b, c] t2)).drew).heap.size := by rw [hs]; omega
  have k1 : w.heap.size + 1 < (((w.alloc (.cells #[u, v] t)).alloc (.cells #[a, b, c] t2)).drew).heap.size := by rw [hs]; omega
  refine ⟨⟨(h.cell (p := ⟨w.heap.size, 0, none⟩) k0).trans (by simp), (h.cell (p := ⟨w.heap.size, 1, none⟩) k0).trans (by simp)⟩, ⟨(h.cell (p := ⟨w.heap.size + 1, 0, none⟩) k1).trans (by simp), (h.cell (p := ⟨w.heap.size + 1, 1, none⟩) k1).trans (by simp), (h.cell (p := ⟨w.heap.size + 1, 2, none⟩) k1).trans (by simp)⟩, ⟨(h.frozen (p := ⟨w.heap.size + 1, 0, none⟩) k1).trans (by simp), (h.frozen (p := ⟨w.heap.size + 1, 1, none⟩) k1).trans (by simp), (h.frozen (p := ⟨w.heap.size + 1, 2, none⟩) k1).trans (by simp)⟩, Nat.lt_of_lt_of_le k1 h.size, ?_⟩
  exact (below2 w _ _).drew.trans (h.mono (by rw [hs]; omega))
set_option maxHeartbeats 1000000 in
theorem inShown_any (n : Nat) (b : ByteArray) (w : World) (hb : b.size ≤ 240) :
    Calls Try.prog 100 #[.agg #[.int .i64 n, .string b]] w fun e w' => e = .returned (hV ⟨true, n, b.data.toList⟩) ∧ Below w.heap.size w w' := by
  have hz := zero_hdlc
  go_enter Try.func100, Try.ntmps100
  go_wp2_with fail
  go_region_with ((go_at_call 102; refine (clone_any b _ (by omega)).mono ?_; rintro e w2 ⟨rfl, hb2⟩; obtain ⟨⟨hc0, hc1⟩, ⟨hd0, hd1, hd2⟩, ⟨hf0, hf1, hf2⟩, hlt, hbel⟩ := shown_cells hb2; have HBel := Lib.hid hbel; clear hb2 hbel))
  all_goals
    go_wp2
    exact bodyPost_ret (v := .agg #[.bool true, .int .i64 n, .string b]) (by simp [results, Try.results100, go_sem, hd0, hd1, hd2]) rfl ⟨rfl, ((HBel.out.setCell (by simp) _).setCell (by simp) _).setCell (by simp) _⟩
end Go.Proofs.Ytekhakapmpdnaaa
