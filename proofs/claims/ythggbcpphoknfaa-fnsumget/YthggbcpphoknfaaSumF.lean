/- Contracts of SumGet, SumGood in the program and in the model. -/
import Derived.Test.YthggbcpphoknfaaSumE
import Derived.Test.YthggbcpphoknfaaClone
import Derived.Lib.Strings
namespace Go.Proofs.Ythggbcpphoknfaa
open Go.ChangeShapes Go.WideShapes Go.ChangeAt Go.RowKit

def putL (kd : Int) (l : List UInt8) : List UInt8 := l ++ leB (sumN kd l) kd.toNat
/-- what SumGet reads: all but the last bytes, if the sum is theirs -/
def cutL (kd : Int) (l : List UInt8) : List UInt8 := l.take (l.length - kd.toNat)
def getB (kd : Int) (l : List UInt8) : Bool := kindB kd && decide (kd.toNat ≤ l.length) && (putL kd (cutL kd l) == l)

theorem ext_cut (kd : Int) (s : ByteArray) (h0 : 0 ≤ kd) (hl : kd.toNat ≤ s.size) : (s.extract 0 ((s.size : Int) - kd).toNat).data.toList = cutL kd s.data.toList := by
  rw [Lib.extract_data]
  simp [cutL]
  congr 1
  omega
set_option maxRecDepth 100000 in
theorem implGet_short (kd : Int) (s : ByteArray) (w : World) (h : (kindB kd && decide (kd.toNat ≤ s.size)) = false) :
    Calls Try.prog 25 #[.int .i64 kd, .string s] w fun e w' => e = .returned (.tuple #[.string ⟨#[]⟩, .bool false]) ∧ w = w' := by
  cases hk : kindB kd with
  | false =>
    have HK := Lib.hid hk
    clear h hk
    go_enter Try.func25, Try.ntmps25
    go_wp2_with (go_at_call 37; refine (polyOf_no _ _ HK.out).mono ?_; rintro e w' ⟨rfl, rfl⟩)
    go_ret2
    exact ⟨rfl, rfl⟩
  | true =>
    have h' : s.size < kd.toNat := by simpa [hk] using h
    have hlt : (s.size : Int) < kd := by omega
    have HK := Lib.hid hk
    clear h hk h'
    go_enter Try.func25, Try.ntmps25
    go_wp2_with (go_at_call 37; refine (polyOf_yes _ _ HK.out).mono ?_; rintro e w' ⟨rfl, rfl⟩)
    go_ret2
    exact ⟨rfl, rfl⟩

theorem getB_long {kd : Int} {s : ByteArray} (hk : kindB kd = true) (hl : kd.toNat ≤ s.size) : getB kd s.data.toList = (cutL kd s.data.toList ++ leB (sumN kd (cutL kd s.data.toList)) kd.toNat == s.toList) := by
  have hl' : kd.toNat ≤ s.data.toList.length := by rw [← Lib.size_eq]; exact hl
  rw [Lib.toList_data]
  simp only [getB, hk, putL, decide_eq_true hl', Bool.true_and]
theorem cut_mk {T : ByteArray} {l : List UInt8} (h : T.data.toList = l) : T = ⟨l.toArray⟩ := by rw [← h, Lib.mk_data]

set_option maxRecDepth 100000 in
theorem implGet_hit (kd : Int) (s : ByteArray) (w : World) (hs : s.size ≤ 140737488355000) (hg : getB kd s.data.toList = true) :
    Calls Try.prog 25 #[.int .i64 kd, .string s] w fun e w' => e = .returned (.tuple #[.string ⟨(cutL kd s.data.toList).toArray⟩, .bool true]) ∧ Below w.heap.size w w' := by
  have hk : kindB kd = true := by simp [getB] at hg; exact hg.1.1
  have hl : kd.toNat ≤ s.size := by simp [getB] at hg; omega
  have hkk : 2 ≤ kd ∧ kd ≤ 4 := by rcases kind_or hk with rfl | rfl <;> omega
  obtain ⟨hk2, hk4⟩ := hkk
  have hge : ¬ (s.size : Int) < kd := by omega
  have hge' : decide ((s.size : Int) < kd) = false := by simp; omega
  have HK := Lib.hid hk
  rw [getB_long hk hl] at hg
  have HG := Lib.hid hg
  clear hk hg
  go_enter Try.func25, Try.ntmps25
  go_wp2_with (first | (go_at_call 37; refine (polyOf_yes _ _ HK.out).mono ?_; rintro e w' ⟨rfl, rfl⟩))
  have HT := Lib.hid (ext_cut kd s (by omega) (by omega))
  have hT : (s.extract 0 ((s.size : Int) - kd).toNat).size ≤ s.size := by simp; omega
  generalize s.extract 0 ((s.size : Int) - kd).toNat = T at *
  refine (implPut_yes _ _ _ HK.out (by omega)).mono ?_
  rintro e w1 ⟨rfl, hb1⟩
  have hg := HG.out
  rw [← HT.out] at hg
  have HB1 := Lib.hid hb1
  clear hb1
  go_wp2_with (go_at_call 46; refine (clone_any _ _ (by omega)).mono ?_; rintro e w2 ⟨rfl, hb2⟩)
  go_ret2
  exact ⟨by rw [← HT.out, Lib.mk_data]; rfl, HB1.out.trans (hb2.mono HB1.out.size)⟩

set_option maxRecDepth 100000 in
theorem implGet_miss (kd : Int) (s : ByteArray) (w : World) (hs : s.size ≤ 140737488355000) (hg : getB kd s.data.toList = false) :
    Calls Try.prog 25 #[.int .i64 kd, .string s] w fun e w' => e = .returned (.tuple #[.string ⟨#[]⟩, .bool false]) ∧ Below w.heap.size w w' := by
  cases hc : (kindB kd && decide (kd.toNat ≤ s.size)) with
  | false =>
    refine (implGet_short kd s w hc).mono ?_
    rintro e w' ⟨rfl, rfl⟩
    exact ⟨rfl, Below.refl _ _⟩
  | true =>
    obtain ⟨hk, hl⟩ : kindB kd = true ∧ kd.toNat ≤ s.size := by simpa using hc
    clear hc
    have hkk : 2 ≤ kd ∧ kd ≤ 4 := by rcases kind_or hk with rfl | rfl <;> omega
    obtain ⟨hk2, hk4⟩ := hkk
    have hge : ¬ (s.size : Int) < kd := by omega
    have hge' : decide ((s.size : Int) < kd) = false := by simp; omega
    have HK := Lib.hid hk
    rw [getB_long hk hl] at hg
    have HG := Lib.hid hg
    clear hk hg
    go_enter Try.func25, Try.ntmps25
    go_wp2_with (first | (go_at_call 37; refine (polyOf_yes _ _ HK.out).mono ?_; rintro e w' ⟨rfl, rfl⟩))
    have HT := Lib.hid (ext_cut kd s (by omega) (by omega))
    have hT : (s.extract 0 ((s.size : Int) - kd).toNat).size ≤ s.size := by simp; omega
    generalize s.extract 0 ((s.size : Int) - kd).toNat = T at *
    refine (implPut_yes _ _ _ HK.out (by omega)).mono ?_
    rintro e w1 ⟨rfl, hb1⟩
    have hg := HG.out
    rw [← HT.out] at hg
    have HB1 := Lib.hid hb1
    clear hb1
    go_wp2
    go_ret2
    exact ⟨rfl, HB1.out⟩
theorem specGet_short (kd : Int) (s : ByteArray) (w : World) (h : (kindB kd && decide (kd.toNat ≤ s.size)) = false) :
    Calls Try.prog 28 #[.int .i64 kd, .string s] w fun e w' => e = .returned (.tuple #[.string ⟨#[]⟩, .bool false]) ∧ w = w' := by
  cases hk : kindB kd with
  | false =>
    clear h
    go_enter Try.func28, Try.ntmps28
    go_wp2_with (go_at_call 35; refine (l1Kind_any _ _).mono ?_; rintro e w' ⟨rfl, rfl⟩)
    go_ret2
    exact ⟨rfl, rfl⟩
  | true =>
    have h' : s.size < kd.toNat := by simpa [hk] using h
    have hlt : (s.size : Int) < kd := by omega
    clear h h'
    go_enter Try.func28, Try.ntmps28
    go_wp2_with (go_at_call 35; refine (l1Kind_any _ _).mono ?_; rintro e w' ⟨rfl, rfl⟩)
    go_ret2
    exact ⟨rfl, rfl⟩
set_option maxRecDepth 100000 in
theorem specGet_hit (kd : Int) (s : ByteArray) (w : World) (hs : s.size ≤ 140737488355000) (hg : getB kd s.data.toList = true) :
    Calls Try.prog 28 #[.int .i64 kd, .string s] w fun e w' => e = .returned (.tuple #[.string ⟨(cutL kd s.data.toList).toArray⟩, .bool true]) ∧ Below w.heap.size w w' := by
  have hk : kindB kd = true := by simp [getB] at hg; exact hg.1.1
  have hl : kd.toNat ≤ s.size := by simp [getB] at hg; omega
  have hkk : 2 ≤ kd ∧ kd ≤ 4 := by rcases kind_or hk with rfl | rfl <;> omega
  obtain ⟨hk2, hk4⟩ := hkk
  have hge : ¬ (s.size : Int) < kd := by omega
  have hge' : decide ((s.size : Int) < kd) = false := by simp; omega
  have HK := Lib.hid hk
  rw [getB_long hk hl] at hg
  have HG := Lib.hid hg
  clear hg
  go_enter Try.func28, Try.ntmps28
  go_wp2_with (first | (go_at_call 35; refine (l1Kind_any _ _).mono ?_; rintro e w' ⟨rfl, rfl⟩))
  have HT := Lib.hid (ext_cut kd s (by omega) (by omega))
  have hT : (s.extract 0 ((s.size : Int) - kd).toNat).size ≤ s.size := by simp; omega
  generalize s.extract 0 ((s.size : Int) - kd).toNat = T at *
  refine (l1Put_any _ _ _ HK.out (by omega)).mono ?_
  rintro e w1 ⟨rfl, hb1⟩
  have hg := HG.out
  rw [← HT.out] at hg
  have HB1 := Lib.hid hb1
  clear hb1
  go_wp2
  go_ret2
  exact ⟨by rw [← HT.out, Lib.mk_data]; rfl, HB1.out⟩
set_option maxRecDepth 100000 in
theorem specGet_miss (kd : Int) (s : ByteArray) (w : World) (hs : s.size ≤ 140737488355000) (hg : getB kd s.data.toList = false) :
    Calls Try.prog 28 #[.int .i64 kd, .string s] w fun e w' => e = .returned (.tuple #[.string ⟨#[]⟩, .bool false]) ∧ Below w.heap.size w w' := by
  cases hc : (kindB kd && decide (kd.toNat ≤ s.size)) with
  | false =>
    refine (specGet_short kd s w hc).mono ?_
    rintro e w' ⟨rfl, rfl⟩
    exact ⟨rfl, Below.refl _ _⟩
  | true =>
    obtain ⟨hk, hl⟩ : kindB kd = true ∧ kd.toNat ≤ s.size := by simpa using hc
    clear hc
    have hkk : 2 ≤ kd ∧ kd ≤ 4 := by rcases kind_or hk with rfl | rfl <;> omega
    obtain ⟨hk2, hk4⟩ := hkk
    have hge : ¬ (s.size : Int) < kd := by omega
    have hge' : decide ((s.size : Int) < kd) = false := by simp; omega
    have HK := Lib.hid hk
    rw [getB_long hk hl] at hg
    have HG := Lib.hid hg
    clear hg
    go_enter Try.func28, Try.ntmps28
    go_wp2_with (first | (go_at_call 35; refine (l1Kind_any _ _).mono ?_; rintro e w' ⟨rfl, rfl⟩))
    have HT := Lib.hid (ext_cut kd s (by omega) (by omega))
    have hT : (s.extract 0 ((s.size : Int) - kd).toNat).size ≤ s.size := by simp; omega
    generalize s.extract 0 ((s.size : Int) - kd).toNat = T at *
    refine (l1Put_any _ _ _ HK.out (by omega)).mono ?_
    rintro e w1 ⟨rfl, hb1⟩
    have hg := HG.out
    rw [← HT.out] at hg
    have HB1 := Lib.hid hb1
    clear hb1
    go_wp2
    go_ret2
    exact ⟨rfl, HB1.out⟩
end Go.Proofs.Ythggbcpphoknfaa
