/- Two lists of pieces and turns that are drawn. -/
import Derived.Test.YtplaagkcamjemaaMxQ
import Derived.Test.YtplaagkcamjemaaMxV
namespace Go.Proofs.Ytplaagkcamjemaa
open Go.ChangeShapes Go.WideShapes Go.ChangeAt Go.RowKit
theorem oo_keptg {w w' : World} {base g : Nat} {v : Value} {bs : List Bool} (h : OO w base v bs) (hg : w.grownBy w' (some g)) (hb : g < base) : OO w' base v bs := by
  refine h.kept hg ?_
  cases hv : v.ownBlock with
  | none => exact .inl rfl
  | some k => right; intro e; have := (h.low k hv).1; injection e with e; omega
theorem os_oo_apart {w : World} {base base' : Nat} {v u : Value} {ss : List ByteArray} {l : List Bool} (h : OS w base v ss) (k : OO w base' u l) : v.ownBlock = none ∨ v.ownBlock ≠ u.ownBlock := by
  cases hv : v.ownBlock with
  | none => exact .inl rfl
  | some b =>
    right
    intro e
    rcases h.2 with ⟨rfl, _⟩ | ⟨g, cap, cur, rfl, _, hg, _⟩
    · simp [Value.ownBlock] at hv
    · rcases k.2 with ⟨rfl, _⟩ | ⟨g', cap', cur', rfl, _, hg', _⟩
      · simp [Value.ownBlock] at e
      · simp [Value.ownBlock] at hv e
        subst hv
        subst e
        rw [hg] at hg'
        injection hg' with hg'
        injection hg' with _ h2 _
        exact absurd h2 (by decide)
theorem below_own {W a b : World} {B : Nat} {row : Option Nat} (h : Below B W a) (hB : B ≤ a.heap.size) (k : a.grownBy b row) (hr : ∀ j, row = some j → B ≤ j) : Below B W b :=
  h.trans ⟨k.os, k.tape, k.output, k.size, fun i hi => k.block i (Nat.lt_of_lt_of_le hi hB) (fun e => by have := hr i e.symm; omega)⟩
def DrawWvPost (w : World) (e : Ending) (w' : World) : Prop := ∃ va vb vt la lb ts, e = .returned (.tuple #[va, vb, vt]) ∧ OS w' w.heap.size va (strs la) ∧ OS w' w.heap.size vb (strs lb) ∧ OO w' w.heap.size vt ts ∧ la.length ≤ 200 ∧ lb.length ≤ 200 ∧ ts.length ≤ 20 ∧ (∀ p ∈ la, pieceOk p) ∧ (∀ p ∈ lb, pieceOk p) ∧ Below w.heap.size w w'
set_option maxRecDepth 100000 in
set_option maxHeartbeats 800000 in
theorem drawMuxWeave_any {w : World} (a : Option Addr) (len cap : Nat) (zs : List Int) (h : IsRow .u8 w a len cap zs) :
    Calls Try.prog 25 #[.slice a len cap] w (DrawWvPost w) := by
  obtain ⟨i0, hi, hz0, hz1, hz2⟩ := info_parts info_bool
  have HI := Lib.hid hi
  have HZ0 := Lib.hid hz0
  have HZ1 := Lib.hid hz1
  have HZ2 := Lib.hid hz2
  have HH := Lib.hid h
  clear h hi hz0 hz1 hz2
  go_enter Try.func25, Try.ntmps25
  go_wp2_with fail
  refine (open_any a len cap zs HH.out).mono ?_
  rintro e w1 ⟨rfl, hr1, hb1, h4⟩
  have HR1 := Lib.hid hr1
  have HB1 := Lib.hid hb1
  have hg1 : w.heap.size < w1.heap.size := hr1.lt
  clear hr1 hb1 h4
  go_wp2_with fail
  refine (pieces_any HR1.out HB1.out.size (by omega)).mono ?_
  rintro e w2 ⟨va, la, rfl, ho2, hl2, hp2, hr2, hg2⟩
  have HR2 := Lib.hid hr2
  have HB2 := Lib.hid (HB1.out.trans (grown_below hg2 HB1.out.size (Nat.le_refl _)))
  have HA2 := Lib.hid ho2
  have HPA := Lib.hid hp2
  have hw2 : w1.heap.size ≤ w2.heap.size := hg2.size
  clear hr2 hg2 ho2 hp2
  go_wp2_with fail
  refine (pieces_any HR2.out HB2.out.size (by omega)).mono ?_
  rintro e w3 ⟨vb, lb, rfl, ho3, hl3, hp3, hr3, hg3⟩
  have HR3 := Lib.hid (hr3.alloc (.cells #[] 4))
  have HB3 := Lib.hid ((HB2.out.trans (grown_below hg3 HB2.out.size (Nat.le_refl _))).alloc (Nat.le_trans HB2.out.size hg3.size) (.cells #[] 4))
  have HA3 := Lib.hid ((os_keptg HA2.out hg3 hg1).alloc (.cells #[] 4))
  have HBb3 := Lib.hid ((ho3.mono (base' := w1.heap.size) hw2).alloc (.cells #[] 4))
  have HPB := Lib.hid hp3
  have hw3 : w1.heap.size ≤ w3.heap.size := Nat.le_trans hw2 hg3.size
  have HT3 := Lib.hid (show OO (w3.alloc (.cells #[] 4)) w1.heap.size (.slice (some ⟨w3.heap.size, 0, none⟩) 0 0) [] from ⟨rfl, .inr ⟨w3.heap.size, 0, #[], rfl, hw3, heap_alloc_new w3 _, Nat.le_refl _, by simp [maxLen], rfl, rfl⟩⟩)
  clear hr3 hg3 ho3 hp3
  go_wp2_with fail
  refine (pick_any _ HR3.out (by omega)).mono ?_
  rintro e w4 ⟨⟨x, rfl, hx, _⟩, hr4, hg4⟩
  obtain ⟨hx0, hx1⟩ := hx (by omega)
  obtain ⟨n0, rfl⟩ := Int.eq_ofNat_of_zero_le hx0
  have hn0 : n0 ≤ 19 := by omega
  have HR4 := Lib.hid hr4
  have HB4 := Lib.hid (HB3.out.trans (grown_below hg4 HB3.out.size (Nat.le_refl _)))
  have HA4 := Lib.hid (os_keptg HA3.out hg4 hg1)
  have HBb4 := Lib.hid (os_keptg HBb3.out hg4 hg1)
  have HT4 := Lib.hid (oo_keptg HT3.out hg4 hg1)
  have HW4 := Lib.hid (show w1.heap.size ≤ w4.heap.size from Nat.le_trans hw3 (Nat.le_trans (by simp) hg4.size))
  clear hr4 hg4 hx hx0 hx1
  go_wp2_with fail
  go_loopw [8, 9] (fun t n wr => ∃ (k : Nat) (ts : List Bool), k ≤ n0 ∧ n = .int .i64 k ∧ ts.length = n0 - k ∧ OO wr w1.heap.size t ts ∧ OS wr w1.heap.size va (strs la) ∧ OS wr w1.heap.size vb (strs lb) ∧ Rd wr w.heap.size w.heap.size (700 + (n0 - k)) ∧ Below w.heap.size w wr ∧ w1.heap.size ≤ wr.heap.size) (fun _ n _ => (intOf n).toNat)
  case atStart => exact ⟨n0, [], Nat.le_refl _, rfl, by simp, HT4.out, HA4.out, HBb4.out, HR4.out.mono (by omega), HB4.out, HW4.out⟩
  case round =>
    obtain ⟨k, ts, hk, rfl, hts, ht, ha, hb, hrd, hbe, hwr⟩ := hrel
    have HT := Lib.hid ht
    have HA := Lib.hid ha
    have HBb := Lib.hid hb
    have HR := Lib.hid hrd
    have HB := Lib.hid hbe
    have HTL := Lib.hid hts
    clear ht ha hb hrd hbe hts
    by_cases hk0 : 0 < k
    · have hk0i : (0 : Int) < (k : Int) := by omega
      go_wp2_with fail
      refine (pick_any _ HR.out (by omega)).mono ?_
      rintro e w5 ⟨⟨y, rfl, _, _⟩, hr5, hg5⟩
      have HR5 := Lib.hid hr5
      have HB5 := Lib.hid (HB.out.trans (grown_below hg5 HB.out.size (Nat.le_refl _)))
      have HA5 := Lib.hid (os_keptg HA.out hg5 hg1)
      have HBb5 := Lib.hid (os_keptg HBb.out hg5 hg1)
      have HT5 := Lib.hid (oo_keptg HT.out hg5 hg1)
      have hw5 : w1.heap.size ≤ w5.heap.size := Nat.le_trans hwr hg5.size
      clear hr5 hg5
      go_wp2_with (at_builtin; refine wpList_append_own _ rfl _ _ 45 rfl w1.heap.size 4 i0 (.bool false) 1 1 Try.underlying45 HI.out HZ0.out HZ1.out HZ2.out rfl (by decide) _ ts.length (ts.map boolV) rfl (World.ownsRow.alloc HT5.out _) ⟨_, 0, none⟩ 1 1 [.bool (y == 0)] rfl rfl (one_cell _ _ _) (by simp [Value.oneCell']) (by have := HTL.out; unfold maxLen; omega) (by have := HTL.out; omega) (by simp; omega) ?_; intro v7 w7 ho7 hg7 _)
      have HO7 := Lib.hid (show OO w7 w1.heap.size v7 (ts ++ [(y == 0)]) by unfold OO; rw [List.map_append, List.length_append]; exact ho7)
      have HG7 := Lib.hid hg7
      clear ho7 hg7
      go_wp2_with fail
      go_roundw
      case rel =>
        have hlo := HT5.out.low
        refine ⟨k - 1, ts ++ [(y == 0)], by omega, val_int (by omega), by rw [List.length_append]; have := HTL.out; simp; omega, HO7.out, (HA5.out.alloc _).kept HG7.out (os_oo_apart HA5.out HT5.out), (HBb5.out.alloc _).kept HG7.out (os_oo_apart HBb5.out HT5.out), ?_, below_own (HB5.out.alloc (by omega) _) (by simp; omega) HG7.out (fun j hj => by have := (hlo j hj).1; omega), Nat.le_trans hw5 (Nat.le_trans (by simp) HG7.out.size)⟩
        have h1 := (HR5.out.alloc _).grow HG7.out (fun e => by have := (hlo _ e).1; omega) (fun j hj => by have := (hlo j hj).1; omega)
        exact h1.mono (by omega)
      case measure => simp [intOf]; omega
    · obtain rfl : k = 0 := by omega
      go_wp2
      go_ret3
      exact ⟨va, vb, _, la, lb, ts, rfl, HA.out.mono (by omega), HBb.out.mono (by omega), HT.out.mono (by omega), by omega, by omega, by have := HTL.out; omega, HPA.out, HPB.out, HB.out⟩
end Go.Proofs.Ytplaagkcamjemaa
