/- A slice of events that came in (the laws' own type): read, its size told, copied. -/
import Derived.Test.YtiffeddeobhndaaTEvK
import Derived.Deep.SlicePairs
namespace Go.Proofs.Ytiffeddeobhndaa
open Go.ChangeShapes Go.WideShapes Go.ChangeAt Go.RowKit
def evOkM (e : Ev) : Prop := (Lit.int .i64 e.kind).wf = true ∧ e.text.length ≤ maxLen
/-- a slice of events that came in -/
def IsEvs (w : World) (a : Option Addr) (len _cap : Nat) (l : List Ev) : Prop :=
  (len = 0 ∧ l = []) ∨
  ∃ b off, a = some ⟨b, off, none⟩ ∧ len ≤ maxLen ∧ l.length = len ∧ b < w.heap.size ∧ ∀ i (h : i < l.length), w.cell? ⟨b, off + i * 2, none⟩ = some (.int .i64 l[i].kind) ∧ w.cell? ⟨b, off + i * 2 + 1, none⟩ = some (.string ⟨l[i].text.toArray⟩) ∧ evOkM l[i]
/-- what two cells say -/
def evV (u v : Value) : Ev := ⟨intOf u, match v with | .string s => s.data.toList | _ => []⟩
theorem isEvs_open {H : Type} {enc : TypeId × Value → H} {W : World} {sp : Nat → Bool} {fuel : Nat} {a : Option Addr} {len cap : Nat} {x : DataW H × List MemPlace}
    (h : DataW.trod enc Try.prog W 0 sp true fuel 68 [.slice a len cap] = some x) : ∃ l, IsEvs W a len cap l := by
  rcases Go.Deep.open_slice_pairs Try.underlying68 Try.underlying97 (by kernel_rfl) rfl rfl (by kernel_rfl) (by kernel_rfl) h with ⟨hcs, _⟩ | ⟨ad, len', cap', m, n, V0, V1, D0, D1, P0, P1, hcs, _, hl, hm, hmm, _, hx⟩
  · simp only [List.cons.injEq, Value.slice.injEq, and_true] at hcs
    obtain ⟨rfl, rfl, rfl⟩ := hcs
    exact ⟨[], .inl ⟨rfl, rfl⟩⟩
  · simp only [List.cons.injEq, Value.slice.injEq, and_true] at hcs
    obtain ⟨rfl, rfl, rfl⟩ := hcs
    have hlm : len ≤ m := by rw [hmm]; split <;> omega
    by_cases h0 : len = 0
    · exact ⟨[], .inl ⟨h0, rfl⟩⟩
    · obtain ⟨b, off, spot⟩ := ad
      have hc0 := (hx 0 (by omega)).1
      have hspot : spot = none := by simpa [Addr.add] using World.cell?_spot hc0
      subst hspot
      have hlt : b < W.heap.size := block_lt_of_cell (a := ⟨b, off, none⟩) (by simpa [Addr.add] using hc0)
      have hadd : ∀ i, (⟨b, off, none⟩ : Addr).add i = ⟨b, off + i, none⟩ := by intro i; unfold Addr.add; split <;> simp_all
      refine ⟨(List.range len).map fun i => evV (V0 i) (V1 i), .inr ⟨b, off, rfl, by omega, by simp, hlt, fun i hi => ?_⟩⟩
      have hi2 : i < len := by simpa using hi
      obtain ⟨k0, k1, k2, k3⟩ := hx i (by omega)
      obtain ⟨z, e0, _, wz⟩ := DataW.trod_int Try.underlying3 k2
      obtain ⟨s, e1, _, ws⟩ := DataW.trod_string Try.underlying9 k3
      simp only [List.cons.injEq, and_true] at e0 e1
      have ev : ((List.range len).map fun i => evV (V0 i) (V1 i))[i] = ⟨z, s.data.toList⟩ := by
        simp [evV, e0, e1, intOf]
      rw [hadd] at k0 k1
      rw [ev]
      exact ⟨by rw [k0, e0], by rw [show off + i * 2 + 1 = off + (i * 2 + 1) by omega, k1, e1], wz, by rw [show s.data.toList.length = s.size by simp]; exact ws⟩
/-- read: below B -/
def RX (w : World) (B : Nat) (a : Option Addr) (l : List Ev) : Prop := 0 < l.length → ∃ b off, a = some ⟨b, off, none⟩ ∧ b < B ∧ ∀ i (h : i < l.length), w.cell? ⟨b, off + i * 2, none⟩ = some (.int .i64 l[i].kind) ∧ w.cell? ⟨b, off + i * 2 + 1, none⟩ = some (.string ⟨l[i].text.toArray⟩)
theorem RX.of {w : World} {a : Option Addr} {len cap : Nat} {l : List Ev} (h : IsEvs w a len cap l) : RX w w.heap.size a l ∧ l.length = len ∧ len ≤ maxLen ∧ ∀ e ∈ l, evOkM e := by
  rcases h with ⟨rfl, rfl⟩ | ⟨b, off, rfl, h1, h2, h3, h4⟩
  · exact ⟨fun h => by simp at h, rfl, Nat.zero_le _, fun e he => by simp at he⟩
  · refine ⟨fun _ => ⟨b, off, rfl, h3, fun i hi => ⟨(h4 i hi).1, (h4 i hi).2.1⟩⟩, h2, h1, fun e he => ?_⟩
    obtain ⟨i, hi, rfl⟩ := List.getElem_of_mem he
    exact (h4 i hi).2.2
theorem RX.below {w w' : World} {B : Nat} {a : Option Addr} {l : List Ev} (h : RX w B a l) (hb : Below B w w') : RX w' B a l := by
  intro h0
  obtain ⟨b, off, rfl, h1, h2⟩ := h h0
  exact ⟨b, off, rfl, h1, fun i hi => ⟨(hb.cell (show (⟨b, off + i * 2, none⟩ : Addr).block < B from h1)).trans (h2 i hi).1, (hb.cell (show (⟨b, off + i * 2 + 1, none⟩ : Addr).block < B from h1)).trans (h2 i hi).2⟩⟩
theorem szEvent_any (k : Int) (t : ByteArray) (y : Nat) (w : World) (hy : y ≤ 1048576) (ht : t.size ≤ maxLen) :
    Calls Try.prog 73 #[.agg #[.int .i64 k, .string t], .int .i64 y] w fun e w' => e = .returned (.int .i64 (if y < t.size then -1 else (y : Int) - t.size)) ∧ Below w.heap.size w w' := by
  unfold maxLen at ht
  by_cases h : y < t.size
  · rw [if_pos h]
    go_enter Try.func73, Try.ntmps73
    go_wp2
    go_ret
    exact ⟨rfl, (Below.refl _ _).alloc (Nat.le_refl _) _⟩
  · rw [if_neg h]
    go_enter Try.func73, Try.ntmps73
    go_wp2
    go_ret
    exact ⟨rfl, (Below.refl _ _).alloc (Nat.le_refl _) _⟩
def SzEvPost (w : World) (l : List Ev) (e : Ending) (w' : World) : Prop := ∃ x : Int, e = .returned (.int .i64 x) ∧ Below w.heap.size w w' ∧ (x = -1 ∨ (0 ≤ x ∧ l.length ≤ 1048576 ∧ ∀ e ∈ l, e.text.length ≤ 1048576))
set_option maxRecDepth 100000 in
set_option maxHeartbeats 1000000 in
theorem szEvs_any (a : Option Addr) (cap : Nat) (l : List Ev) (w : World) (h : RX w w.heap.size a l) (hl : l.length ≤ maxLen) (hz : ∀ e ∈ l, evOkM e) :
    Calls Try.prog 53 #[.slice a l.length cap, .int .i64 1048576] w (SzEvPost w l) := by
  unfold maxLen at hl
  have H := Lib.hid h
  have HZ := Lib.hid hz
  clear h hz
  by_cases hbig : 1048576 < l.length
  · go_enter Try.func53, Try.ntmps53
    go_wp2
    go_ret
    exact ⟨_, rfl, Below.refl _ _, .inl rfl⟩
  have hsm : l.length ≤ 1048576 := by omega
  clear hbig
  go_enter Try.func53, Try.ntmps53
  go_wp2
  go_loopw [1, 5] (fun q j wr => ∃ (k y : Nat), k ≤ l.length ∧ j = .int .i64 k ∧ q = .int .i64 y ∧ y ≤ 1048576 ∧ (∀ e ∈ l.take k, e.text.length ≤ 1048576) ∧ Below w.heap.size w wr) (fun _ j _ => l.length - (intOf j).toNat)
  case atStart => exact ⟨0, 1048576 - l.length, Nat.zero_le _, rfl, val_int (by omega), by omega, fun e he => by simp at he, Below.refl _ _⟩
  case round =>
    obtain ⟨k, y, hk, rfl, rfl, hy, hsm, hb⟩ := hrel
    have HSM := Lib.hid hsm
    clear hsm
    by_cases hlt : k < l.length
    · obtain ⟨b, off, rfl, hbl, hcs⟩ := (H.out.below hb) (by omega)
      obtain ⟨c0, c1⟩ := hcs k hlt
      have HB := Lib.hid hb
      have hsz := (HZ.out l[k] (List.getElem_mem _)).2
      obtain ⟨t, ht⟩ : ∃ t : ByteArray, t = ⟨l[k].text.toArray⟩ := ⟨_, rfl⟩
      have hts : t.size ≤ maxLen := by rw [ht]; exact hsz
      have HTS := Lib.hid (show t.size = l[k].text.length by rw [ht]; rfl)
      have HTK := Lib.hid (List.take_succ_eq_append_getElem hlt)
      have HLK := Lib.hid (show l[k] = l[k] from rfl)
      rw [← ht] at c1
      generalize l[k].kind = kk at *
      clear hcs hb ht hsz
      go_wp2_with fail
      refine (szEvent_any kk t y _ hy hts).mono ?_
      rintro e w2 ⟨rfl, hb2⟩
      have HB2 := Lib.hid (HB.out.trans (hb2.mono HB.out.size))
      clear hb2 c0 c1
      unfold maxLen at hts
      by_cases hn : y < t.size
      · rw [if_pos hn]
        go_wp2
        go_ret
        exact ⟨_, rfl, HB2.out, .inl rfl⟩
      · rw [if_neg hn]
        go_wp2
        go_roundw
        case rel =>
          refine ⟨k + 1, y - t.size, by omega, by go_num, val_int (by omega), by omega, ?_, HB2.out⟩
          intro e he
          rw [HTK.out, List.mem_append] at he
          rcases he with he | he
          · exact HSM.out e he
          · rw [List.mem_singleton] at he
            rw [he, ← HTS.out]; omega
        case measure => simp [intOf]; omega
    · have HB := Lib.hid hb
      clear hb
      go_wp2
      go_ret
      exact ⟨_, rfl, HB.out, .inr ⟨by omega, hsm, fun e he => HSM.out e (by rw [List.take_of_length_le (by omega)]; exact he)⟩⟩
theorem toEvent_any (k : Int) (t : ByteArray) (w : World) :
    Calls Try.prog 74 #[.agg #[.int .i64 k, .string t]] w fun e w' => e = .returned (.agg #[.int .i64 k, .string t]) ∧ Below w.heap.size w w' := by
  have hz := zero_event
  go_enter Try.func74, Try.ntmps74
  go_wp2
  exact bodyPost_ret (v := .agg #[.int .i64 k, .string t]) (by simp [results, Try.results74, go_sem]) rfl ⟨rfl, by first | exact (below2 _ _ _).alloc (by simp; omega) _ | exact below2 _ _ _⟩
def noEv : Ev := ⟨0, []⟩
theorem made_evs (n : Nat) : (madeCells #[.int .i64 0, .string ⟨#[]⟩] (n * 2)).toList = evCs (List.replicate n noEv) := by
  apply List.ext_getElem?
  intro j
  have hs : (madeCells #[.int .i64 0, .string ⟨#[]⟩] (n * 2)).size = n * 2 := size_madeCells _ _
  by_cases hj : j < n * 2
  · have e1 : (madeCells #[.int .i64 0, .string ⟨#[]⟩] (n * 2)).toList[j]? = some (#[Value.int .i64 0, .string ⟨#[]⟩][j % 2]!) := by
      rw [Array.getElem?_toList, Array.getElem?_eq_getElem (by rw [hs]; exact hj)]
      simp [madeCells]
    obtain ⟨a0, a1⟩ := evCs_at (List.replicate n noEv) (j / 2) (by simp; omega)
    rw [e1]
    rcases Nat.mod_two_eq_zero_or_one j with h | h
    · rw [show 2 * (j / 2) = j by omega] at a0
      rw [a0, h]; simp [noEv]
    · rw [show 2 * (j / 2) + 1 = j by omega] at a1
      rw [a1, h]; simp [noEv]
  · rw [List.getElem?_eq_none (by rw [Array.length_toList, hs]; omega), List.getElem?_eq_none (by rw [evCs_len]; simp; omega)]
def partE (l : List Ev) (k : Nat) : List Ev := l.take k ++ List.replicate (l.length - k) noEv
theorem partE_len (l : List Ev) (k : Nat) (h : k ≤ l.length) : (partE l k).length = l.length := by simp [partE]; omega
theorem partE_set (l : List Ev) (k : Nat) (h : k < l.length) : (partE l k).set k l[k] = partE l (k + 1) := by
  unfold partE
  rw [List.set_append_right _ _ (by rw [List.length_take]; omega), List.length_take, Nat.min_eq_left (by omega), Nat.sub_self, show l.length - k = (l.length - (k + 1)) + 1 by omega, List.replicate_succ, List.set_cons_zero,
    List.take_succ_eq_append_getElem h, List.append_assoc, List.singleton_append]
def ToEvPost (w : World) (l : List Ev) (e : Ending) (w' : World) : Prop := (∃ v, e = .returned v ∧ OE w' w.heap.size v l) ∧ Below w.heap.size w w'
set_option maxRecDepth 100000 in
set_option maxHeartbeats 2000000 in
theorem toEvs_any (a : Option Addr) (cap : Nat) (l : List Ev) (w : World) (B : Nat) (h : RX w B a l) (hB : B ≤ w.heap.size) (hl : l.length ≤ 1048576) :
    Calls Try.prog 54 #[.slice a l.length cap] w (ToEvPost w l) := by
  obtain ⟨i0, hi, hz0, hz1, hz2⟩ := info_parts info_ev
  have hmk : ∀ u : World, (Instr.makeSlice 29 (.int .i64 (l.length : Int)) (.int .i64 (l.length : Int))).run Try.prog u = .ok (.slice (some ⟨u.heap.size, 0, none⟩) l.length l.length) (u.alloc (.cells (madeCells #[.int .i64 0, .string ⟨#[]⟩] (l.length * 2)) 32)) := fun u => by
    have h := run_make (P := Try.prog) u 29 32 i0 (.agg #[.int .i64 0, .string ⟨#[]⟩]) Try.underlying29 hi hz0 .i64 .i64 (l.length : Int) (l.length : Int) (by omega) (Int.le_refl _) (by rw [hz2]; omega) (by omega)
    have e : ((l.length : Int)).toNat = l.length := by omega
    rw [e] at h
    simpa [hz1, Value.cells] using h
  have H := Lib.hid h
  clear h hi hz0 hz1 hz2
  go_enter Try.func54, Try.ntmps54
  go_wp2
  clear hmk
  go_loopw [4] (fun j wr => ∃ k : Nat, k ≤ l.length ∧ j = .int .i64 k ∧ OE wr w.heap.size (.slice (some ⟨w.heap.size, 0, none⟩) l.length l.length) (partE l k) ∧ Below w.heap.size w wr) (fun j _ => l.length - (intOf j).toNat)
  case atStart =>
    refine ⟨0, Nat.zero_le _, rfl, ?_, (Below.refl _ _).alloc (Nat.le_refl _) _⟩
    have e0 : partE l 0 = List.replicate l.length noEv := by simp [partE]
    unfold OE
    rw [e0, List.length_replicate]
    exact ⟨by rw [evCs_len]; simp, .inr ⟨w.heap.size, l.length, _, rfl, Nat.le_refl _, heap_alloc_new w _, Nat.le_refl _, by unfold maxLen; omega, by rw [size_madeCells], by rw [made_evs, List.take_of_length_le (by rw [evCs_len]; simp)]⟩⟩
  case round =>
    obtain ⟨k, hk, rfl, hown, hb⟩ := hrel
    by_cases hlt : k < l.length
    · obtain ⟨b, off, rfl, hbl, hcs⟩ := (H.out.below (hb.mono hB)) (by omega)
      obtain ⟨c0, c1⟩ := hcs k hlt
      have HB := Lib.hid hb
      have HO := Lib.hid hown
      have HPL := Lib.hid (partE_len l k hk)
      have HPS := Lib.hid (partE_set l k hlt)
      have HLK := Lib.hid (show l[k] = l[k] from rfl)
      obtain ⟨E, hE⟩ : ∃ E, E = l[k] := ⟨_, rfl⟩
      rw [← hE] at c0 c1 HPS
      obtain ⟨kk, tt⟩ := E
      simp only at c0 c1
      clear hcs hb hown HLK hE
      go_wp2_with fail
      refine (toEvent_any kk ⟨tt.toArray⟩ _).mono ?_
      rintro e w2 ⟨rfl, hb2⟩
      have HB2 := Lib.hid (HB.out.trans (hb2.mono HB.out.size))
      have hO2 := HO.out.below hb2
      have f0 := own_free hO2 (k * 2)
      have f1 := own_free hO2 (k * 2 + 1)
      obtain ⟨a0, a1⟩ := evCs_at (partE l k) k (by rw [HPL.out]; exact hlt)
      rw [Nat.mul_comm] at a0 a1
      have d0 := own_cell hO2 a0
      have d1 := own_cell hO2 a1
      have hO3 : OE ((w2.setCell ⟨w.heap.size, k * 2, none⟩ (.int .i64 kk)).setCell ⟨w.heap.size, k * 2 + 1, none⟩ (.string ⟨tt.toArray⟩)) w.heap.size (.slice (some ⟨w.heap.size, 0, none⟩) l.length l.length) (partE l (k + 1)) := by
        have h1 := own_stored (own_stored hO2 (k * 2) (.int .i64 kk)) (k * 2 + 1) (.string ⟨tt.toArray⟩)
        have e := evCs_set (partE l k) k ⟨kk, tt⟩ (by rw [HPL.out]; exact hlt)
        unfold OE
        rw [← HPS.out, List.length_set, ← e]
        exact h1
      have HO3 := Lib.hid hO3
      clear hO3 hO2 hb2 a0 a1 c0 c1
      generalize (partE l k)[k]'(by rw [HPL.out]; exact hlt) = old at *
      go_wp2
      go_roundw
      case rel => exact ⟨k + 1, by omega, by go_num, HO3.out, (HB2.out.setCell (by simp) _).setCell (by simp) _⟩
      case measure => simp [intOf]; omega
    · obtain rfl : k = l.length := by omega
      have HB := Lib.hid hb
      have HO := Lib.hid hown
      clear hown hb
      go_wp2
      go_ret
      refine ⟨⟨_, rfl, ?_⟩, HB.out⟩
      have := HO.out
      rw [partE, List.take_length, Nat.sub_self, List.replicate_zero, List.append_nil] at this
      exact this
end Go.Proofs.Ytiffeddeobhndaa
