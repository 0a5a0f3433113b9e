/- Draws of a kind, a byte, bytes; the reader opened. -/
import Derived.Test.YtabdejafmhnaaaaDrawB
namespace Go.Proofs.Ytabdejafmhnaaaa
open Go.ChangeShapes Go.WideShapes Go.ChangeAt Go.RowKit

theorem list_row (w : World) (cs : Array Value) (t : TypeId) (xs : List Int) (h : cs = (xs.map intV).toArray) : (w.alloc (.cells cs t)).heap[w.heap.size]? = some (.cells (xs.map intV).toArray t (0, 0)) := by
  subst h; exact heap_alloc_new w _

set_option maxRecDepth 100000 in
theorem byte_any {w : World} {B g N : Nat} (h : Rd w B g N) (hN : N + 3 ≤ 1000000000) :
    Calls Try.prog 65 #[.pointer (some ⟨g, 0, none⟩)] w fun e w' => ∃ b : UInt8, e = .returned (byteV b) ∧ Rd w' B g (N + 3) ∧ w.grownBy w' (some g) := by
  have HR := Lib.hid h
  have hgl := h.lt
  clear h
  go_enter Try.func65, Try.ntmps65
  go_wp2_with fail
  refine (pick_any _ HR.out (by omega)).mono ?_
  rintro e w1 ⟨⟨x, rfl, hx, _⟩, hr1, hg1⟩
  have HR1 := Lib.hid hr1
  have HG1 := Lib.hid hg1
  clear hr1 hg1 hx
  go_wp2_with fail
  refine (pick_any _ HR1.out (by omega)).mono ?_
  rintro e w2 ⟨⟨y, rfl, hy, _⟩, hr2, hg2⟩
  have HR2 := Lib.hid hr2
  have HG2 := Lib.hid (grown_trans HG1.out hg2)
  have hsz : w.heap.size ≤ w2.heap.size := HG2.out.size
  clear hr2 hg2 hy
  go_wp2_with fail
  refine (one_any [0, 1, 126, 125, 255, 192, 219, 17, 19, 48, 97, 94, 93, 2, x, y] 3 (HR2.out.alloc _) (by omega) (by simp) (by simp) (by omega) (list_row w2 _ _ _ rfl)).mono ?_
  rintro e w3 ⟨z, hz, rfl, hr3, hg3⟩
  have HR3 := Lib.hid hr3
  have HG3 := Lib.hid (grown_trans (grown_alloc HG2.out _) hg3)
  clear hr3 hg3 hz
  go_wp2
  go_ret
  refine ⟨UInt8.ofNat (z % 256).toNat, ?_, HR3.out, HG3.out⟩
  unfold byteV
  rw [UInt8.toNat_ofNat']
  exact ret_int (by omega)

theorem OB_empty (e : TypeId) (w : World) (base : Nat) (h : base ≤ w.heap.size) : OB e (w.alloc (.cells #[] e)) base (.slice (some ⟨w.heap.size, 0, none⟩) 0 0) [] :=
  .inr ⟨w.heap.size, 0, #[], (0, 0), rfl, h, heap_alloc_new w _, .inl rfl, Nat.le_refl _, by simp [maxLen], rfl, rfl⟩

set_option maxRecDepth 100000 in
set_option maxHeartbeats 1000000 in
theorem bytes_any {w : World} {B g N : Nat} (most : Nat) (h : Rd w B g N) (hm : most ≤ 1000000) (hN : N + 3 * most + 1 ≤ 1000000000) :
    Calls Try.prog 58 #[.pointer (some ⟨g, 0, none⟩), .int .i64 most] w fun e w' => ∃ s : ByteArray, e = .returned (.string s) ∧ s.size ≤ most ∧ Rd w' B g (N + 3 * most + 1) ∧ w.grownBy w' (some g) := by
  obtain ⟨i0, hi, hz0, hz1, hz2⟩ := info_parts info_u8
  have HI := Lib.hid hi
  have HZ0 := Lib.hid hz0
  have HZ1 := Lib.hid hz1
  have HZ2 := Lib.hid hz2
  have HR := Lib.hid h
  have hgl := h.lt
  clear h hi hz0 hz1 hz2
  go_enter Try.func58, Try.ntmps58
  go_wp2_with fail
  refine (pick_any _ (HR.out.alloc _) (by omega)).mono ?_
  rintro e w1 ⟨⟨x, rfl, hx, _⟩, hr1, hg1⟩
  obtain ⟨h0, h1⟩ := hx (by omega)
  obtain ⟨n0, rfl⟩ := Int.eq_ofNat_of_zero_le h0
  have hn0 : n0 ≤ most := by omega
  have HR1 := Lib.hid hr1
  have HG1 := Lib.hid (grown_trans (World.grownBy_alloc w _ _) hg1)
  have HO1 := Lib.hid ((OB_empty 5 w w.heap.size (Nat.le_refl _)).keptg hg1 hgl)
  clear hr1 hg1 hx h0 h1
  go_wp2_with fail
  go_loopw [5, 6] (fun v n wr => ∃ (k : Nat) (l : List UInt8), k ≤ n0 ∧ n = .int .i64 k ∧ l.length + k = n0 ∧ OB 5 wr w.heap.size v l ∧ Rd wr B g (N + 1 + 3 * l.length) ∧ w.grownBy wr (some g)) (fun _ n _ => (intOf n).toNat)
  case atStart => exact ⟨n0, [], Nat.le_refl _, rfl, by simp, HO1.out, by simpa using HR1.out, HG1.out⟩
  case round =>
    obtain ⟨k, l, hk, rfl, hlk, hown, hrd, hgr⟩ := hrel
    have HO := Lib.hid hown
    have HRd := Lib.hid hrd
    have HGr := Lib.hid hgr
    have HLK := Lib.hid hlk
    have hll : l.length + k ≤ n0 := by omega
    clear hown hrd hgr hlk
    by_cases hpos : 0 < k
    · go_wp2_with fail
      refine (byte_any HRd.out (by omega)).mono ?_
      rintro e w2 ⟨b, rfl, hr2, hg2⟩
      have HR2 := Lib.hid hr2
      have HG2 := Lib.hid (grown_trans HGr.out hg2)
      have HO2 := Lib.hid (HO.out.keptg hg2 hgl)
      have hsz : w.heap.size ≤ w2.heap.size := HG2.out.size
      clear hr2 hg2
      have hb := UInt8.toNat_lt b
      unfold byteV
      go_wp2_with (at_builtin; refine wpList_append_OB _ rfl _ _ 22 rfl w.heap.size 5 i0 Try.underlying22 HI.out HZ0.out HZ1.out HZ2.out _ l rfl (HO2.out.alloc _) ⟨w2.heap.size, 0, none⟩ 1 1 [b] rfl rfl (one_new w2 _ _ _ rfl) (by simp; omega) (by simp; omega) ?_; intro v3 w3 hown3 hg3)
      go_roundw
      case rel =>
        have hlt3 := HO2.out.lt
        refine ⟨k - 1, l ++ [b], by omega, val_int (by omega), by simp; have := HLK.out; omega, hown3, ?_, ?_⟩
        · rw [show N + 1 + 3 * (l ++ [b]).length = N + 1 + 3 * l.length + 3 by simp; omega]
          refine (HR2.out.alloc _).grow hg3 (fun e => ?_) (fun j e => ?_)
          · have := (hlt3 g e).1; omega
          · have := (hlt3 j e).1
            have hB : B ≤ g := by obtain ⟨_, _, _, _, _, _, _, _, _, h5, _⟩ := HR2.out; exact h5
            omega
        · exact grown_own (grown_alloc HG2.out _) hg3 (fun j e => (hlt3 j e).1)
      case measure => simp [intOf]; omega
    · go_wp2_with (refine wpList_string_of_OB _ rfl 22 9 5 _ rfl w.heap.size _ _ rfl Try.underlying22 Try.underlying5 Try.underlying9 HO.out ?_)
      go_ret
      refine ⟨⟨l.toArray⟩, rfl, ?_, HRd.out.mono (by omega), HGr.out⟩
      show l.toArray.size ≤ most
      simp; omega

/-- a slice that came in is as it was where nothing old has turned -/
theorem IsRow.keep {w w' : World} {a : Option Addr} {len cap : Nat} {zs : List Int} (h : IsRow .u8 w a len cap zs) (hb : Below w.heap.size w w') : IsRow .u8 w' a len cap zs := by
  rcases h with h | ⟨x, rfl, hlc, hmax, hzl, hcell, hwz⟩
  · exact .inl h
  · refine .inr ⟨x, rfl, hlc, hmax, hzl, fun i hi => ?_, hwz⟩
    have hc := hcell i hi
    have hlt : (x.add i).block < w.heap.size := block_lt_of_cell hc
    rw [hb.cell hlt]; exact hc
theorem Rd.opened {w : World} {a : Option Addr} {len cap : Nat} {zs : List Int} (h : IsRow .u8 w a len cap zs) (L : Nat) (hL : L ≤ len) (hL2 : L ≤ 2000) :
    Rd (w.alloc (.cells #[.slice a L cap, .int .i64 0] 50)) w.heap.size w.heap.size 0 := by
  rcases h with ⟨rfl, rfl, rfl, rfl⟩ | ⟨x, rfl, hlc, hmax, hzl, hcell, hwz⟩
  · obtain rfl : L = 0 := by omega
    exact ⟨none, 0, 0, [], 0, Nat.le_refl _, by omega, Nat.le_refl _, rfl, Nat.le_refl _, heap_alloc_new w _, fun h => by omega, fun i => by simp⟩
  · have hb : ∀ i, ((zs.take L).map Int.toNat).getD i 0 < 256 := by
      intro i
      rw [List.getD_eq_getElem?_getD, List.getElem?_map]
      cases hi : (zs.take L)[i]? with
      | none => simp
      | some z =>
        have hmem : z ∈ zs := List.mem_of_mem_take (List.mem_of_getElem? hi)
        have := hwz z hmem
        simp [Lit.wf, IntKind.min, IntKind.max, IntKind.signed, IntKind.bits] at this
        simp; omega
    refine ⟨some x, L, cap, (zs.take L).map Int.toNat, 0, Nat.le_refl _, hL2, by omega, by simp; omega, Nat.le_refl _, heap_alloc_new w _, fun h0 => ?_, hb⟩
    obtain ⟨b, off, spot⟩ := x
    have hc0 := hcell 0 (by omega)
    have hspot : spot = none := by simpa [Addr.add] using World.cell?_spot hc0
    subst hspot
    have hlt : b < w.heap.size := block_lt_of_cell (a := ⟨b, off, none⟩) (by simpa [Addr.add] using hc0)
    refine ⟨b, off, rfl, hlt, fun i hi => ?_⟩
    have hc := hcell i (by omega)
    have hadd : (⟨b, off, none⟩ : Addr).add i = ⟨b, off + i, none⟩ := by unfold Addr.add; split <;> simp_all
    rw [hadd] at hc
    rw [World.cell?_alloc_lt w _ _ hlt, hc]
    have hw := hwz (zs.getD i 0) (by rw [List.getD_eq_getElem?_getD, List.getElem?_eq_getElem (by omega)]; simp)
    simp [Lit.wf, IntKind.min, IntKind.max, IntKind.signed, IntKind.bits] at hw
    have e : ((zs.take L).map Int.toNat).getD i 0 = (zs.getD i 0).toNat := by
      rw [List.getD_eq_getElem?_getD, List.getD_eq_getElem?_getD, List.getElem?_map, List.getElem?_take, if_pos hi, List.getElem?_eq_getElem (show i < zs.length by omega)]; rfl
    rw [e]
    have : ((zs.getD i 0).toNat : Int) = zs.getD i 0 := Int.toNat_of_nonneg (by simpa using hw.1)
    rw [this]

/-- the reader that l20Open makes of the code -/
theorem open_any {w : World} (a : Option Addr) (len cap : Nat) (zs : List Int) (h : IsRow .u8 w a len cap zs) :
    Calls Try.prog 42 #[.slice a len cap] w fun e w' => e = .returned (.pointer (some ⟨w.heap.size, 0, none⟩)) ∧ Rd w' w.heap.size w.heap.size 0 ∧ Below w.heap.size w w' ∧ w'.heap.size = w.heap.size + 1 := by
  have hcap : len ≤ cap ∧ cap ≤ maxLen := by
    rcases h with ⟨_, h1, h2, _⟩ | ⟨x, _, h1, h2, _⟩
    · subst h1 h2; simp [maxLen]
    · exact ⟨h1, h2⟩
  unfold maxLen at hcap
  obtain ⟨hcap1, hcap2⟩ := hcap
  have HH := Lib.hid h
  clear h
  by_cases hl : 2000 < len
  · go_enter Try.func42, Try.ntmps42
    go_wp2
    go_ret
    exact ⟨rfl, Rd.opened HH.out 2000 (by omega) (by omega), (Below.refl _ _).alloc (Nat.le_refl _) _, by simp⟩
  · go_enter Try.func42, Try.ntmps42
    go_wp2
    go_ret
    exact ⟨rfl, Rd.opened HH.out len (by omega) (by omega), (Below.refl _ _).alloc (Nat.le_refl _) _, by simp⟩
end Go.Proofs.Ytabdejafmhnaaaa
