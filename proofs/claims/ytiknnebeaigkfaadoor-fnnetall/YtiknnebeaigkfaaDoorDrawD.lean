/- A draw that bends a text. -/
import Derived.Test.YtiknnebeaigkfaaDoorKitDraw
import Derived.Deep.RegionWith
namespace Go.Proofs.YtiknnebeaigkfaaDoor
open Go.ChangeShapes Go.WideShapes Go.ChangeAt Go.RowKit

theorem grown_drew {a w : World} {row : Option Nat} (h : a.grownBy w row) : a.grownBy w.drew row := ⟨h.os, h.tape, h.output, h.size, h.block⟩
/-- 'string([]byte{b})' -/
theorem run_string_one (u : World) (b : UInt8) : (convert 22 9 (.slice (some ⟨u.heap.size, 0, none⟩) 1 1)).run Tryd.prog (u.alloc (.cells #[.int .u8 (b.toNat : Int)] 5)) = .ok (.string ⟨#[b]⟩) (u.alloc (.cells #[.int .u8 (b.toNat : Int)] 5)) :=
  run_string_of_OB (P := Tryd.prog) _ 22 9 5 u.heap.size _ [b] Tryd.underlying22 Tryd.underlying5 Tryd.underlying9
    (.inr ⟨u.heap.size, 1, #[.int .u8 (b.toNat : Int)], (0, 0), rfl, Nat.le_refl _, heap_alloc_new u _, .inl rfl, Nat.le_refl _, by unfold maxLen; omega, rfl, rfl⟩)
def BentPost (B g N : Nat) (w : World) (most : Nat) (e : Ending) (w' : World) : Prop := ∃ s : ByteArray, e = .returned (.string s) ∧ s.size ≤ most ∧ Rd w' B g (N + 5) ∧ w.grownBy w' (some g)

set_option maxRecDepth 100000 in
set_option maxHeartbeats 4000000 in
theorem bent_any {w : World} {B g N : Nat} (s : ByteArray) (h : Rd w B g N) (hs : s.size ≤ 100000000) (hN : N + 5 ≤ 1000000000) :
    Calls Tryd.prog 29 #[.pointer (some ⟨g, 0, none⟩), .string s] w (BentPost B g N w (s.size + 1)) := by
  have HR := Lib.hid h
  have hgl := h.lt
  have hcv := run_string_one
  clear h
  go_enter Tryd.func29, Tryd.ntmps29
  go_wp2_with fail
  refine (pick_any _ HR.out (by omega)).mono ?_
  rintro e w1 ⟨⟨x, rfl, hx, _⟩, hr1, hg1⟩
  obtain ⟨h0, h1⟩ := hx (by omega)
  obtain ⟨k, rfl⟩ := Int.eq_ofNat_of_zero_le h0
  have HR1 := Lib.hid hr1
  have HG1 := Lib.hid hg1
  clear hr1 hg1 hx
  go_wp2_with fail
  refine (pick_any _ HR1.out (by omega)).mono ?_
  rintro e w2 ⟨⟨y, rfl, hy, _⟩, hr2, hg2⟩
  obtain ⟨h0', h1'⟩ := hy (by omega)
  have HR2 := Lib.hid hr2
  have HG2 := Lib.hid (grown_trans HG1.out hg2)
  clear hr2 hg2 hy
  rcases (show y = 0 ∨ y = 1 ∨ y = 2 ∨ y = 3 ∨ y = 4 by omega) with rfl | rfl | rfl | rfl | rfl
  · by_cases hk : k < s.size
    · obtain ⟨k1, hk1e, hk1s⟩ : ∃ k1 : Nat, (k : Int) + 1 = (k1 : Int) ∧ k1 ≤ s.size := ⟨k + 1, by omega, by omega⟩
      have hk10 : (0 : Int) ≤ (k1 : Int) := by omega
      have hk11 : (k1 : Int) ≤ (s.size : Int) := by omega
      have hkk0 : (k : Int) ≤ (s.size : Int) := by omega
      have hkw : IntKind.i64.wrap (k1 : Int) = (k1 : Int) := wrap_in _ (by omega) (by omega)
      have hkw2 : IntKind.i64.wrap ((k : Int) + 1) = (k1 : Int) := by rw [hk1e]; exact hkw
      have hsl : ∀ u : World, (Instr.slice 9 (.string s) (some (.int .i64 (k1 : Int))) none none).run Tryd.prog u = .ok (.string (s.extract k1 s.size)) u := fun u => by
        rw [run_slice_string_from_if u 9 s .i64 (k1 : Int) Tryd.underlying9]
        simp [hk11]
      go_wp2_with fail
      go_region_with (first | (go_at_call 43; refine (byte_any (B := B) (N := N + 2) (by exact HR2.out) (by omega)).mono ?_; rintro e w3 ⟨b, rfl, hr3, hg3⟩; have HR3 := Lib.hid hr3; (first | (have HG3 := Lib.hid (grown_trans HG2.out hg3)) | (have HG3 := Lib.hid (grown_trans (grown_drew HG2.out) hg3))); clear hr3 hg3; unfold byteV))
      go_wp2
      go_ret
      refine ⟨(s.extract 0 k ++ ⟨#[b]⟩) ++ s.extract k1 s.size, by simp [Act.put], ?_, (HR3.out.alloc _).mono (by omega), grown_alloc HG3.out _⟩
      have h1s : (⟨#[b]⟩ : ByteArray).size = 1 := rfl
      simp only [ByteArray.size_append, ByteArray.size_extract, h1s]
      omega
    · go_wp2
      go_ret
      exact ⟨s, rfl, by omega, HR2.out.mono (by omega), HG2.out⟩
  · go_wp2
    go_ret
    exact ⟨_, rfl, by simp; omega, HR2.out.mono (by omega), HG2.out⟩
  · go_wp2_with fail
    refine (byte_any HR2.out (by omega)).mono ?_
    rintro e w3 ⟨b, rfl, hr3, hg3⟩
    have HR3 := Lib.hid hr3
    have HG3 := Lib.hid (grown_trans HG2.out hg3)
    clear hr3 hg3
    unfold byteV
    go_wp2
    go_ret
    refine ⟨_, rfl, ?_, (HR3.out.alloc _).mono (by omega), grown_alloc HG3.out _⟩
    simp only [ByteArray.size_append]
    exact Nat.le_refl _
  all_goals
    go_wp2
    go_ret
    exact ⟨s, rfl, by omega, HR2.out.mono (by omega), HG2.out⟩

/-- what SumGet is drawn with -/
def GetDrawn (w : World) (e : Ending) (w' : World) : Prop := ∃ (kd : Int) (s : ByteArray), e = .returned (.tuple #[.int .i64 kd, .string s]) ∧ s.size ≤ 100 ∧ Below w.heap.size w w'
end Go.Proofs.YtiknnebeaigkfaaDoor
