/- The draw of events. -/
import Derived.Test.YtfojlpnnhghcbaaFindV
import Derived.Test.YtfojlpnnhghcbaaRg
import Derived.Test.YtfojlpnnhghcbaaKitFindE
namespace Go.Proofs.Ytfojlpnnhghcbaa
open Go.ChangeShapes Go.WideShapes Go.ChangeAt Go.RowKit
def CountDrawn (w : World) (e : Ending) (w' : World) : Prop := ∃ (v : Value) (l : List Ev), e = .returned v ∧ l.length ≤ 8 ∧ OE w' w.heap.size v l ∧ Below w.heap.size w w'
theorem oe_next {w w' : World} {base g : Nat} {v : Value} {l : List Ev} (h : OE w base v l) (hg : w.grownBy w' (some g)) (hb : g < base) : OE w' base v l := by
  refine World.ownsRow.kept h hg ?_
  cases hv : v.ownBlock with
  | none => exact .inl rfl
  | some k => exact .inr (by have := (h.lt k hv).1; simp; omega)
set_option maxRecDepth 100000 in
set_option maxHeartbeats 2000000 in
theorem drawCount_any {w : World} (ad : Option Addr) (len cap : Nat) (zs : List Int) (h : IsRow .u8 w ad len cap zs) :
    Calls Try.prog 29 #[.slice ad len cap] w (CountDrawn w) := by
  have hz := zero_event
  have HH := Lib.hid h
  obtain ⟨i0, hi, hz0, hz1, hz2⟩ := info_parts info_ev
  have HI := Lib.hid hi
  have HZ0 := Lib.hid hz0
  have HZ1 := Lib.hid hz1
  have HZ2 := Lib.hid hz2
  clear h hi hz0 hz1 hz2
  go_enter Try.func29, Try.ntmps29
  go_wp2_with fail
  refine (open_any ad len cap zs HH.out).mono ?_
  rintro e w1 ⟨rfl, hr1, hb1, hs1⟩
  have HR1 := Lib.hid (hr1.alloc (.cells #[] 47))
  have HB1 := Lib.hid (hb1.alloc hb1.size (.cells #[] 47))
  have HO1 := Lib.hid (OE_made w1 (base := w.heap.size + 1) rfl (by omega))
  have HS1 := Lib.hid hs1
  clear hr1 hb1 hs1
  go_wp2_with fail
  refine (pick_any 8 HR1.out (by omega)).mono ?_
  rintro e w2 ⟨⟨x, rfl, hx, _⟩, hr2, hg2⟩
  obtain ⟨hx0, hx8⟩ := hx (by omega)
  have HR2 := Lib.hid hr2
  have HO2 := Lib.hid (oe_next HO1.out hg2 (by omega))
  have HB2 := Lib.hid (HB1.out.trans (grown_below hg2 HB1.out.size (Nat.le_refl _)))
  obtain ⟨n, rfl⟩ : ∃ n : Nat, x = (n : Int) := ⟨x.toNat, by omega⟩
  clear hx hr2 hg2 HR1 HO1 HB1
  go_wp2
  go_loopw [4, 5] (fun ev nv wr => ∃ (k : Nat) (l : List Ev), k ≤ n ∧ nv = .int .i64 k ∧ l.length + k = n ∧ OE wr (w.heap.size + 1) ev l ∧ Rd wr w.heap.size w.heap.size (1 + l.length) ∧ Below w.heap.size w wr ∧ w.heap.size + 1 ≤ wr.heap.size) (fun _ nv _ => (intOf nv).toNat)
  case atStart => exact ⟨n, [], Nat.le_refl _, rfl, by simp, HO2.out, HR2.out, HB2.out, HR2.out.lt⟩
  case round =>
    clear HR2 HO2 HB2
    obtain ⟨k, l, hk, rfl, hlk, hoe, hr, hb, hsz⟩ := hrel
    have HOE := Lib.hid hoe
    have HR := Lib.hid hr
    have HB := Lib.hid hb
    have HLK := Lib.hid hlk
    have hll : l.length ≤ 8 := by omega
    clear hoe hr hb hlk
    by_cases hp : 0 < k
    · go_wp2_with fail
      refine (pick_any 8 HR.out (by omega)).mono ?_
      rintro e w3 ⟨⟨y, rfl, hy, _⟩, hr3, hg3⟩
      have HR3 := Lib.hid hr3
      have HO3 := Lib.hid (oe_next HOE.out hg3 (by omega))
      have HB3 := Lib.hid (HB.out.trans (grown_below hg3 HB.out.size (Nat.le_refl _)))
      have hs3 : w.heap.size + 1 ≤ w3.heap.size := hr3.lt
      clear hy hr3 hg3
      go_wp2_with (at_builtin; refine wpList_append_ev _ rfl _ _ 31 rfl (w.heap.size + 1) i0 Try.underlying31 HI.out HZ0.out HZ1.out HZ2.out _ l rfl (HO3.out.alloc' _) _ _ _ [⟨y, []⟩] rfl (RE_new w3 ⟨y, []⟩) (by simp; omega) (by simp; omega) ?_; intro v5 w5 ho5 hg5 hat5; have HO5 := Lib.hid ho5; have HR5 := Lib.hid ((HR3.out.alloc (.cells #[.int .i64 y, .string ⟨#[]⟩] 47)).grow hg5 (fun e => by have := (HO3.out.lt _ e).1; omega) (fun k hk => by have := (HO3.out.lt k hk).1; omega)); have HB5 := Lib.hid ((HB3.out.alloc HB3.out.size (.cells #[.int .i64 y, .string ⟨#[]⟩] 47)).grown hg5 (by simp; omega) (fun k hk => by have := (HO3.out.lt k hk).1; omega)); clear ho5 hg5 hat5)
      go_roundw
      case rel => exact ⟨k - 1, l ++ [⟨y, []⟩], by omega, val_int (by omega), by have := HLK.out; simp; omega, HO5.out, by rw [List.length_append]; exact HR5.out.mono (by simp; omega), HB5.out, HR5.out.lt⟩
      case measure => simp [intOf]; omega
    · go_wp2
      go_ret
      exact ⟨_, l, rfl, by omega, HOE.out.mono (by omega), HB.out⟩
end Go.Proofs.Ytfojlpnnhghcbaa
