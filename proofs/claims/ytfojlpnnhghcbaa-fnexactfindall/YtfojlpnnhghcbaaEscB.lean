/- EscapePut and EscapeMany, in the program. -/
import Derived.Test.YtfojlpnnhghcbaaEscA
import Derived.Test.YtfojlpnnhghcbaaKitBits
namespace Go.Proofs.Ytfojlpnnhghcbaa
open Go.ChangeShapes Go.WideShapes Go.ChangeAt Go.RowKit
def escA (m : Int) (l : List UInt8) : List UInt8 := if putOkB m l.length = true then escR m.toNat l else []
def manyA (m : Int) (l : List UInt8) : Int := if putOkB m l.length = true then ((escR m.toNat l).length : Int) - l.length else -1
theorem zero_builderE (w : World) : (zeroValue 139).run Try.prog w = .ok (.agg #[.pointer none, .slice none 0 0]) w := by kernel_rfl
set_option maxRecDepth 100000 in
set_option maxHeartbeats 4000000 in
theorem implEscPut_any (m : Int) (s : ByteArray) (w : World) :
    Calls Try.prog 122 #[.int .i64 m, .string s] w fun e w' => e = .returned (.string ⟨(escA m s.data.toList).toArray⟩) ∧ Below w.heap.size w w' := by
  have HSL := Lib.hid (size_list s)
  cases hk : putOkB m s.size with
  | false =>
    have HV := Lib.hid (show escA m s.data.toList = [] by rw [escA, HSL.out, hk]; rfl)
    go_enter Try.func122, Try.ntmps122
    go_wp2_with (go_at_call 127; refine (putOk_any _ _ _).mono ?_; rintro e w' ⟨rfl, hw⟩; obtain rfl := hw.symm)
    go_ret
    exact ⟨by rw [HV.out]; rfl, Below.refl _ _⟩
  | true =>
    have HV := Lib.hid (show escA m s.data.toList = escR m.toNat s.data.toList by rw [escA, HSL.out, hk]; rfl)
    have hz := zero_builderE
    obtain ⟨hm, hs⟩ : mapOkB m = true ∧ s.size ≤ 600 := by simpa [putOkB] using hk
    obtain ⟨hm0, hm1⟩ := mapOkB_yes hm
    clear hm
    obtain ⟨n, rfl⟩ : ∃ n : Nat, m = n := ⟨m.toNat, by omega⟩
    have hn : n ≤ 4294967295 := by omega
    simp only [Int.toNat_natCast] at HV
    clear hm0 hm1
    go_enter Try.func122, Try.ntmps122
    go_wp2_with (go_at_call 127; refine (putOk_any _ _ _).mono ?_; rintro e w' ⟨rfl, hw⟩; obtain rfl := hw.symm)
    refine (escapedBy_make _ _).mono ?_
    rintro e w1 ⟨f, o1, o2, rfl, rfl, heb⟩
    have HEB := Lib.hid (heb w.heap.size (by simp))
    have HBU := Lib.hid (((BU.fresh w).alloc o1).alloc o2)
    have HBel := Lib.hid (((((Below.refl w.heap.size w).alloc (Nat.le_refl _) (.cells #[.pointer none, .slice none 0 0] 139)).alloc (by simp) o1).alloc (by simp; omega) o2))
    clear heb hz
    generalize ((w.alloc (.cells #[.pointer none, .slice none 0 0] 139)).alloc o1).alloc o2 = w0 at *
    go_wp2
    go_loopw [7, 16] (fun _ i wr => ∃ k : Nat, k ≤ s.size ∧ i = .int .i64 k ∧ EB wr w.heap.size f n ∧ BU wr w.heap.size w.heap.size (escR n (s.data.toList.take k)) ∧ Below w.heap.size w wr) (fun _ i _ => s.size - (intOf i).toNat)
    case atStart => exact ⟨0, Nat.zero_le _, rfl, HEB.out, HBU.out, HBel.out⟩
    case round =>
      clear HEB HBU HBel
      obtain ⟨k, hk, rfl, heb, hbu, hbel⟩ := hrel
      have HEB := Lib.hid heb
      have HBU := Lib.hid hbu
      have HBel := Lib.hid hbel
      have hsz := hbel.size
      have hle := (escR_len n (s.data.toList.take k)).2
      have hl2 : (s.data.toList.take k).length ≤ k := List.length_take_le _ _
      obtain ⟨x, y, hf, hcx, hcy⟩ := heb.call
      subst hf
      clear heb hbu hbel
      by_cases hlt : k < s.size
      · have HS := Lib.hid (show escR n (s.data.toList.take (k + 1)) = escR n (s.data.toList.take k) ++ escStep n s[k] by rw [snoc_take s k hlt, escR_snoc])
        generalize escR n (s.data.toList.take k) = out at *
        go_wp2_with fail
        refine (escaped_any n s[k] x y wr hn hcx hcy).mono ?_
        rintro e w1 ⟨rfl, hw⟩
        obtain rfl := hw.symm
        cases hm : mustB n s[k] with
        | false =>
          have HV2 := Lib.hid (show escStep n s[k] = [s[k]] by rw [escStep, hm]; rfl)
          go_wp2_with fail
          refine (writeByte_any w.heap.size w.heap.size out s[k] _ HBU.out (by omega) (by omega)).mono ?_
          rintro e w3 ⟨rfl, hbu3, hbel3, hnb3⟩
          have HBU3 := Lib.hid hbu3
          have HBel3 := Lib.hid (HBel.out.trans hbel3)
          have HEB3 := Lib.hid (HEB.out.kept hnb3)
          clear hbu3 hbel3 hnb3
          go_wp2
          go_roundw
          case rel => exact ⟨k + 1, by omega, by go_num, HEB3.out, by rw [HS.out, HV2.out]; exact HBU3.out, HBel3.out⟩
          case measure => simp [intOf]; omega
        | true =>
          have HV2 := Lib.hid (show escStep n s[k] = [125, s[k] ^^^ 32] by rw [escStep, hm]; rfl)
          have hx : bits .xor .u8 (s[k].toNat : Int) 32 = ((s[k] ^^^ 32).toNat : Int) := bits_xor_u8 s[k] 32
          go_wp2_with fail
          refine (writeByte_any w.heap.size w.heap.size out 125 _ HBU.out (by omega) (by omega)).mono ?_
          rintro e w3 ⟨rfl, hbu3, hbel3, hnb3⟩
          have HBU3 := Lib.hid hbu3
          have HBel3 := Lib.hid (HBel.out.trans hbel3)
          have HEB3 := Lib.hid (HEB.out.kept hnb3)
          have hsz3 := HBel3.out.size
          clear hbu3 hbel3 hnb3
          go_wp2_with fail
          refine (writeByte_any w.heap.size w.heap.size (out ++ [125]) (s[k] ^^^ 32) _ HBU3.out (by simp; omega) (by omega)).mono ?_
          rintro e w4 ⟨rfl, hbu4, hbel4, hnb4⟩
          have HBU4 := Lib.hid hbu4
          have HBel4 := Lib.hid (HBel3.out.trans hbel4)
          have HEB4 := Lib.hid (HEB3.out.kept hnb4)
          clear hbu4 hbel4 hnb4
          go_wp2
          go_roundw
          case rel => exact ⟨k + 1, by omega, by go_num, HEB4.out, by rw [HS.out, HV2.out]; simpa using HBU4.out, HBel4.out⟩
          case measure => simp [intOf]; omega
      · have HE := Lib.hid (take_all s k (by omega))
        go_wp2_with fail
        refine (string_any _ _ _ _ HBU.out (by omega)).mono ?_
        rintro e w1 ⟨rfl, hb1⟩
        have HB1 := Lib.hid (HBel.out.trans hb1)
        clear hb1
        go_wp2
        go_ret
        refine ⟨?_, HB1.out⟩
        rw [HV.out, HE.out]; rfl
end Go.Proofs.Ytfojlpnnhghcbaa
