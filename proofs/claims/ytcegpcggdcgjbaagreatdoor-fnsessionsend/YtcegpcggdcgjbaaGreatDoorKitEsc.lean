/- Which bytes are escaped, in the program: the closures that tell it. -/
import Derived.Test.YtcegpcggdcgjbaaGreatDoorKitA
import Derived.Laws.EntriesVeiled
import Derived.Test.YtcegpcggdcgjbaaGreatDoorKitBits
import Derived.Test.YtcegpcggdcgjbaaGreatDoorKitSum
import Derived.Test.YtcegpcggdcgjbaaGreatDoorIdx
namespace Go.Proofs.YtcegpcggdcgjbaaGreatDoor
open Go.ChangeShapes Go.WideShapes Go.ChangeAt Go.RowKit
def mapB (m : Nat) (c : UInt8) : Bool := decide (c.toNat < 32) && decide (m / 2 ^ c.toNat % 2 = 1)
def mustB (m : Nat) (c : UInt8) : Bool := decide (c = 126) || decide (c = 125) || mapB m c
def escStep (m : Nat) (c : UInt8) : List UInt8 := if mustB m c = true then [125, c ^^^ 32] else [c]
def escR (m : Nat) (l : List UInt8) : List UInt8 := l.flatMap (escStep m)
def mapOkB (m : Int) : Bool := decide (0 ≤ m) && decide (m ≤ 4294967295)
theorem escR_snoc (m : Nat) (l : List UInt8) (c : UInt8) : escR m (l ++ [c]) = escR m l ++ escStep m c := by simp [escR]
theorem escStep_le (m : Nat) (c : UInt8) : 1 ≤ (escStep m c).length ∧ (escStep m c).length ≤ 2 := by unfold escStep; split <;> simp
theorem escR_len (m : Nat) (l : List UInt8) : l.length ≤ (escR m l).length ∧ (escR m l).length ≤ 2 * l.length := by
  induction l with
  | nil => simp [escR]
  | cons c l ih =>
    have := escStep_le m c
    have h : escR m (c :: l) = escStep m c ++ escR m l := by simp [escR]
    rw [h, List.length_append, List.length_cons]; omega
theorem bits_and1_i64 (a : Nat) (ha : a < 9223372036854775808) : bits .and .i64 (a : Int) 1 = ((a % 2 : Nat) : Int) := by
  have h1 : (BitVec.ofInt 64 (a : Int)).toNat = a := by
    rw [BitVec.ofInt_natCast, BitVec.toNat_ofNat]; exact Nat.mod_eq_of_lt (by omega)
  have h2 : (BitVec.ofInt 64 (1 : Int)).toNat = 1 := by decide
  show IntKind.i64.wrap ((BitVec.ofInt 64 (a : Int) &&& BitVec.ofInt 64 (1 : Int)).toNat : Int) = _
  rw [BitVec.toNat_and, h1, h2, Nat.and_one_is_mod, IntKind.wrap_i64]
  omega
theorem bits_xor_u8 (c d : UInt8) : bits .xor .u8 (c.toNat : Int) (d.toNat : Int) = ((c ^^^ d).toNat : Int) := by
  have hc := c.toNat_lt
  have hd := d.toNat_lt
  have h1 : (BitVec.ofInt 8 (c.toNat : Int)).toNat = c.toNat := by
    rw [BitVec.ofInt_natCast, BitVec.toNat_ofNat]; exact Nat.mod_eq_of_lt (by omega)
  have h2 : (BitVec.ofInt 8 (d.toNat : Int)).toNat = d.toNat := by
    rw [BitVec.ofInt_natCast, BitVec.toNat_ofNat]; exact Nat.mod_eq_of_lt (by omega)
  have hx : (c ^^^ d).toNat < 256 := (c ^^^ d).toNat_lt
  show IntKind.u8.wrap ((BitVec.ofInt 8 (c.toNat : Int) ^^^ BitVec.ofInt 8 (d.toNat : Int)).toNat : Int) = _
  rw [BitVec.toNat_xor, h1, h2, ← UInt8.toNat_xor, IntKind.wrap_u8]
  omega
theorem mapped_any (m : Nat) (c : UInt8) (x : Nat) (w : World) (hm : m ≤ 4294967295) (hx : w.cell? ⟨x, 0, none⟩ = some (.int .i64 m)) :
    Calls Tryz.prog 183 #[.int .u8 c.toNat, .pointer (some ⟨x, 0, none⟩)] w fun e w' => e = .returned (.bool (mapB m c)) ∧ w' = w := by
  by_cases h32 : c.toNat < 32
  · obtain ⟨q, hq⟩ : ∃ q, q = m / 2 ^ c.toNat := ⟨_, rfl⟩
    have hql : q ≤ 4294967295 := by rw [hq]; exact Nat.le_trans (Nat.div_le_self _ _) hm
    have hqi : (m : Int) / 2 ^ c.toNat = (q : Int) := by rw [hq]; simp
    have HV := Lib.hid (show mapB m c = decide (q % 2 = 1) by simp [mapB, h32, hq])
    have hand := bits_and1_i64 q (by omega)
    generalize q % 2 = r at *
    clear hq
    go_enter Tryz.func183, Tryz.ntmps183
    go_wp2
    go_ret
    refine ⟨?_, rfl⟩
    rw [HV.out]
    show Ending.returned (.bool ((r : Int) == 1)) = _
    congr 2
    rw [Bool.eq_iff_iff]; simp; omega
  · have HV := Lib.hid (show mapB m c = false by simp [mapB, h32])
    go_enter Tryz.func183, Tryz.ntmps183
    go_wp2
    go_ret
    exact ⟨by rw [HV.out]; rfl, rfl⟩
theorem escaped_any (m : Nat) (c : UInt8) (x y : Nat) (w : World) (hm : m ≤ 4294967295) (hx : w.cell? ⟨x, 0, none⟩ = some (.int .i64 m))
    (hy : w.cell? ⟨y, 0, none⟩ = some (.func (.func 183) #[] #[.pointer (some ⟨x, 0, none⟩)])) :
    Calls Tryz.prog 184 #[.int .u8 c.toNat, .pointer (some ⟨y, 0, none⟩)] w fun e w' => e = .returned (.bool (mustB m c)) ∧ w' = w := by
  by_cases h6 : c = 126
  · have hb : ((c.toNat : Int) == 126) = true := by rw [h6]; rfl
    have HV := Lib.hid (show mustB m c = true by simp [mustB, h6])
    clear h6
    go_enter Tryz.func184, Tryz.ntmps184
    go_wp2
    go_ret
    exact ⟨by rw [HV.out]; rfl, rfl⟩
  · have hb : ((c.toNat : Int) == 126) = false := beq_eq_false_iff_ne.2 (fun h => h6 (by apply UInt8.toNat_inj.1; show c.toNat = 126; omega))
    by_cases h5 : c = 125
    · have hb5 : ((c.toNat : Int) == 125) = true := by rw [h5]; rfl
      have HV := Lib.hid (show mustB m c = true by simp [mustB, h5])
      clear h5 h6
      go_enter Tryz.func184, Tryz.ntmps184
      go_wp2
      go_ret
      exact ⟨by rw [HV.out]; rfl, rfl⟩
    · have hb5 : ((c.toNat : Int) == 125) = false := beq_eq_false_iff_ne.2 (fun h => h5 (by apply UInt8.toNat_inj.1; show c.toNat = 125; omega))
      have HV := Lib.hid (show mustB m c = mapB m c by simp [mustB, h5, h6])
      clear h5 h6
      go_enter Tryz.func184, Tryz.ntmps184
      go_wp2_with fail
      refine (mapped_any m c x w hm hx).mono ?_
      rintro e w' ⟨rfl, rfl⟩
      go_wp2
      go_ret
      exact ⟨by rw [HV.out]; rfl, rfl⟩
theorem mappedBy_make (m : Nat) (w : World) :
    Calls Tryz.prog 180 #[.int .i64 m] w fun e w' => e = .returned (.func (.func 183) #[] #[.pointer (some ⟨w.heap.size, 0, none⟩)]) ∧ w' = w.alloc (.cells #[.int .i64 m] 3) := by
  have hmf : ∀ (fn : Fn) (first cap : Array Value) (w : World), (Instr.makeFunc fn first cap).run Tryz.prog w = .ok (.func fn first cap) w := fun _ _ _ _ => rfl
  go_enter Tryz.func180, Tryz.ntmps180
  go_wp2
  go_ret
  exact ⟨rfl, rfl⟩
/-- the closure that tells whether a byte is escaped, and its two boxes, none of them the block b -/
def EB (w : World) (b : Nat) (f : Value) (m : Nat) : Prop := ∃ x y, f = .func (.func 184) #[] #[.pointer (some ⟨y, 0, none⟩)] ∧ x ≠ b ∧ y ≠ b ∧ w.heap[x]? = some (.cells #[.int .i64 m] 3 (0, 0)) ∧ w.heap[y]? = some (.cells #[.func (.func 183) #[] #[.pointer (some ⟨x, 0, none⟩)]] 201 (0, 0))
theorem EB.kept {w w' : World} {b : Nat} {f : Value} {m : Nat} (h : EB w b f m) (hn : NB b w w') : EB w' b f m := by
  obtain ⟨x, y, hf, hxb, hyb, hx, hy⟩ := h
  refine ⟨x, y, hf, hxb, hyb, ?_, ?_⟩
  · rw [hn.2 x (Array.getElem?_eq_some_iff.1 hx).1 hxb (fun cs fz he => by
      rw [hx] at he; injection he with he; injection he with _ ht; exact absurd ht (by decide))]
    exact hx
  · rw [hn.2 y (Array.getElem?_eq_some_iff.1 hy).1 hyb (fun cs fz he => by
      rw [hy] at he; injection he with he; injection he with _ ht; exact absurd ht (by decide))]
    exact hy
theorem EB.call {w : World} {b : Nat} {f : Value} {m : Nat} (h : EB w b f m) : ∃ x y, f = .func (.func 184) #[] #[.pointer (some ⟨y, 0, none⟩)] ∧ w.cell? ⟨x, 0, none⟩ = some (.int .i64 m) ∧ w.cell? ⟨y, 0, none⟩ = some (.func (.func 183) #[] #[.pointer (some ⟨x, 0, none⟩)]) := by
  obtain ⟨x, y, hf, hxb, hyb, hx, hy⟩ := h
  exact ⟨x, y, hf, by rw [cell_of_row w x 0 _ _ _ hx]; rfl, by rw [cell_of_row w y 0 _ _ _ hy]; rfl⟩
theorem zero_byteTest (w : World) : (zeroValue 201).run Tryz.prog w = .ok .nilFunc w := by kernel_rfl
theorem escapedBy_make (m : Nat) (w : World) :
    Calls Tryz.prog 182 #[.int .i64 m] w fun e w' => ∃ f o1 o2, e = .returned f ∧ w' = (w.alloc o1).alloc o2 ∧ (∀ b, b < w.heap.size → EB w' b f m) := by
  have hz := zero_byteTest
  have hmf : ∀ (fn : Fn) (first cap : Array Value) (w : World), (Instr.makeFunc fn first cap).run Tryz.prog w = .ok (.func fn first cap) w := fun _ _ _ _ => rfl
  go_enter Tryz.func182, Tryz.ntmps182
  go_wp2_with (go_at_call 180; refine (mappedBy_make _ _).mono ?_; rintro e w' ⟨rfl, rfl⟩)
  go_ret
  refine ⟨_, _, _, rfl, rfl, fun b hb => ⟨w.heap.size, w.heap.size + 1, rfl, by omega, by omega, ?_, ?_⟩⟩
  · rw [Below.heap_alloc _ _ _ (by simp)]; exact heap_alloc_new _ _
  · exact (by simpa using heap_alloc_new (w.alloc (.cells #[.int .i64 m] 3)) _)
theorem BU.alloc {w : World} {B b : Nat} {l : List UInt8} (h : BU w B b l) (o : Obj) : BU (w.alloc o) B b l := by
  obtain ⟨h1, p, v, hb, hp, hrb⟩ := h
  exact ⟨h1, p, v, (Below.heap_alloc w _ _ (BU.lt ⟨h1, p, v, hb, hp, hrb⟩)).trans hb, hp, hrb.alloc _⟩
theorem mapOkB_yes {m : Int} (h : mapOkB m = true) : 0 ≤ m ∧ m ≤ 4294967295 := by simpa [mapOkB] using h
theorem mapOk_any (m : Int) (w : World) :
    Calls Tryz.prog 67 #[.int .i64 m] w fun e w' => e = .returned (.bool (mapOkB m)) ∧ w' = w := by
  by_cases h0 : 0 ≤ m
  · by_cases h1 : m ≤ 4294967295
    · have HV := Lib.hid (show mapOkB m = true by simp [mapOkB, h0, h1])
      go_enter Tryz.func67, Tryz.ntmps67
      go_wp2
      go_ret
      exact ⟨by rw [HV.out]; rfl, rfl⟩
    · have HV := Lib.hid (show mapOkB m = false by simp [mapOkB, h1])
      go_enter Tryz.func67, Tryz.ntmps67
      go_wp2
      go_ret
      exact ⟨by rw [HV.out]; rfl, rfl⟩
  · have HV := Lib.hid (show mapOkB m = false by simp [mapOkB, h0])
    go_enter Tryz.func67, Tryz.ntmps67
    go_wp2
    go_ret
    exact ⟨by rw [HV.out]; rfl, rfl⟩
def putOkB (m : Int) (n : Nat) : Bool := mapOkB m && decide (n ≤ 600)
theorem putOk_any (m : Int) (s : ByteArray) (w : World) :
    Calls Tryz.prog 181 #[.int .i64 m, .string s] w fun e w' => e = .returned (.bool (putOkB m s.size)) ∧ w' = w := by
  cases hk : mapOkB m with
  | false =>
    have HV := Lib.hid (show putOkB m s.size = false by simp [putOkB, hk])
    go_enter Tryz.func181, Tryz.ntmps181
    go_wp2_with (go_at_call 67; refine (mapOk_any _ _).mono ?_; rintro e w' ⟨rfl, rfl⟩)
    go_ret
    exact ⟨by rw [HV.out]; rfl, rfl⟩
  | true =>
    have HV := Lib.hid (show putOkB m s.size = decide ((s.size : Int) ≤ 600) by rw [putOkB, hk, Bool.true_and, decide_eq_decide]; omega)
    go_enter Tryz.func181, Tryz.ntmps181
    go_wp2_with (go_at_call 67; refine (mapOk_any _ _).mono ?_; rintro e w' ⟨rfl, rfl⟩)
    go_ret
    exact ⟨by rw [HV.out]; rfl, rfl⟩
end Go.Proofs.YtcegpcggdcgjbaaGreatDoor
/- EscapePut and EscapeMany, in the program. -/
namespace Go.Proofs.YtcegpcggdcgjbaaGreatDoor
open Go.ChangeShapes Go.WideShapes Go.ChangeAt Go.RowKit
def escA (m : Int) (l : List UInt8) : List UInt8 := if putOkB m l.length = true then escR m.toNat l else []
def manyA (m : Int) (l : List UInt8) : Int := if putOkB m l.length = true then ((escR m.toNat l).length : Int) - l.length else -1
theorem zero_builderE (w : World) : (zeroValue 42).run Tryz.prog w = .ok (.agg #[.pointer none, .slice none 0 0]) w := by kernel_rfl
set_option maxRecDepth 100000 in
set_option maxHeartbeats 4000000 in
theorem implEscPut_any (m : Int) (s : ByteArray) (w : World) :
    Calls Tryz.prog 178 #[.int .i64 m, .string s] w fun e w' => e = .returned (.string ⟨(escA m s.data.toList).toArray⟩) ∧ Below w.heap.size w w' := by
  have HSL := Lib.hid (size_list s)
  cases hk : putOkB m s.size with
  | false =>
    have HV := Lib.hid (show escA m s.data.toList = [] by rw [escA, HSL.out, hk]; rfl)
    go_enter Tryz.func178, Tryz.ntmps178
    go_wp2_with (go_at_call 181; refine (putOk_any _ _ _).mono ?_; rintro e w' ⟨rfl, hw⟩; obtain rfl := hw.symm)
    go_ret
    exact ⟨by rw [HV.out]; rfl, Below.refl _ _⟩
  | true =>
    have HV := Lib.hid (show escA m s.data.toList = escR m.toNat s.data.toList by rw [escA, HSL.out, hk]; rfl)
    have hz := zero_builderE
    obtain ⟨hm, hs⟩ : mapOkB m = true ∧ s.size ≤ 600 := by simpa [putOkB] using hk
    obtain ⟨hm0, hm1⟩ := mapOkB_yes hm
    clear hm
    obtain ⟨n, rfl⟩ : ∃ n : Nat, m = n := ⟨m.toNat, by omega⟩
    have hn : n ≤ 4294967295 := by omega
    simp only [Int.toNat_natCast] at HV
    clear hm0 hm1
    go_enter Tryz.func178, Tryz.ntmps178
    go_wp2_with (go_at_call 181; refine (putOk_any _ _ _).mono ?_; rintro e w' ⟨rfl, hw⟩; obtain rfl := hw.symm)
    refine (escapedBy_make _ _).mono ?_
    rintro e w1 ⟨f, o1, o2, rfl, rfl, heb⟩
    have HEB := Lib.hid (heb w.heap.size (by simp))
    have HBU := Lib.hid (((BU.fresh w).alloc o1).alloc o2)
    have HBel := Lib.hid (((((Below.refl w.heap.size w).alloc (Nat.le_refl _) (.cells #[.pointer none, .slice none 0 0] 42)).alloc (by simp) o1).alloc (by simp; omega) o2))
    clear heb hz
    generalize ((w.alloc (.cells #[.pointer none, .slice none 0 0] 42)).alloc o1).alloc o2 = w0 at *
    go_wp2
    go_loopw [7, 16] (fun _ i wr => ∃ k : Nat, k ≤ s.size ∧ i = .int .i64 k ∧ EB wr w.heap.size f n ∧ BU wr w.heap.size w.heap.size (escR n (s.data.toList.take k)) ∧ Below w.heap.size w wr) (fun _ i _ => s.size - (intOf i).toNat)
    case atStart => exact ⟨0, Nat.zero_le _, rfl, HEB.out, HBU.out, HBel.out⟩
    case round =>
      clear HEB HBU HBel
      obtain ⟨k, hk, rfl, heb, hbu, hbel⟩ := hrel
      have HEB := Lib.hid heb
      have HBU := Lib.hid hbu
      have HBel := Lib.hid hbel
      have hsz := hbel.size
      have hle := (escR_len n (s.data.toList.take k)).2
      have hl2 : (s.data.toList.take k).length ≤ k := List.length_take_le _ _
      obtain ⟨x, y, hf, hcx, hcy⟩ := heb.call
      subst hf
      clear heb hbu hbel
      by_cases hlt : k < s.size
      · have HS := Lib.hid (show escR n (s.data.toList.take (k + 1)) = escR n (s.data.toList.take k) ++ escStep n s[k] by rw [snoc_take s k hlt, escR_snoc])
        generalize escR n (s.data.toList.take k) = out at *
        go_wp2_with fail
        refine (escaped_any n s[k] x y wr hn hcx hcy).mono ?_
        rintro e w1 ⟨rfl, hw⟩
        obtain rfl := hw.symm
        cases hm : mustB n s[k] with
        | false =>
          have HV2 := Lib.hid (show escStep n s[k] = [s[k]] by rw [escStep, hm]; rfl)
          go_wp2_with fail
          refine (writeByte_any w.heap.size w.heap.size out s[k] _ HBU.out (by omega) (by omega)).mono ?_
          rintro e w3 ⟨rfl, hbu3, hbel3, hnb3⟩
          have HBU3 := Lib.hid hbu3
          have HBel3 := Lib.hid (HBel.out.trans hbel3)
          have HEB3 := Lib.hid (HEB.out.kept hnb3)
          clear hbu3 hbel3 hnb3
          go_wp2
          go_roundw
          case rel => exact ⟨k + 1, by omega, by go_num, HEB3.out, by rw [HS.out, HV2.out]; exact HBU3.out, HBel3.out⟩
          case measure => simp [intOf]; omega
        | true =>
          have HV2 := Lib.hid (show escStep n s[k] = [125, s[k] ^^^ 32] by rw [escStep, hm]; rfl)
          have hx : bits .xor .u8 (s[k].toNat : Int) 32 = ((s[k] ^^^ 32).toNat : Int) := bits_xor_u8 s[k] 32
          go_wp2_with fail
          refine (writeByte_any w.heap.size w.heap.size out 125 _ HBU.out (by omega) (by omega)).mono ?_
          rintro e w3 ⟨rfl, hbu3, hbel3, hnb3⟩
          have HBU3 := Lib.hid hbu3
          have HBel3 := Lib.hid (HBel.out.trans hbel3)
          have HEB3 := Lib.hid (HEB.out.kept hnb3)
          have hsz3 := HBel3.out.size
          clear hbu3 hbel3 hnb3
          go_wp2_with fail
          refine (writeByte_any w.heap.size w.heap.size (out ++ [125]) (s[k] ^^^ 32) _ HBU3.out (by simp; omega) (by omega)).mono ?_
          rintro e w4 ⟨rfl, hbu4, hbel4, hnb4⟩
          have HBU4 := Lib.hid hbu4
          have HBel4 := Lib.hid (HBel3.out.trans hbel4)
          have HEB4 := Lib.hid (HEB3.out.kept hnb4)
          clear hbu4 hbel4 hnb4
          go_wp2
          go_roundw
          case rel => exact ⟨k + 1, by omega, by go_num, HEB4.out, by rw [HS.out, HV2.out]; simpa using HBU4.out, HBel4.out⟩
          case measure => simp [intOf]; omega
      · have HE := Lib.hid (take_all s k (by omega))
        go_wp2_with fail
        refine (string_any _ _ _ _ HBU.out (by omega)).mono ?_
        rintro e w1 ⟨rfl, hb1⟩
        have HB1 := Lib.hid (HBel.out.trans hb1)
        clear hb1
        go_wp2
        go_ret
        refine ⟨?_, HB1.out⟩
        rw [HV.out, HE.out]; rfl
end Go.Proofs.YtcegpcggdcgjbaaGreatDoor
/- EscapeMany in the program; EscapePut and EscapeMany in the model. -/
namespace Go.Proofs.YtcegpcggdcgjbaaGreatDoor
open Go.ChangeShapes Go.WideShapes Go.ChangeAt Go.RowKit
theorem escA_len (m : Int) (l : List UInt8) : (escA m l).length ≤ 1200 := by
  unfold escA; split
  · rename_i h
    have := (escR_len m.toNat l).2
    have hl : l.length ≤ 600 := by simp [putOkB] at h; omega
    omega
  · simp
theorem l5Map_any (m : Int) (w : World) :
    Calls Tryz.prog 82 #[.int .i64 m] w fun e w' => e = .returned (.bool (mapOkB m)) ∧ w = w' := by
  go_enter Tryz.func82, Tryz.ntmps82
  go_wp2_with (go_at_call 80; refine (l1In_any _ _ _ _).mono ?_; rintro e w' ⟨rfl, rfl⟩)
  go_ret
  exact ⟨rfl, rfl⟩
theorem l5Mapped_any (m : Nat) (c : UInt8) (w : World) (hm : m ≤ 4294967295) :
    Calls Tryz.prog 150 #[.int .i64 m, .int .u8 c.toNat] w fun e w' => e = .returned (.bool (mapB m c)) ∧ w = w' := by
  have hc := c.toNat_lt
  by_cases h32 : c.toNat < 32
  · obtain ⟨q, hq⟩ : ∃ q, q = m / 2 ^ c.toNat := ⟨_, rfl⟩
    have hql : q ≤ 4294967295 := by rw [hq]; exact Nat.le_trans (Nat.div_le_self _ _) hm
    have hqi : (m : Int) / 2 ^ c.toNat = (q : Int) := by rw [hq]; simp
    have HV := Lib.hid (show mapB m c = decide (q % 2 = 1) by simp [mapB, h32, hq])
    obtain ⟨r, hr⟩ : ∃ r, r = q % 2 := ⟨_, rfl⟩
    have hr1 : (q : Int).tmod 2 = (r : Int) := by rw [Int.tmod_eq_emod_of_nonneg (by omega)]; omega
    have hr2 : (q : Int) % 2 = (r : Int) := by omega
    have HR := Lib.hid hr
    clear hq hr
    go_enter Tryz.func150, Tryz.ntmps150
    go_wp2
    go_ret
    refine ⟨?_, rfl⟩
    rw [HV.out, ← HR.out]
    show Ending.returned (.bool ((r : Int) == 1)) = _
    congr 2
    rw [Bool.eq_iff_iff]; simp; omega
  · have HV := Lib.hid (show mapB m c = false by simp [mapB, h32])
    go_enter Tryz.func150, Tryz.ntmps150
    go_wp2
    go_ret
    exact ⟨by rw [HV.out]; rfl, rfl⟩
theorem l5Must_any (m : Nat) (c : UInt8) (w : World) (hm : m ≤ 4294967295) :
    Calls Tryz.prog 139 #[.int .i64 m, .int .u8 c.toNat] w fun e w' => e = .returned (.bool (mustB m c)) ∧ w = w' := by
  by_cases h6 : c = 126
  · have hb : ((c.toNat : Int) == 126) = true := by rw [h6]; rfl
    have HV := Lib.hid (show mustB m c = true by simp [mustB, h6])
    clear h6
    go_enter Tryz.func139, Tryz.ntmps139
    go_wp2
    go_ret
    exact ⟨by rw [HV.out]; rfl, rfl⟩
  · have hb : ((c.toNat : Int) == 126) = false := beq_eq_false_iff_ne.2 (fun h => h6 (by apply UInt8.toNat_inj.1; show c.toNat = 126; omega))
    by_cases h5 : c = 125
    · have hb5 : ((c.toNat : Int) == 125) = true := by rw [h5]; rfl
      have HV := Lib.hid (show mustB m c = true by simp [mustB, h5])
      clear h5 h6
      go_enter Tryz.func139, Tryz.ntmps139
      go_wp2
      go_ret
      exact ⟨by rw [HV.out]; rfl, rfl⟩
    · have hb5 : ((c.toNat : Int) == 125) = false := beq_eq_false_iff_ne.2 (fun h => h5 (by apply UInt8.toNat_inj.1; show c.toNat = 125; omega))
      have HV := Lib.hid (show mustB m c = mapB m c by simp [mustB, h5, h6])
      clear h5 h6
      go_enter Tryz.func139, Tryz.ntmps139
      go_wp2_with fail
      refine (l5Mapped_any m c w hm).mono ?_
      rintro e w' ⟨rfl, rfl⟩
      go_wp2
      go_ret
      exact ⟨by rw [HV.out]; rfl, rfl⟩
theorem two_newE (w : World) (e : TypeId) (a b : UInt8) (u v : Value) (hu : byteV a = u) (hv : byteV b = v) : ∀ j z, ([a, b].map byteV)[j]? = some z → (w.alloc (.cells #[u, v] e)).cell? ((⟨w.heap.size, 0, none⟩ : Addr).add j) = some z := by
  intro j z hz
  match j, hz with
  | 0, hz => simp at hz; subst hz; simp [Addr.add, hu]
  | 1, hz => simp at hz; subst hz; simp [Addr.add, hv]
set_option maxHeartbeats 4000000 in
theorem l5Put_any (m : Nat) (s : ByteArray) (w : World) (hm : m ≤ 4294967295) (hs : s.size ≤ 600) :
    Calls Tryz.prog 112 #[.int .i64 m, .string s] w fun e w' => e = .returned (.string ⟨(escR m s.data.toList).toArray⟩) ∧ Below w.heap.size w w' := by
  obtain ⟨i0, hi, hz0, hz1, hz2⟩ := info_parts info_u8
  have HI := Lib.hid hi
  have HZ0 := Lib.hid hz0
  have HZ1 := Lib.hid hz1
  have HZ2 := Lib.hid hz2
  have HSL := Lib.hid (size_list s)
  clear hi hz0 hz1 hz2
  go_enter Tryz.func112, Tryz.ntmps112
  go_wp2
  go_loopw [5, 6] (fun v i wr => ∃ k : Nat, k ≤ s.size ∧ i = .int .i64 k ∧ OB 5 wr w.heap.size v (escR m (s.data.toList.take k)) ∧ Below w.heap.size w wr) (fun _ i _ => s.size - (intOf i).toNat)
  case atStart => exact ⟨0, by omega, rfl, .inr ⟨w.heap.size, 0, #[], (0, 0), rfl, Nat.le_refl _, heap_alloc_new w _, .inl rfl, Nat.le_refl _, by simp [maxLen], rfl, rfl⟩, (Below.refl _ _).alloc (Nat.le_refl _) _⟩
  case round =>
    obtain ⟨k, hk, rfl, hown, hb⟩ := hrel
    have HO := Lib.hid hown
    have HB := Lib.hid hb
    have hle := (escR_len m (s.data.toList.take k)).2
    have hl2 : (s.data.toList.take k).length ≤ k := List.length_take_le _ _
    clear hown hb
    by_cases hlt : k < s.size
    · have HS := Lib.hid (show escR m (s.data.toList.take (k + 1)) = escR m (s.data.toList.take k) ++ escStep m s[k] by rw [snoc_take s k hlt, escR_snoc])
      generalize escR m (s.data.toList.take k) = out at *
      go_wp2_with fail
      refine (l5Must_any m s[k] wr hm).mono ?_
      rintro e w1 ⟨rfl, rfl⟩
      cases hmu : mustB m s[k] with
      | false =>
        have HV := Lib.hid (show escStep m s[k] = [s[k]] by rw [escStep, hmu]; rfl)
        have hll : out.length + [s[k]].length ≤ 140737488355328 := by simp; omega
        go_wp2_with (at_builtin; refine wpList_append_OB _ rfl _ _ 22 rfl w.heap.size 5 i0 Tryz.underlying22 HI.out HZ0.out HZ1.out HZ2.out _ out rfl (HO.out.alloc _) ⟨wr.heap.size, 0, none⟩ 1 1 [s[k]] rfl rfl (one_new wr _ _ _ rfl) hll (by have := HB.out.size; simp; omega) ?_; intro v2 w2 hown2 hg2)
        go_roundw
        case rel => exact ⟨k + 1, by omega, by go_num, by rw [HS.out, HV.out]; exact hown2, (HB.out.alloc HB.out.size _).grown hg2 (by have := HB.out.size; simp; omega) (fun k hk => (HO.out.lt k hk).1)⟩
        case measure => simp [intOf]; omega
      | true =>
        have HV := Lib.hid (show escStep m s[k] = [125, s[k] ^^^ 32] by rw [escStep, hmu]; rfl)
        have hx : bits .xor .u8 (s[k].toNat : Int) 32 = ((s[k] ^^^ 32).toNat : Int) := bits_xor_u8 s[k] 32
        have hll : out.length + [125, s[k] ^^^ 32].length ≤ 140737488355328 := by simp; omega
        go_wp2_with (at_builtin; refine wpList_append_OB _ rfl _ _ 22 rfl w.heap.size 5 i0 Tryz.underlying22 HI.out HZ0.out HZ1.out HZ2.out _ out rfl (HO.out.alloc _) ⟨wr.heap.size, 0, none⟩ 2 2 [125, s[k] ^^^ 32] rfl rfl (two_newE wr _ _ _ _ _ rfl rfl) hll (by have := HB.out.size; simp; omega) ?_; intro v2 w2 hown2 hg2)
        go_roundw
        case rel => exact ⟨k + 1, by omega, by go_num, by rw [HS.out, HV.out]; exact hown2, (HB.out.alloc HB.out.size _).grown hg2 (by have := HB.out.size; simp; omega) (fun k hk => (HO.out.lt k hk).1)⟩
        case measure => simp [intOf]; omega
    · have HE := Lib.hid (take_all s k (by omega))
      go_wp2_with (refine wpList_string_of_OB _ rfl 22 9 5 _ rfl w.heap.size _ _ rfl Tryz.underlying22 Tryz.underlying5 Tryz.underlying9 HO.out ?_)
      go_ret
      refine ⟨?_, HB.out⟩
      rw [HE.out]
      rfl
end Go.Proofs.YtcegpcggdcgjbaaGreatDoor
/- Plain facts on escaping: read back, nothing special in it, of two pieces both, a greater map escapes more. -/
namespace Go.Proofs.YtcegpcggdcgjbaaGreatDoor
open Go.ChangeShapes Go.WideShapes Go.ChangeAt Go.RowKit
def unR (m : Nat) : List UInt8 → List UInt8
  | [] => []
  | [c] => if c = 125 then [] else if mapB m c = true then [] else [c]
  | c :: d :: r => if c = 125 then (d ^^^ 32) :: unR m r else if mapB m c = true then unR m (d :: r) else c :: unR m (d :: r)
theorem unR_esc (m : Nat) (d : UInt8) (r : List UInt8) : unR m (125 :: d :: r) = (d ^^^ 32) :: unR m r := by simp [unR]
theorem unR_map {m : Nat} {c : UInt8} (r : List UInt8) (h : c ≠ 125) (hm : mapB m c = true) : unR m (c :: r) = unR m r := by cases r <;> simp [unR, h, hm]
theorem unR_own {m : Nat} {c : UInt8} (r : List UInt8) (h : c ≠ 125) (hm : mapB m c = false) : unR m (c :: r) = c :: unR m r := by cases r <;> simp [unR, h, hm]
theorem xor_back (c : UInt8) : (c ^^^ 32) ^^^ 32 = c := by rw [UInt8.xor_assoc, UInt8.xor_self, UInt8.xor_zero]
theorem escR_cons (m : Nat) (c : UInt8) (l : List UInt8) : escR m (c :: l) = escStep m c ++ escR m l := by simp [escR]
theorem escR_append (m : Nat) (a b : List UInt8) : escR m (a ++ b) = escR m a ++ escR m b := by simp [escR]
theorem mustB_no {m : Nat} {c : UInt8} (h : mustB m c = false) : c ≠ 126 ∧ c ≠ 125 ∧ mapB m c = false := by
  simp [mustB] at h; exact ⟨h.1.1, h.1.2, h.2⟩
theorem unR_escR (m : Nat) (l : List UInt8) : unR m (escR m l) = l := by
  induction l with
  | nil => simp [escR, unR]
  | cons c l ih =>
    rw [escR_cons]
    cases h : mustB m c with
    | true => rw [escStep, h]; show unR m (125 :: (c ^^^ 32) :: escR m l) = _; rw [unR_esc, xor_back, ih]
    | false =>
      obtain ⟨_, h5, hm⟩ := mustB_no h
      rw [escStep, h]; show unR m (c :: escR m l) = _; rw [unR_own _ h5 hm, ih]
set_option maxRecDepth 100000 in
theorem low_xor : ∀ n : Fin 256, n.val < 32 → (UInt8.ofNat n.val ^^^ 32).toNat = n.val + 32 := by decide
theorem low_xor' (c : UInt8) (h : c.toNat < 32) : (c ^^^ 32).toNat = c.toNat + 32 := by
  have := low_xor ⟨c.toNat, c.toNat_lt⟩ h
  simpa using this
theorem mapB_high {m : Nat} {c : UInt8} (h : 32 ≤ c.toNat) : mapB m c = false := by simp [mapB]; omega
/-- what stands for an escaped byte, behind the escape -/
theorem must_xor {m : Nat} {c : UInt8} (h : mustB m c = true) : 32 ≤ (c ^^^ 32).toNat ∧ (c ^^^ 32).toNat < 95 := by
  simp [mustB] at h
  rcases h with (h | h) | h
  · subst h; decide
  · subst h; decide
  · have h2 : c.toNat < 32 := by simp [mapB] at h; exact h.1
    rw [low_xor' c h2]; omega
theorem ne_of_toNat {a b : UInt8} (h : a.toNat ≠ b.toNat) : a ≠ b := fun e => h (by rw [e])
theorem escStep_mem {m : Nat} {c x : UInt8} (h : x ∈ escStep m c) : x ≠ 126 ∧ mapB m x = false := by
  cases hm : mustB m c with
  | true =>
    rw [escStep, hm] at h
    have := must_xor hm
    simp at h
    rcases h with h | h
    · subst h; exact ⟨by decide, mapB_high (by decide)⟩
    · subst h; exact ⟨ne_of_toNat (by show _ ≠ 126; omega), mapB_high this.1⟩
  | false =>
    rw [escStep, hm] at h
    simp at h
    subst h
    exact ⟨(mustB_no hm).1, (mustB_no hm).2.2⟩
theorem escR_mem {m : Nat} {l : List UInt8} {x : UInt8} (h : x ∈ escR m l) : x ≠ 126 ∧ mapB m x = false := by
  simp only [escR, List.mem_flatMap] at h
  obtain ⟨c, _, h⟩ := h
  exact escStep_mem h
theorem escStep_last (m : Nat) (c : UInt8) : (escStep m c).getLast? ≠ some 125 := by
  cases hm : mustB m c with
  | true =>
    have := must_xor hm
    rw [escStep, hm]
    simp
    exact ne_of_toNat (by show _ ≠ 125; omega)
  | false => rw [escStep, hm]; simp; exact (mustB_no hm).2.1
theorem escR_last (m : Nat) (l : List UInt8) : (escR m l).getLast? ≠ some 125 := by
  rcases List.eq_nil_or_concat l with h | ⟨l', c, h⟩
  · subst h; simp [escR]
  · subst h
    rw [List.concat_eq_append, escR_snoc, List.getLast?_append]
    have h1 := escStep_le m c
    have h2 := escStep_last m c
    cases hl : (escStep m c).getLast? with
    | none => rw [List.getLast?_eq_none_iff] at hl; rw [hl] at h1; simp at h1
    | some y => rw [hl] at h2; simpa using h2
theorem all_map : ∀ n : Fin 32, 4294967295 / 2 ^ n.val % 2 = 1 := by decide
theorem must_mono (m : Nat) (c : UInt8) : (mustB 0 c = true → mustB m c = true) ∧ (mustB m c = true → mustB 4294967295 c = true) := by
  constructor
  · intro h
    have : mapB 0 c = false := by simp [mapB]
    simp [mustB, this] at h
    rcases h with h | h <;> simp [mustB, h]
  · intro h
    simp [mustB] at h
    rcases h with (h | h) | h
    · simp [mustB, h]
    · simp [mustB, h]
    · have h2 : c.toNat < 32 := by simp [mapB] at h; exact h.1
      have : mapB 4294967295 c = true := by rw [mapB, all_map ⟨c.toNat, h2⟩]; simp [h2]
      simp [mustB, this]
theorem escStep_mono (m : Nat) (c : UInt8) : (escStep 0 c).length ≤ (escStep m c).length ∧ (escStep m c).length ≤ (escStep 4294967295 c).length := by
  obtain ⟨h1, h2⟩ := must_mono m c
  constructor
  · cases h : mustB 0 c with
    | true => rw [escStep, escStep, h, h1 h]; exact Nat.le_refl _
    | false => rw [escStep, h]; exact (escStep_le m c).1
  · cases h : mustB m c with
    | true => rw [escStep, escStep, h, h2 h]; exact Nat.le_refl _
    | false => rw [escStep, h]; exact (escStep_le 4294967295 c).1
theorem escR_mono (m : Nat) (l : List UInt8) : (escR 0 l).length ≤ (escR m l).length ∧ (escR m l).length ≤ (escR 4294967295 l).length := by
  induction l with
  | nil => simp [escR]
  | cons c l ih =>
    have := escStep_mono m c
    simp only [escR_cons, List.length_append]
    omega
theorem manyA_neg {m : Int} {l : List UInt8} (h : putOkB m l.length = false) : manyA m l = -1 := by simp [manyA, h]
theorem manyA_pos {m : Int} {l : List UInt8} (h : putOkB m l.length = true) : manyA m l = ((escR m.toNat l).length : Int) - l.length := by simp [manyA, h]
theorem many_between {m : Int} {l : List UInt8} (h : 0 ≤ manyA m l) : manyA 0 l ≤ manyA m l ∧ manyA m l ≤ manyA 4294967295 l ∧ manyA m l ≤ l.length := by
  cases hk : putOkB m l.length with
  | false => rw [manyA_neg hk] at h; omega
  | true =>
    have hl : l.length ≤ 600 := by simp [putOkB] at hk; omega
    rw [manyA_pos hk, manyA_pos (m := 0) (by simp [putOkB, mapOkB, hl]), manyA_pos (m := 4294967295) (by simp [putOkB, mapOkB, hl])]
    have h1 := escR_mono m.toNat l
    have h2 := escR_len m.toNat l
    refine ⟨?_, ?_, by omega⟩
    · show ((escR 0 l).length : Int) - _ ≤ _; omega
    · show _ ≤ ((escR 4294967295 l).length : Int) - _; omega
theorem manyA_le (m : Int) (l : List UInt8) (h : l.length ≤ 1000000) : -1 ≤ manyA m l ∧ manyA m l ≤ l.length := by
  unfold manyA; split
  · have := escR_len m.toNat l; omega
  · omega
end Go.Proofs.YtcegpcggdcgjbaaGreatDoor
/- EscapeGet of the program, where what it reads has no flag and no escape at its end. -/
namespace Go.Proofs.YtcegpcggdcgjbaaGreatDoor
open Go.ChangeShapes Go.WideShapes Go.ChangeAt Go.RowKit
theorem last_at (s : ByteArray) (h : 0 < s.size) : s.data.toList.getLast? = some s[s.size - 1] := by
  have : s.data.toList ≠ [] := by intro e; have := size_list s; rw [e] at this; simp at this; omega
  rw [List.getLast?_eq_getElem?, List.getElem?_eq_getElem (by simp; omega)]
  congr 1
set_option maxHeartbeats 1000000 in
theorem getOk_any (m : Nat) (s : ByteArray) (w : World) (hm : m ≤ 4294967295) (hs : s.size ≤ 1200) (h6 : (126 : UInt8) ∉ s.data.toList) (h5 : s.data.toList.getLast? ≠ some 125) :
    Calls Tryz.prog 179 #[.int .i64 m, .string s] w fun e w' => e = .returned (.bool true) ∧ w = w' := by
  have hk : mapOkB m = true := by simp [mapOkB]; omega
  have hidx : Lib.indexByte s.data.toList 126 = -1 := idx_none h6
  by_cases he : s.size = 0
  · have hse : s = ⟨#[]⟩ := by
      have : s.data = #[] := Array.eq_empty_of_size_eq_zero he
      cases s; simp at this; subst this; rfl
    subst hse
    go_enter Tryz.func179, Tryz.ntmps179
    go_wp2_with (first | (go_at_call 67; refine (mapOk_any _ _).mono ?_; rintro e w' ⟨rfl, hw⟩; obtain rfl := hw.symm) | (go_at_call 75; refine (idx_any _ _ _).mono ?_; rintro e w' ⟨rfl, rfl⟩))
    go_ret
    exact ⟨rfl, rfl⟩
  · obtain ⟨n, hn⟩ : ∃ n, n = s.size - 1 := ⟨_, rfl⟩
    have hnl : n < s.size := by omega
    have hlast : ¬ s[n].toNat = 125 := fun e => h5 (by rw [last_at s (by omega)]; congr 1; apply UInt8.toNat_inj.1; simp only [← hn]; exact e)
    have hb5 : ((s[n].toNat : Int) != 125) = true := by simp; omega
    have HS := Lib.hid hn
    have hsi : (s.size : Int) - 1 = (n : Int) := by omega
    clear hn
    go_enter Tryz.func179, Tryz.ntmps179
    go_wp2_with (first | (go_at_call 67; refine (mapOk_any _ _).mono ?_; rintro e w' ⟨rfl, hw⟩; obtain rfl := hw.symm) | (go_at_call 75; refine (idx_any _ _ _).mono ?_; rintro e w' ⟨rfl, rfl⟩))
    all_goals go_ret
    all_goals exact ⟨rfl, rfl⟩
theorem drop_at (s : ByteArray) (k : Nat) (h : k < s.size) : s.data.toList.drop k = s[k] :: s.data.toList.drop (k + 1) := by
  rw [List.drop_eq_getElem_cons (by simpa using h)]; rfl
set_option maxRecDepth 100000 in
set_option maxHeartbeats 4000000 in
theorem implEscGet_yes (m : Nat) (s : ByteArray) (w : World) (hm : m ≤ 4294967295) (hs : s.size ≤ 1200) (h6 : (126 : UInt8) ∉ s.data.toList) (h5 : s.data.toList.getLast? ≠ some 125) :
    Calls Tryz.prog 176 #[.int .i64 m, .string s] w fun e w' => e = .returned (.tuple #[.string ⟨(unR m s.data.toList).toArray⟩, .bool true]) ∧ Below w.heap.size w w' := by
  have HSL := Lib.hid (size_list s)
  have hz := zero_builderE
  have H6 := Lib.hid h6
  have H5 := Lib.hid h5
  clear h6 h5
  go_enter Tryz.func176, Tryz.ntmps176
  go_wp2_with (go_at_call 179; refine (getOk_any m s _ hm hs H6.out H5.out).mono ?_; rintro e w' ⟨rfl, rfl⟩)
  refine (mappedBy_make _ _).mono ?_
  rintro e w1 ⟨rfl, rfl⟩
  have HBX := Lib.hid (show ((w.alloc (.cells #[.pointer none, .slice none 0 0] 42)).alloc (.cells #[.int .i64 m] 3)).heap[w.heap.size + 1]? = some (.cells #[.int .i64 m] 3 (0, 0)) by
    have h := heap_alloc_new (w.alloc (.cells #[.pointer none, .slice none 0 0] 42)) (.cells #[.int .i64 m] 3)
    rw [World.size_alloc] at h
    exact h)
  have HBU := Lib.hid ((BU.fresh w).alloc (.cells #[.int .i64 m] 3))
  have HBel := Lib.hid (((Below.refl w.heap.size w).alloc (Nat.le_refl _) (.cells #[.pointer none, .slice none 0 0] 42)).alloc (by simp) (.cells #[.int .i64 m] 3))
  have hws : (w.alloc (.cells #[.pointer none, .slice none 0 0] 42)).heap.size = w.heap.size + 1 := by simp
  rw [hws]
  clear hz hws
  generalize (w.alloc (.cells #[.pointer none, .slice none 0 0] 42)).alloc (.cells #[.int .i64 m] 3) = w0 at *
  go_wp2
  go_loopw [8] (fun i wr => ∃ (k : Nat) (out : List UInt8), k ≤ s.size ∧ i = .int .i64 k ∧ wr.heap[w.heap.size + 1]? = some (.cells #[.int .i64 m] 3 (0, 0)) ∧ out.length ≤ k ∧ out ++ unR m (s.data.toList.drop k) = unR m s.data.toList ∧ BU wr w.heap.size w.heap.size out ∧ Below w.heap.size w wr) (fun i _ => s.size - (intOf i).toNat)
  case atStart => exact ⟨0, [], Nat.zero_le _, rfl, HBX.out, Nat.le_refl _, rfl, HBU.out, HBel.out⟩
  case round =>
    clear HBX HBU HBel
    obtain ⟨k, out, hk, rfl, hbx, hol, hun, hbu, hbel⟩ := hrel
    have HBX := Lib.hid hbx
    have HBU := Lib.hid hbu
    have HBel := Lib.hid hbel
    have HUN := Lib.hid hun
    have hsz := hbel.size
    have hcx : wr.cell? ⟨w.heap.size + 1, 0, none⟩ = some (.int .i64 m) := by rw [cell_of_row wr _ 0 _ _ _ hbx]; rfl
    have box : ∀ W, NB w.heap.size wr W → W.heap[w.heap.size + 1]? = some (.cells #[.int .i64 m] 3 (0, 0)) := fun W hn => by
      rw [hn.2 _ (Array.getElem?_eq_some_iff.1 hbx).1 (by omega) (fun cs fz he => by
        rw [hbx] at he; injection he with he; injection he with _ ht; exact absurd ht (by decide))]
      exact hbx
    have HBox := Lib.hid box
    clear hbx hbu hbel hun box
    by_cases hlt : k < s.size
    · have HD := Lib.hid (drop_at s k hlt)
      by_cases hc : s[k].toNat = 125
      · have hce : s[k] = 125 := by apply UInt8.toNat_inj.1; exact hc
        have hk1 : k + 1 < s.size := by
          rcases Nat.lt_or_ge (k + 1) s.size with h | h
          · exact h
          · exfalso
            apply H5.out
            rw [last_at s (by omega)]
            have e : s.size - 1 = k := by omega
            simp only [e, hce]
        have hb : ((s[k].toNat : Int) == 125) = true := by rw [beq_iff_eq]; omega
        have hx : bits .xor .u8 (s[k + 1].toNat : Int) 32 = ((s[k + 1] ^^^ 32).toNat : Int) := bits_xor_u8 s[k + 1] 32
        have HN := Lib.hid (show (out ++ [s[k + 1] ^^^ 32]) ++ unR m (s.data.toList.drop (k + 2)) = unR m s.data.toList by
          rw [← HUN.out, HD.out, drop_at s (k + 1) hk1, hce, unR_esc]; simp)
        have hki : IntKind.i64.wrap ((k : Int) + 1) = ((k + 1 : Nat) : Int) := by rw [IntKind.wrap_i64]; omega
        clear hc hce
        go_wp2_with fail
        refine (writeByte_any w.heap.size w.heap.size out (s[k + 1] ^^^ 32) _ HBU.out (by omega) (by omega)).mono ?_
        rintro e w3 ⟨rfl, hbu3, hbel3, hnb3⟩
        have HBU3 := Lib.hid hbu3
        have HBel3 := Lib.hid (HBel.out.trans hbel3)
        have HBX3 := Lib.hid (HBox.out _ hnb3)
        clear hbu3 hbel3 hnb3
        go_wp2
        go_roundw
        case rel => exact ⟨k + 2, out ++ [s[k + 1] ^^^ 32], by omega, by go_num, HBX3.out, by simp; omega, HN.out, HBU3.out, HBel3.out⟩
        case measure => simp [intOf]; omega
      · have hce : s[k] ≠ 125 := fun e => hc (by rw [e]; rfl)
        have hb : ((s[k].toNat : Int) == 125) = false := beq_eq_false_iff_ne.2 (by omega)
        cases hmb : mapB m s[k] with
        | true =>
          have HN := Lib.hid (show out ++ unR m (s.data.toList.drop (k + 1)) = unR m s.data.toList by
            rw [← HUN.out, HD.out, unR_map _ hce hmb])
          clear hc hce
          go_wp2_with fail
          refine (mapped_any m s[k] (w.heap.size + 1) wr hm hcx).mono ?_
          rintro e w1 ⟨rfl, hw⟩
          obtain rfl := hw.symm
          rw [hmb]
          go_wp2
          go_roundw
          case rel => exact ⟨k + 1, out, by omega, by go_num, HBX.out, by omega, HN.out, HBU.out, HBel.out⟩
          case measure => simp [intOf]; omega
        | false =>
          have HN := Lib.hid (show (out ++ [s[k]]) ++ unR m (s.data.toList.drop (k + 1)) = unR m s.data.toList by
            rw [← HUN.out, HD.out, unR_own _ hce hmb]; simp)
          clear hc hce
          go_wp2_with fail
          refine (mapped_any m s[k] (w.heap.size + 1) wr hm hcx).mono ?_
          rintro e w1 ⟨rfl, hw⟩
          obtain rfl := hw.symm
          rw [hmb]
          go_wp2_with fail
          refine (writeByte_any w.heap.size w.heap.size out s[k] _ HBU.out (by omega) (by omega)).mono ?_
          rintro e w3 ⟨rfl, hbu3, hbel3, hnb3⟩
          have HBU3 := Lib.hid hbu3
          have HBel3 := Lib.hid (HBel.out.trans hbel3)
          have HBX3 := Lib.hid (HBox.out _ hnb3)
          clear hbu3 hbel3 hnb3
          go_wp2
          go_roundw
          case rel => exact ⟨k + 1, out ++ [s[k]], by omega, by go_num, HBX3.out, by simp; omega, HN.out, HBU3.out, HBel3.out⟩
          case measure => simp [intOf]; omega
    · have HE := Lib.hid (show out = unR m s.data.toList by
        have h := HUN.out
        rw [List.drop_eq_nil_of_le (by rw [HSL.out]; omega)] at h
        simpa [unR] using h)
      go_wp2_with fail
      refine (string_any _ _ _ _ HBU.out (by omega)).mono ?_
      rintro e w1 ⟨rfl, hb1⟩
      have HB1 := Lib.hid (HBel.out.trans hb1)
      clear hb1
      go_wp2
      go_ret2
      exact ⟨by rw [HE.out]; rfl, HB1.out⟩
end Go.Proofs.YtcegpcggdcgjbaaGreatDoor
