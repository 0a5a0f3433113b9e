/- Which bytes are escaped, in the program: the closures that tell it. -/
import Derived.Test.YtfojlpnnhghcbaaKitA
import Derived.Laws.EntriesVeiled
namespace Go.Proofs.Ytfojlpnnhghcbaa
open Go.ChangeShapes Go.WideShapes Go.ChangeAt Go.RowKit
def mapB (m : Nat) (c : UInt8) : Bool := decide (c.toNat < 32) && decide (m / 2 ^ c.toNat % 2 = 1)
def mustB (m : Nat) (c : UInt8) : Bool := decide (c = 126) || decide (c = 125) || mapB m c
def escStep (m : Nat) (c : UInt8) : List UInt8 := if mustB m c = true then [125, c ^^^ 32] else [c]
def escR (m : Nat) (l : List UInt8) : List UInt8 := l.flatMap (escStep m)
def mapOkB (m : Int) : Bool := decide (0 ≤ m) && decide (m ≤ 4294967295)
theorem escR_snoc (m : Nat) (l : List UInt8) (c : UInt8) : escR m (l ++ [c]) = escR m l ++ escStep m c := by simp [escR]
theorem escStep_le (m : Nat) (c : UInt8) : 1 ≤ (escStep m c).length ∧ (escStep m c).length ≤ 2 := by unfold escStep; split <;> simp
theorem escR_len (m : Nat) (l : List UInt8) : l.length ≤ (escR m l).length ∧ (escR m l).length ≤ 2 * l.length := by
  induction l with
  | nil => simp [escR]
  | cons c l ih =>
    have := escStep_le m c
    have h : escR m (c :: l) = escStep m c ++ escR m l := by simp [escR]
    rw [h, List.length_append, List.length_cons]; omega
theorem bits_and1_i64 (a : Nat) (ha : a < 9223372036854775808) : bits .and .i64 (a : Int) 1 = ((a % 2 : Nat) : Int) := by
  have h1 : (BitVec.ofInt 64 (a : Int)).toNat = a := by
    rw [BitVec.ofInt_natCast, BitVec.toNat_ofNat]; exact Nat.mod_eq_of_lt (by omega)
  have h2 : (BitVec.ofInt 64 (1 : Int)).toNat = 1 := by decide
  show IntKind.i64.wrap ((BitVec.ofInt 64 (a : Int) &&& BitVec.ofInt 64 (1 : Int)).toNat : Int) = _
  rw [BitVec.toNat_and, h1, h2, Nat.and_one_is_mod, IntKind.wrap_i64]
  omega
theorem bits_xor_u8 (c d : UInt8) : bits .xor .u8 (c.toNat : Int) (d.toNat : Int) = ((c ^^^ d).toNat : Int) := by
  have hc := c.toNat_lt
  have hd := d.toNat_lt
  have h1 : (BitVec.ofInt 8 (c.toNat : Int)).toNat = c.toNat := by
    rw [BitVec.ofInt_natCast, BitVec.toNat_ofNat]; exact Nat.mod_eq_of_lt (by omega)
  have h2 : (BitVec.ofInt 8 (d.toNat : Int)).toNat = d.toNat := by
    rw [BitVec.ofInt_natCast, BitVec.toNat_ofNat]; exact Nat.mod_eq_of_lt (by omega)
  have hx : (c ^^^ d).toNat < 256 := (c ^^^ d).toNat_lt
  show IntKind.u8.wrap ((BitVec.ofInt 8 (c.toNat : Int) ^^^ BitVec.ofInt 8 (d.toNat : Int)).toNat : Int) = _
  rw [BitVec.toNat_xor, h1, h2, ← UInt8.toNat_xor, IntKind.wrap_u8]
  omega
theorem mapped_any (m : Nat) (c : UInt8) (x : Nat) (w : World) (hm : m ≤ 4294967295) (hx : w.cell? ⟨x, 0, none⟩ = some (.int .i64 m)) :
    Calls Try.prog 129 #[.int .u8 c.toNat, .pointer (some ⟨x, 0, none⟩)] w fun e w' => e = .returned (.bool (mapB m c)) ∧ w' = w := by
  by_cases h32 : c.toNat < 32
  · obtain ⟨q, hq⟩ : ∃ q, q = m / 2 ^ c.toNat := ⟨_, rfl⟩
    have hql : q ≤ 4294967295 := by rw [hq]; exact Nat.le_trans (Nat.div_le_self _ _) hm
    have hqi : (m : Int) / 2 ^ c.toNat = (q : Int) := by rw [hq]; simp
    have HV := Lib.hid (show mapB m c = decide (q % 2 = 1) by simp [mapB, h32, hq])
    have hand := bits_and1_i64 q (by omega)
    generalize q % 2 = r at *
    clear hq
    go_enter Try.func129, Try.ntmps129
    go_wp2
    go_ret
    refine ⟨?_, rfl⟩
    rw [HV.out]
    show Ending.returned (.bool ((r : Int) == 1)) = _
    congr 2
    rw [Bool.eq_iff_iff]; simp; omega
  · have HV := Lib.hid (show mapB m c = false by simp [mapB, h32])
    go_enter Try.func129, Try.ntmps129
    go_wp2
    go_ret
    exact ⟨by rw [HV.out]; rfl, rfl⟩
theorem escaped_any (m : Nat) (c : UInt8) (x y : Nat) (w : World) (hm : m ≤ 4294967295) (hx : w.cell? ⟨x, 0, none⟩ = some (.int .i64 m))
    (hy : w.cell? ⟨y, 0, none⟩ = some (.func (.func 129) #[] #[.pointer (some ⟨x, 0, none⟩)])) :
    Calls Try.prog 131 #[.int .u8 c.toNat, .pointer (some ⟨y, 0, none⟩)] w fun e w' => e = .returned (.bool (mustB m c)) ∧ w' = w := by
  by_cases h6 : c = 126
  · have hb : ((c.toNat : Int) == 126) = true := by rw [h6]; rfl
    have HV := Lib.hid (show mustB m c = true by simp [mustB, h6])
    clear h6
    go_enter Try.func131, Try.ntmps131
    go_wp2
    go_ret
    exact ⟨by rw [HV.out]; rfl, rfl⟩
  · have hb : ((c.toNat : Int) == 126) = false := beq_eq_false_iff_ne.2 (fun h => h6 (by apply UInt8.toNat_inj.1; show c.toNat = 126; omega))
    by_cases h5 : c = 125
    · have hb5 : ((c.toNat : Int) == 125) = true := by rw [h5]; rfl
      have HV := Lib.hid (show mustB m c = true by simp [mustB, h5])
      clear h5 h6
      go_enter Try.func131, Try.ntmps131
      go_wp2
      go_ret
      exact ⟨by rw [HV.out]; rfl, rfl⟩
    · have hb5 : ((c.toNat : Int) == 125) = false := beq_eq_false_iff_ne.2 (fun h => h5 (by apply UInt8.toNat_inj.1; show c.toNat = 125; omega))
      have HV := Lib.hid (show mustB m c = mapB m c by simp [mustB, h5, h6])
      clear h5 h6
      go_enter Try.func131, Try.ntmps131
      go_wp2_with fail
      refine (mapped_any m c x w hm hx).mono ?_
      rintro e w' ⟨rfl, rfl⟩
      go_wp2
      go_ret
      exact ⟨by rw [HV.out]; rfl, rfl⟩
theorem mappedBy_make (m : Nat) (w : World) :
    Calls Try.prog 124 #[.int .i64 m] w fun e w' => e = .returned (.func (.func 129) #[] #[.pointer (some ⟨w.heap.size, 0, none⟩)]) ∧ w' = w.alloc (.cells #[.int .i64 m] 3) := by
  have hmf : ∀ (fn : Fn) (first cap : Array Value) (w : World), (Instr.makeFunc fn first cap).run Try.prog w = .ok (.func fn first cap) w := fun _ _ _ _ => rfl
  go_enter Try.func124, Try.ntmps124
  go_wp2
  go_ret
  exact ⟨rfl, rfl⟩
/-- the closure that tells whether a byte is escaped, and its two boxes, none of them the block b -/
def EB (w : World) (b : Nat) (f : Value) (m : Nat) : Prop := ∃ x y, f = .func (.func 131) #[] #[.pointer (some ⟨y, 0, none⟩)] ∧ x ≠ b ∧ y ≠ b ∧ w.heap[x]? = some (.cells #[.int .i64 m] 3 (0, 0)) ∧ w.heap[y]? = some (.cells #[.func (.func 129) #[] #[.pointer (some ⟨x, 0, none⟩)]] 141 (0, 0))
theorem EB.kept {w w' : World} {b : Nat} {f : Value} {m : Nat} (h : EB w b f m) (hn : NB b w w') : EB w' b f m := by
  obtain ⟨x, y, hf, hxb, hyb, hx, hy⟩ := h
  refine ⟨x, y, hf, hxb, hyb, ?_, ?_⟩
  · rw [hn.2 x (Array.getElem?_eq_some_iff.1 hx).1 hxb (fun cs fz he => by
      rw [hx] at he; injection he with he; injection he with _ ht; exact absurd ht (by decide))]
    exact hx
  · rw [hn.2 y (Array.getElem?_eq_some_iff.1 hy).1 hyb (fun cs fz he => by
      rw [hy] at he; injection he with he; injection he with _ ht; exact absurd ht (by decide))]
    exact hy
theorem EB.call {w : World} {b : Nat} {f : Value} {m : Nat} (h : EB w b f m) : ∃ x y, f = .func (.func 131) #[] #[.pointer (some ⟨y, 0, none⟩)] ∧ w.cell? ⟨x, 0, none⟩ = some (.int .i64 m) ∧ w.cell? ⟨y, 0, none⟩ = some (.func (.func 129) #[] #[.pointer (some ⟨x, 0, none⟩)]) := by
  obtain ⟨x, y, hf, hxb, hyb, hx, hy⟩ := h
  exact ⟨x, y, hf, by rw [cell_of_row w x 0 _ _ _ hx]; rfl, by rw [cell_of_row w y 0 _ _ _ hy]; rfl⟩
theorem zero_byteTest (w : World) : (zeroValue 141).run Try.prog w = .ok .nilFunc w := by kernel_rfl
theorem escapedBy_make (m : Nat) (w : World) :
    Calls Try.prog 128 #[.int .i64 m] w fun e w' => ∃ f o1 o2, e = .returned f ∧ w' = (w.alloc o1).alloc o2 ∧ (∀ b, b < w.heap.size → EB w' b f m) := by
  have hz := zero_byteTest
  have hmf : ∀ (fn : Fn) (first cap : Array Value) (w : World), (Instr.makeFunc fn first cap).run Try.prog w = .ok (.func fn first cap) w := fun _ _ _ _ => rfl
  go_enter Try.func128, Try.ntmps128
  go_wp2_with (go_at_call 124; refine (mappedBy_make _ _).mono ?_; rintro e w' ⟨rfl, rfl⟩)
  go_ret
  refine ⟨_, _, _, rfl, rfl, fun b hb => ⟨w.heap.size, w.heap.size + 1, rfl, by omega, by omega, ?_, ?_⟩⟩
  · rw [Below.heap_alloc _ _ _ (by simp)]; exact heap_alloc_new _ _
  · exact (by simpa using heap_alloc_new (w.alloc (.cells #[.int .i64 m] 3)) _)
theorem BU.alloc {w : World} {B b : Nat} {l : List UInt8} (h : BU w B b l) (o : Obj) : BU (w.alloc o) B b l := by
  obtain ⟨h1, p, v, hb, hp, hrb⟩ := h
  exact ⟨h1, p, v, (Below.heap_alloc w _ _ (BU.lt ⟨h1, p, v, hb, hp, hrb⟩)).trans hb, hp, hrb.alloc _⟩
theorem mapOkB_yes {m : Int} (h : mapOkB m = true) : 0 ≤ m ∧ m ≤ 4294967295 := by simpa [mapOkB] using h
theorem mapOk_any (m : Int) (w : World) :
    Calls Try.prog 79 #[.int .i64 m] w fun e w' => e = .returned (.bool (mapOkB m)) ∧ w' = w := by
  by_cases h0 : 0 ≤ m
  · by_cases h1 : m ≤ 4294967295
    · have HV := Lib.hid (show mapOkB m = true by simp [mapOkB, h0, h1])
      go_enter Try.func79, Try.ntmps79
      go_wp2
      go_ret
      exact ⟨by rw [HV.out]; rfl, rfl⟩
    · have HV := Lib.hid (show mapOkB m = false by simp [mapOkB, h1])
      go_enter Try.func79, Try.ntmps79
      go_wp2
      go_ret
      exact ⟨by rw [HV.out]; rfl, rfl⟩
  · have HV := Lib.hid (show mapOkB m = false by simp [mapOkB, h0])
    go_enter Try.func79, Try.ntmps79
    go_wp2
    go_ret
    exact ⟨by rw [HV.out]; rfl, rfl⟩
def putOkB (m : Int) (n : Nat) : Bool := mapOkB m && decide (n ≤ 600)
theorem putOk_any (m : Int) (s : ByteArray) (w : World) :
    Calls Try.prog 127 #[.int .i64 m, .string s] w fun e w' => e = .returned (.bool (putOkB m s.size)) ∧ w' = w := by
  cases hk : mapOkB m with
  | false =>
    have HV := Lib.hid (show putOkB m s.size = false by simp [putOkB, hk])
    go_enter Try.func127, Try.ntmps127
    go_wp2_with (go_at_call 79; refine (mapOk_any _ _).mono ?_; rintro e w' ⟨rfl, rfl⟩)
    go_ret
    exact ⟨by rw [HV.out]; rfl, rfl⟩
  | true =>
    have HV := Lib.hid (show putOkB m s.size = decide ((s.size : Int) ≤ 600) by rw [putOkB, hk, Bool.true_and, decide_eq_decide]; omega)
    go_enter Try.func127, Try.ntmps127
    go_wp2_with (go_at_call 79; refine (mapOk_any _ _).mono ?_; rintro e w' ⟨rfl, rfl⟩)
    go_ret
    exact ⟨by rw [HV.out]; rfl, rfl⟩
end Go.Proofs.Ytfojlpnnhghcbaa
