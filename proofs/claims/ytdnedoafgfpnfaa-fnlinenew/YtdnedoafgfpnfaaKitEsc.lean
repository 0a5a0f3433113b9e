/- Which bytes are escaped, in the program: the closures that tell it. -/
import Derived.Test.YtdnedoafgfpnfaaKitA
import Derived.Laws.EntriesVeiled
import Derived.Test.YtdnedoafgfpnfaaKitBits
import Derived.Test.YtdnedoafgfpnfaaKitSum
import Derived.Test.YtdnedoafgfpnfaaIdx
namespace Go.Proofs.Ytdnedoafgfpnfaa
open Go.ChangeShapes Go.WideShapes Go.ChangeAt Go.RowKit
def mapB (m : Nat) (c : UInt8) : Bool := decide (c.toNat < 32) && decide (m / 2 ^ c.toNat % 2 = 1)
def mustB (m : Nat) (c : UInt8) : Bool := decide (c = 126) || decide (c = 125) || mapB m c
def escStep (m : Nat) (c : UInt8) : List UInt8 := if mustB m c = true then [125, c ^^^ 32] else [c]
def escR (m : Nat) (l : List UInt8) : List UInt8 := l.flatMap (escStep m)
def mapOkB (m : Int) : Bool := decide (0 ≤ m) && decide (m ≤ 4294967295)
theorem escR_snoc (m : Nat) (l : List UInt8) (c : UInt8) : escR m (l ++ [c]) = escR m l ++ escStep m c := by simp [escR]
theorem escStep_le (m : Nat) (c : UInt8) : 1 ≤ (escStep m c).length ∧ (escStep m c).length ≤ 2 := by unfold escStep; split <;> simp
theorem escR_len (m : Nat) (l : List UInt8) : l.length ≤ (escR m l).length ∧ (escR m l).length ≤ 2 * l.length := by
  induction l with
  | nil => simp [escR]
  | cons c l ih =>
    have := escStep_le m c
    have h : escR m (c :: l) = escStep m c ++ escR m l := by simp [escR]
    rw [h, List.length_append, List.length_cons]; omega
theorem bits_and1_i64 (a : Nat) (ha : a < 9223372036854775808) : bits .and .i64 (a : Int) 1 = ((a % 2 : Nat) : Int) := by
  have h1 : (BitVec.ofInt 64 (a : Int)).toNat = a := by
    rw [BitVec.ofInt_natCast, BitVec.toNat_ofNat]; exact Nat.mod_eq_of_lt (by omega)
  have h2 : (BitVec.ofInt 64 (1 : Int)).toNat = 1 := by decide
  show IntKind.i64.wrap ((BitVec.ofInt 64 (a : Int) &&& BitVec.ofInt 64 (1 : Int)).toNat : Int) = _
  rw [BitVec.toNat_and, h1, h2, Nat.and_one_is_mod, IntKind.wrap_i64]
  omega
theorem bits_xor_u8 (c d : UInt8) : bits .xor .u8 (c.toNat : Int) (d.toNat : Int) = ((c ^^^ d).toNat : Int) := by
  have hc := c.toNat_lt
  have hd := d.toNat_lt
  have h1 : (BitVec.ofInt 8 (c.toNat : Int)).toNat = c.toNat := by
    rw [BitVec.ofInt_natCast, BitVec.toNat_ofNat]; exact Nat.mod_eq_of_lt (by omega)
  have h2 : (BitVec.ofInt 8 (d.toNat : Int)).toNat = d.toNat := by
    rw [BitVec.ofInt_natCast, BitVec.toNat_ofNat]; exact Nat.mod_eq_of_lt (by omega)
  have hx : (c ^^^ d).toNat < 256 := (c ^^^ d).toNat_lt
  show IntKind.u8.wrap ((BitVec.ofInt 8 (c.toNat : Int) ^^^ BitVec.ofInt 8 (d.toNat : Int)).toNat : Int) = _
  rw [BitVec.toNat_xor, h1, h2, ← UInt8.toNat_xor, IntKind.wrap_u8]
  omega
theorem mapOkB_yes {m : Int} (h : mapOkB m = true) : 0 ≤ m ∧ m ≤ 4294967295 := by simpa [mapOkB] using h
theorem mapOk_any (m : Int) (w : World) :
    Calls Try.prog 66 #[.int .i64 m] w fun e w' => e = .returned (.bool (mapOkB m)) ∧ w' = w := by
  by_cases h0 : 0 ≤ m
  · by_cases h1 : m ≤ 4294967295
    · have HV := Lib.hid (show mapOkB m = true by simp [mapOkB, h0, h1])
      go_enter Try.func66, Try.ntmps66
      go_wp2
      go_ret
      exact ⟨by rw [HV.out]; rfl, rfl⟩
    · have HV := Lib.hid (show mapOkB m = false by simp [mapOkB, h1])
      go_enter Try.func66, Try.ntmps66
      go_wp2
      go_ret
      exact ⟨by rw [HV.out]; rfl, rfl⟩
  · have HV := Lib.hid (show mapOkB m = false by simp [mapOkB, h0])
    go_enter Try.func66, Try.ntmps66
    go_wp2
    go_ret
    exact ⟨by rw [HV.out]; rfl, rfl⟩
def putOkB (m : Int) (n : Nat) : Bool := mapOkB m && decide (n ≤ 600)
end Go.Proofs.Ytdnedoafgfpnfaa
/- EscapePut and EscapeMany, in the program. -/
namespace Go.Proofs.Ytdnedoafgfpnfaa
open Go.ChangeShapes Go.WideShapes Go.ChangeAt Go.RowKit
def escA (m : Int) (l : List UInt8) : List UInt8 := if putOkB m l.length = true then escR m.toNat l else []
def manyA (m : Int) (l : List UInt8) : Int := if putOkB m l.length = true then ((escR m.toNat l).length : Int) - l.length else -1
end Go.Proofs.Ytdnedoafgfpnfaa
/- EscapeMany in the program; EscapePut and EscapeMany in the model. -/
namespace Go.Proofs.Ytdnedoafgfpnfaa
open Go.ChangeShapes Go.WideShapes Go.ChangeAt Go.RowKit
theorem escA_len (m : Int) (l : List UInt8) : (escA m l).length ≤ 1200 := by
  unfold escA; split
  · rename_i h
    have := (escR_len m.toNat l).2
    have hl : l.length ≤ 600 := by simp [putOkB] at h; omega
    omega
  · simp
theorem l5Map_any (m : Int) (w : World) :
    Calls Try.prog 54 #[.int .i64 m] w fun e w' => e = .returned (.bool (mapOkB m)) ∧ w = w' := by
  go_enter Try.func54, Try.ntmps54
  go_wp2_with (go_at_call 52; refine (l1In_any _ _ _ _).mono ?_; rintro e w' ⟨rfl, rfl⟩)
  go_ret
  exact ⟨rfl, rfl⟩
theorem two_new (w : World) (e : TypeId) (a b : UInt8) (u v : Value) (hu : byteV a = u) (hv : byteV b = v) : ∀ j z, ([a, b].map byteV)[j]? = some z → (w.alloc (.cells #[u, v] e)).cell? ((⟨w.heap.size, 0, none⟩ : Addr).add j) = some z := by
  intro j z hz
  match j, hz with
  | 0, hz => simp at hz; subst hz; simp [Addr.add, hu]
  | 1, hz => simp at hz; subst hz; simp [Addr.add, hv]
end Go.Proofs.Ytdnedoafgfpnfaa
/- Plain facts on escaping: read back, nothing special in it, of two pieces both, a greater map escapes more. -/
namespace Go.Proofs.Ytdnedoafgfpnfaa
open Go.ChangeShapes Go.WideShapes Go.ChangeAt Go.RowKit
def unR (m : Nat) : List UInt8 → List UInt8
  | [] => []
  | [c] => if c = 125 then [] else if mapB m c = true then [] else [c]
  | c :: d :: r => if c = 125 then (d ^^^ 32) :: unR m r else if mapB m c = true then unR m (d :: r) else c :: unR m (d :: r)
theorem unR_esc (m : Nat) (d : UInt8) (r : List UInt8) : unR m (125 :: d :: r) = (d ^^^ 32) :: unR m r := by simp [unR]
theorem unR_map {m : Nat} {c : UInt8} (r : List UInt8) (h : c ≠ 125) (hm : mapB m c = true) : unR m (c :: r) = unR m r := by cases r <;> simp [unR, h, hm]
theorem unR_own {m : Nat} {c : UInt8} (r : List UInt8) (h : c ≠ 125) (hm : mapB m c = false) : unR m (c :: r) = c :: unR m r := by cases r <;> simp [unR, h, hm]
theorem xor_back (c : UInt8) : (c ^^^ 32) ^^^ 32 = c := by rw [UInt8.xor_assoc, UInt8.xor_self, UInt8.xor_zero]
theorem escR_cons (m : Nat) (c : UInt8) (l : List UInt8) : escR m (c :: l) = escStep m c ++ escR m l := by simp [escR]
theorem escR_append (m : Nat) (a b : List UInt8) : escR m (a ++ b) = escR m a ++ escR m b := by simp [escR]
theorem mustB_no {m : Nat} {c : UInt8} (h : mustB m c = false) : c ≠ 126 ∧ c ≠ 125 ∧ mapB m c = false := by
  simp [mustB] at h; exact ⟨h.1.1, h.1.2, h.2⟩
theorem unR_escR (m : Nat) (l : List UInt8) : unR m (escR m l) = l := by
  induction l with
  | nil => simp [escR, unR]
  | cons c l ih =>
    rw [escR_cons]
    cases h : mustB m c with
    | true => rw [escStep, h]; show unR m (125 :: (c ^^^ 32) :: escR m l) = _; rw [unR_esc, xor_back, ih]
    | false =>
      obtain ⟨_, h5, hm⟩ := mustB_no h
      rw [escStep, h]; show unR m (c :: escR m l) = _; rw [unR_own _ h5 hm, ih]
set_option maxRecDepth 100000 in
theorem low_xor : ∀ n : Fin 256, n.val < 32 → (UInt8.ofNat n.val ^^^ 32).toNat = n.val + 32 := by decide
theorem low_xor' (c : UInt8) (h : c.toNat < 32) : (c ^^^ 32).toNat = c.toNat + 32 := by
  have := low_xor ⟨c.toNat, c.toNat_lt⟩ h
  simpa using this
theorem mapB_high {m : Nat} {c : UInt8} (h : 32 ≤ c.toNat) : mapB m c = false := by simp [mapB]; omega
/-- what stands for an escaped byte, behind the escape -/
theorem must_xor {m : Nat} {c : UInt8} (h : mustB m c = true) : 32 ≤ (c ^^^ 32).toNat ∧ (c ^^^ 32).toNat < 95 := by
  simp [mustB] at h
  rcases h with (h | h) | h
  · subst h; decide
  · subst h; decide
  · have h2 : c.toNat < 32 := by simp [mapB] at h; exact h.1
    rw [low_xor' c h2]; omega
theorem ne_of_toNat {a b : UInt8} (h : a.toNat ≠ b.toNat) : a ≠ b := fun e => h (by rw [e])
theorem escStep_mem {m : Nat} {c x : UInt8} (h : x ∈ escStep m c) : x ≠ 126 ∧ mapB m x = false := by
  cases hm : mustB m c with
  | true =>
    rw [escStep, hm] at h
    have := must_xor hm
    simp at h
    rcases h with h | h
    · subst h; exact ⟨by decide, mapB_high (by decide)⟩
    · subst h; exact ⟨ne_of_toNat (by show _ ≠ 126; omega), mapB_high this.1⟩
  | false =>
    rw [escStep, hm] at h
    simp at h
    subst h
    exact ⟨(mustB_no hm).1, (mustB_no hm).2.2⟩
theorem escR_mem {m : Nat} {l : List UInt8} {x : UInt8} (h : x ∈ escR m l) : x ≠ 126 ∧ mapB m x = false := by
  simp only [escR, List.mem_flatMap] at h
  obtain ⟨c, _, h⟩ := h
  exact escStep_mem h
theorem escStep_last (m : Nat) (c : UInt8) : (escStep m c).getLast? ≠ some 125 := by
  cases hm : mustB m c with
  | true =>
    have := must_xor hm
    rw [escStep, hm]
    simp
    exact ne_of_toNat (by show _ ≠ 125; omega)
  | false => rw [escStep, hm]; simp; exact (mustB_no hm).2.1
theorem escR_last (m : Nat) (l : List UInt8) : (escR m l).getLast? ≠ some 125 := by
  rcases List.eq_nil_or_concat l with h | ⟨l', c, h⟩
  · subst h; simp [escR]
  · subst h
    rw [List.concat_eq_append, escR_snoc, List.getLast?_append]
    have h1 := escStep_le m c
    have h2 := escStep_last m c
    cases hl : (escStep m c).getLast? with
    | none => rw [List.getLast?_eq_none_iff] at hl; rw [hl] at h1; simp at h1
    | some y => rw [hl] at h2; simpa using h2
theorem all_map : ∀ n : Fin 32, 4294967295 / 2 ^ n.val % 2 = 1 := by decide
theorem must_mono (m : Nat) (c : UInt8) : (mustB 0 c = true → mustB m c = true) ∧ (mustB m c = true → mustB 4294967295 c = true) := by
  constructor
  · intro h
    have : mapB 0 c = false := by simp [mapB]
    simp [mustB, this] at h
    rcases h with h | h <;> simp [mustB, h]
  · intro h
    simp [mustB] at h
    rcases h with (h | h) | h
    · simp [mustB, h]
    · simp [mustB, h]
    · have h2 : c.toNat < 32 := by simp [mapB] at h; exact h.1
      have : mapB 4294967295 c = true := by rw [mapB, all_map ⟨c.toNat, h2⟩]; simp [h2]
      simp [mustB, this]
theorem escStep_mono (m : Nat) (c : UInt8) : (escStep 0 c).length ≤ (escStep m c).length ∧ (escStep m c).length ≤ (escStep 4294967295 c).length := by
  obtain ⟨h1, h2⟩ := must_mono m c
  constructor
  · cases h : mustB 0 c with
    | true => rw [escStep, escStep, h, h1 h]; exact Nat.le_refl _
    | false => rw [escStep, h]; exact (escStep_le m c).1
  · cases h : mustB m c with
    | true => rw [escStep, escStep, h, h2 h]; exact Nat.le_refl _
    | false => rw [escStep, h]; exact (escStep_le 4294967295 c).1
theorem escR_mono (m : Nat) (l : List UInt8) : (escR 0 l).length ≤ (escR m l).length ∧ (escR m l).length ≤ (escR 4294967295 l).length := by
  induction l with
  | nil => simp [escR]
  | cons c l ih =>
    have := escStep_mono m c
    simp only [escR_cons, List.length_append]
    omega
theorem manyA_neg {m : Int} {l : List UInt8} (h : putOkB m l.length = false) : manyA m l = -1 := by simp [manyA, h]
theorem manyA_pos {m : Int} {l : List UInt8} (h : putOkB m l.length = true) : manyA m l = ((escR m.toNat l).length : Int) - l.length := by simp [manyA, h]
theorem many_between {m : Int} {l : List UInt8} (h : 0 ≤ manyA m l) : manyA 0 l ≤ manyA m l ∧ manyA m l ≤ manyA 4294967295 l ∧ manyA m l ≤ l.length := by
  cases hk : putOkB m l.length with
  | false => rw [manyA_neg hk] at h; omega
  | true =>
    have hl : l.length ≤ 600 := by simp [putOkB] at hk; omega
    rw [manyA_pos hk, manyA_pos (m := 0) (by simp [putOkB, mapOkB, hl]), manyA_pos (m := 4294967295) (by simp [putOkB, mapOkB, hl])]
    have h1 := escR_mono m.toNat l
    have h2 := escR_len m.toNat l
    refine ⟨?_, ?_, by omega⟩
    · show ((escR 0 l).length : Int) - _ ≤ _; omega
    · show _ ≤ ((escR 4294967295 l).length : Int) - _; omega
theorem manyA_le (m : Int) (l : List UInt8) (h : l.length ≤ 1000000) : -1 ≤ manyA m l ∧ manyA m l ≤ l.length := by
  unfold manyA; split
  · have := escR_len m.toNat l; omega
  · omega
end Go.Proofs.Ytdnedoafgfpnfaa
/- EscapeGet of the program, where what it reads has no flag and no escape at its end. -/
namespace Go.Proofs.Ytdnedoafgfpnfaa
open Go.ChangeShapes Go.WideShapes Go.ChangeAt Go.RowKit
theorem last_at (s : ByteArray) (h : 0 < s.size) : s.data.toList.getLast? = some s[s.size - 1] := by
  have : s.data.toList ≠ [] := by intro e; have := size_list s; rw [e] at this; simp at this; omega
  rw [List.getLast?_eq_getElem?, List.getElem?_eq_getElem (by simp; omega)]
  congr 1
theorem drop_at (s : ByteArray) (k : Nat) (h : k < s.size) : s.data.toList.drop k = s[k] :: s.data.toList.drop (k + 1) := by
  rw [List.drop_eq_getElem_cons (by simpa using h)]; rfl
end Go.Proofs.Ytdnedoafgfpnfaa
