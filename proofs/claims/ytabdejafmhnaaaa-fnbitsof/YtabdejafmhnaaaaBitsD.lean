/- Contracts of BitsTo in the program and in the model. -/
import Derived.Test.YtabdejafmhnaaaaBitsC
import Derived.RegionTactic
import Derived.Laws.MakeOwn
namespace Go.Proofs.Ytabdejafmhnaaaa
open Go.ChangeShapes Go.WideShapes Go.ChangeAt Go.RowKit

def bitN (b : UInt8) : Nat := if b = 49 then 1 else 0
/-- bits as a number, the lowest first -/
def octN : List UInt8 → Nat
  | [] => 0
  | b :: l => bitN b + 2 * octN l
theorem octN_lt (l : List UInt8) : octN l < 2 ^ l.length := by
  induction l with
  | nil => simp [octN]
  | cons b l ih =>
    have : bitN b ≤ 1 := by unfold bitN; split <;> omega
    simp only [octN, List.length_cons, Nat.pow_succ]; omega
theorem octN_snoc (l : List UInt8) (b : UInt8) : octN (l ++ [b]) = octN l + bitN b * 2 ^ l.length := by
  induction l with
  | nil => simp [octN]
  | cons a l ih =>
    simp only [List.cons_append, octN, ih, List.length_cons, Nat.pow_succ]
    rw [Nat.mul_add, Nat.add_assoc]
    congr 2
    rw [← Nat.mul_assoc, Nat.mul_comm 2, Nat.mul_assoc, Nat.mul_comm 2]
/-- the byte of the m-th eight bits -/
def octAt (l : List UInt8) (m : Nat) : UInt8 := UInt8.ofNat (octN ((l.drop (8 * m)).take 8))
def toL (l : List UInt8) : List UInt8 := (List.range (l.length / 8)).map (octAt l)

theorem bit_val {s : ByteArray} {k : Nat} (hk : k < s.size) (h : s[k] = 48 ∨ s[k] = 49) : ((s[k].toNat : Int) - 48) % 256 = bitN s[k] := by
  rcases h with h | h <;> rw [h] <;> decide
theorem drop_cons (s : ByteArray) (k : Nat) (h : k < s.size) : s.data.toList.drop k = s[k] :: s.data.toList.drop (k + 1) := by
  rw [List.drop_eq_getElem_cons (by simpa using h)]; rfl

/-- the tail of an octet: j of its highest bits -/
theorem oct_step (s : ByteArray) (i j : Nat) (hj : j < 8) (h : i + 8 ≤ s.size) :
    octN ((s.data.toList.drop (i + (7 - j))).take (j + 1)) = bitN (s[i + (7 - j)]'(by omega)) + 2 * octN ((s.data.toList.drop (i + (8 - j))).take j) := by
  rw [drop_cons s (i + (7 - j)) (by omega), List.take_succ_cons, octN, show i + (7 - j) + 1 = i + (8 - j) by omega]

set_option maxHeartbeats 2000000 in
theorem l2To_any (s : ByteArray) (w : World) (h : okB s.data.toList = true) :
    Calls Try.prog 50 #[.string s] w fun e w' => e = .returned (.string ⟨(toL s.data.toList).toArray⟩) ∧ Below w.heap.size w w' := by
  have hsz := ok_size h
  obtain ⟨i0, hi, hz0, hz1, hz2⟩ := info_parts info_u8
  have HI := Lib.hid hi
  have HZ0 := Lib.hid hz0
  have HZ1 := Lib.hid hz1
  have HZ2 := Lib.hid hz2
  have HSL := Lib.hid (size_list s)
  have H := Lib.hid h
  clear hi hz0 hz1 hz2 h
  go_enter Try.func50, Try.ntmps50
  go_wp2
  go_loopw [3, 4, 5, 6] (fun v i _ _ wr => ∃ m : Nat, 8 * m ≤ s.size ∧ i = .int .i64 ((8 * m : Nat) : Int) ∧ OB 5 wr w.heap.size v ((List.range m).map (octAt s.data.toList)) ∧ Below w.heap.size w wr) (fun _ i _ _ _ => s.size + 8 - (intOf i).toNat)
  case atStart => exact ⟨0, by omega, rfl, .inr ⟨w.heap.size, 0, #[], (0, 0), rfl, Nat.le_refl _, heap_alloc_new w _, .inl rfl, Nat.le_refl _, by simp [maxLen], rfl, rfl⟩, (Below.refl _ _).alloc (Nat.le_refl _) _⟩
  case round =>
    obtain ⟨m, hm, rfl, hown, hb⟩ := hrel
    have HO := Lib.hid hown
    have HB := Lib.hid hb
    clear hown hb
    obtain ⟨i, hi8⟩ : ∃ i, 8 * m = i := ⟨_, rfl⟩
    rw [hi8] at hm ⊢
    have HI8 := Lib.hid hi8
    clear hi8
    by_cases hlt : i + 8 ≤ s.size
    · go_wp2_with fail
      go_loop [5, 6] (fun n k => ∃ j : Nat, j ≤ 8 ∧ k = .int .i64 (7 - (j : Int)) ∧ n = .int .i64 ((octN ((s.data.toList.drop (i + (8 - j))).take j) : Nat) : Int)) (fun _ k => (intOf k + 1).toNat)
      case atStart => exact ⟨0, by omega, rfl, by simp [octN]⟩
      case round =>
        obtain ⟨j, hj, rfl, rfl⟩ := hrel
        have hon := octN_lt ((s.data.toList.drop (i + (8 - j))).take j)
        have hol : ((s.data.toList.drop (i + (8 - j))).take j).length ≤ j := List.length_take_le _ _
        have hob : octN ((s.data.toList.drop (i + (8 - j))).take j) < 256 := Nat.lt_of_lt_of_le hon (by
          have : (2 : Nat) ^ ((s.data.toList.drop (i + (8 - j))).take j).length ≤ 2 ^ 8 := Nat.pow_le_pow_right (by omega) (by omega)
          exact this)
        by_cases hj8 : j < 8
        · obtain ⟨kx, hkx, hkl, hkj⟩ : ∃ kx : Nat, (i : Int) + (7 - (j : Int)) = (kx : Int) ∧ kx < s.size ∧ kx = i + (7 - j) := ⟨i + (7 - j), by omega, by omega, rfl⟩
          have HST := Lib.hid (show octN ((s.data.toList.drop (i + (8 - (j + 1)))).take (j + 1)) = bitN s[kx] + 2 * octN ((s.data.toList.drop (i + (8 - j))).take j) by
            subst hkj
            rw [← oct_step s i j hj8 hlt, show 8 - (j + 1) = 7 - j by omega])
          have hbit := ok_bit H.out hkl
          clear hkj
          generalize octN ((s.data.toList.drop (i + (8 - j))).take j) = O at *
          rcases hbit with hbit | hbit
          · have hc : (s[kx].toNat : Int) = 48 := by rw [hbit]; rfl
            have HV := Lib.hid (show bitN s[kx] = 0 by rw [hbit]; rfl)
            clear hbit
            go_wp2
            go_round
            case rel =>
              refine ⟨j + 1, by omega, val_int (by omega), ?_⟩
              rw [HST.out, HV.out]
              exact val_int (by omega)
            case measure => simp [intOf]; omega
          · have hc : (s[kx].toNat : Int) = 49 := by rw [hbit]; rfl
            have HV := Lib.hid (show bitN s[kx] = 1 by rw [hbit]; rfl)
            clear hbit
            go_wp2
            go_round
            case rel =>
              refine ⟨j + 1, by omega, val_int (by omega), ?_⟩
              rw [HST.out, HV.out]
              exact val_int (by omega)
            case measure => simp [intOf]; omega
        · obtain rfl : j = 8 := by omega
          have HOA := Lib.hid (show byteV (octAt s.data.toList m) = .int .u8 ((octN ((s.data.toList.drop (i + (8 - 8))).take 8) : Nat) : Int) by
            unfold byteV octAt
            rw [HI8.out, UInt8.toNat_ofNat', show i + (8 - 8) = i by omega]
            rw [show i + (8 - 8) = i by omega] at hob
            exact val_int (by omega))
          have hll : ((List.range m).map (octAt s.data.toList)).length + [octAt s.data.toList m].length ≤ 140737488355328 := by
            have := HI8.out
            simp; omega
          generalize octN ((s.data.toList.drop (i + (8 - 8))).take 8) = O at *
          go_wp2_with (at_builtin; refine wpList_append_OB _ rfl _ _ 22 rfl w.heap.size 5 i0 Try.underlying22 HI.out HZ0.out HZ1.out HZ2.out _ ((List.range m).map (octAt s.data.toList)) rfl (HO.out.alloc _) ⟨wr.heap.size, 0, none⟩ 1 1 [octAt s.data.toList m] rfl rfl (one_new wr _ _ _ HOA.out) hll (by have := HB.out.size; simp; omega) ?_; intro v2 w2 hown2 hg2)
          go_roundw
          case rel =>
            refine ⟨m + 1, by have := HI8.out; omega, val_int (by have := HI8.out; omega), ?_, ?_⟩
            · rw [List.range_succ, List.map_append]; exact hown2
            · exact (HB.out.alloc HB.out.size _).grown hg2 (by have := HB.out.size; simp; omega) (fun k hk => (HO.out.lt k hk).1)
          case measure => simp [intOf]; omega
    · go_wp2_with (refine wpList_string_of_OB _ rfl 22 9 5 _ rfl w.heap.size _ _ rfl Try.underlying22 Try.underlying5 Try.underlying9 HO.out ?_)
      go_ret
      refine ⟨?_, HB.out⟩
      rw [toL, HSL.out, show s.size / 8 = m by have := HI8.out; omega]
      rfl
end Go.Proofs.Ytabdejafmhnaaaa
