/- Contracts of BitsFill in the program and in the model. -/
import Derived.Test.YtabdejafmhnaaaaBitsB
namespace Go.Proofs.Ytabdejafmhnaaaa
open Go.ChangeShapes Go.WideShapes Go.ChangeAt Go.RowKit

def lenV : Value → Nat | .slice _ n _ => n | .string s => s.size | _ => 0
/-- how many ones are lacking -/
def lackN (n : Nat) : Nat := (8 - n % 8) % 8
def fillL (l : List UInt8) : List UInt8 := l ++ List.replicate (lackN l.length) 49
theorem ones_snoc (l : List UInt8) (j : Nat) : l ++ List.replicate (j + 1) 49 = (l ++ List.replicate j 49) ++ [49] := by
  rw [List.replicate_succ', List.append_assoc]

set_option maxHeartbeats 1000000 in
theorem implFill_yes (s : ByteArray) (w : World) (h : okB s.data.toList = true) :
    Calls Try.prog 30 #[.string s] w fun e w' => e = .returned (.string ⟨(fillL s.data.toList).toArray⟩) ∧ Below w.heap.size w w' := by
  have hsz := ok_size h
  have hmax : s.size ≤ maxLen := by unfold maxLen; omega
  obtain ⟨i0, hi, hz0, hz1, hz2⟩ := info_parts info_u8
  have HI := Lib.hid hi
  have HZ0 := Lib.hid hz0
  have HZ1 := Lib.hid hz1
  have HZ2 := Lib.hid hz2
  have HSL := Lib.hid (size_list s)
  clear hi hz0 hz1 hz2
  go_enter Try.func30, Try.ntmps30
  go_wp2_with (first | (go_at_call 22; refine (implOk_any _ _ hmax).mono ?_; rintro e w' ⟨rfl, rfl⟩) | (refine wpList_bytes_of_string _ rfl 9 22 5 _ rfl s rfl Try.underlying9 Try.underlying22 Try.underlying5 hmax ?_; intro v1 w1 hown1 hb1))
  go_loopw [3] (fun v wr => ∃ j : Nat, j ≤ lackN s.size ∧ OB 5 wr w.heap.size v (s.data.toList ++ List.replicate j 49) ∧ Below w.heap.size w wr) (fun v _ => s.size + 8 - lenV v)
  case atStart => exact ⟨0, Nat.zero_le _, by simpa using hown1, hb1⟩
  case round =>
    obtain ⟨j, hj, hown, hb⟩ := hrel
    have HO := Lib.hid hown
    have HB := Lib.hid hb
    obtain ⟨a, cap, hv, hcap⟩ := hown.shape
    have hlen : (s.data.toList ++ List.replicate j 49).length = s.size + j := by rw [List.length_append, HSL.out, List.length_replicate]
    rw [hlen] at hv hcap
    rw [hv] at HO ⊢
    clear hv hown hb hown1 hb1
    have hj8 : lackN s.size < 8 := Nat.mod_lt _ (by omega)
    have HL := Lib.hid hlen
    clear hlen
    by_cases hm : (s.size + j) % 8 = 0
    · have hmi : (((s.size : Int) + (j : Int)) % 8 != 0) = false := by
        rw [show ((s.size : Int) + (j : Int)) % 8 = 0 by omega]; rfl
      have hjl : j = lackN s.size := by unfold lackN at hj ⊢; omega
      have HJ := Lib.hid hjl
      clear hjl
      go_wp2_with (refine wpList_string_of_OB _ rfl 22 9 5 _ rfl w.heap.size _ _ rfl Try.underlying22 Try.underlying5 Try.underlying9 HO.out ?_)
      go_ret
      exact ⟨by rw [fillL, HSL.out, HJ.out]; rfl, HB.out⟩
    · have hmi : (((s.size : Int) + (j : Int)) % 8 != 0) = true := by rw [bne_iff_ne]; omega
      have hjl : j < lackN s.size := by
        rcases Nat.lt_or_ge j (lackN s.size) with h | h
        · exact h
        · exfalso; apply hm; unfold lackN at h hj; omega
      go_wp2_with (at_builtin; refine wpList_append_OB _ rfl _ _ 22 rfl w.heap.size 5 i0 Try.underlying22 HI.out HZ0.out HZ1.out HZ2.out _ (s.data.toList ++ List.replicate j 49) rfl (HO.out.alloc _) ⟨wr.heap.size, 0, none⟩ 1 1 [49] rfl rfl (one_new wr _ _ _ rfl) (by rw [HL.out]; simp; omega) (by have := HB.out.size; simp; omega) ?_; intro v2 w2 hown2 hg2)
      go_roundw
      case rel =>
        refine ⟨j + 1, by omega, by rw [ones_snoc]; exact hown2, ?_⟩
        exact (HB.out.alloc HB.out.size _).grown hg2 (by have := HB.out.size; simp; omega) (fun k hk => (HO.out.lt k hk).1)
      case measure =>
        obtain ⟨a2, cap2, hv2, _⟩ := hown2.shape
        rw [hv2]
        simp [lenV]
        omega
theorem implFill_no (s : ByteArray) (w : World) (hs : s.size ≤ maxLen) (h : okB s.data.toList = false) :
    Calls Try.prog 30 #[.string s] w fun e w' => e = .returned (.string ⟨#[]⟩) ∧ w = w' := by
  go_enter Try.func30, Try.ntmps30
  go_wp2_with (go_at_call 22; refine (implOk_any _ _ hs).mono ?_; rintro e w' ⟨rfl, rfl⟩)
  go_ret
  exact ⟨rfl, rfl⟩
theorem specFill_no (s : ByteArray) (w : World) (hs : s.size ≤ maxLen) (h : okB s.data.toList = false) :
    Calls Try.prog 31 #[.string s] w fun e w' => e = .returned (.string ⟨#[]⟩) ∧ w = w' := by
  go_enter Try.func31, Try.ntmps31
  go_wp2_with (go_at_call 49; refine (l2Ok_any _ _ hs).mono ?_; rintro e w' ⟨rfl, rfl⟩)
  go_ret
  exact ⟨rfl, rfl⟩
set_option maxHeartbeats 1000000 in
theorem specFill_yes (s : ByteArray) (w : World) (h : okB s.data.toList = true) :
    Calls Try.prog 31 #[.string s] w fun e w' => e = .returned (.string ⟨(fillL s.data.toList).toArray⟩) ∧ w = w' := by
  have hsz := ok_size h
  have hmax : s.size ≤ maxLen := by unfold maxLen; omega
  have HSL := Lib.hid (size_list s)
  go_enter Try.func31, Try.ntmps31
  go_wp2_with (go_at_call 49; refine (l2Ok_any _ _ hmax).mono ?_; rintro e w' ⟨rfl, rfl⟩)
  go_loop [0] (fun v => ∃ (j : Nat) (t : ByteArray), j ≤ lackN s.size ∧ v = .string t ∧ t.size = s.size + j ∧ t.data.toList = s.data.toList ++ List.replicate j 49) (fun v => s.size + 8 - lenV v)
  case atStart => exact ⟨0, s, Nat.zero_le _, rfl, rfl, by simp⟩
  case round =>
    obtain ⟨j, t, hj, rfl, hts, htl⟩ := hrel
    have HTL := Lib.hid htl
    have HTS := Lib.hid hts
    have htb : t.size ≤ 1300 := by have : lackN s.size < 8 := Nat.mod_lt _ (by omega)
                                   omega
    have hj8 : lackN s.size < 8 := Nat.mod_lt _ (by omega)
    clear htl
    by_cases hm : (s.size + j) % 8 = 0
    · have hmi : ((t.size : Int) % 8 != 0) = false := by
        rw [show (t.size : Int) % 8 = 0 by omega]; rfl
      have HJ := Lib.hid (show j = lackN s.size by unfold lackN at hj ⊢; omega)
      clear hts
      go_wp2
      go_ret
      refine ⟨?_, rfl⟩
      have : (⟨(fillL s.data.toList).toArray⟩ : ByteArray) = t := by
        rw [fillL, HSL.out, ← HJ.out, ← HTL.out]
      rw [this]; rfl
    · have hmi : ((t.size : Int) % 8 != 0) = true := by rw [bne_iff_ne]; omega
      have hjl : j < lackN s.size := by
        rcases Nat.lt_or_ge j (lackN s.size) with h | h
        · exact h
        · exfalso; apply hm; unfold lackN at h hj; omega
      clear hts
      go_wp2
      go_round
      case rel =>
        refine ⟨j + 1, t ++ ⟨#[49]⟩, by omega, rfl, ?_, ?_⟩
        · rw [ByteArray.size_append, HTS.out]; rfl
        · rw [ones_snoc, ← HTL.out]; simp
      case measure =>
        have h1 : (⟨#[49]⟩ : ByteArray).size = 1 := rfl
        simp only [lenV, ByteArray.size_append, h1]
        have := HTS.out
        simp
        omega
end Go.Proofs.Ytabdejafmhnaaaa
