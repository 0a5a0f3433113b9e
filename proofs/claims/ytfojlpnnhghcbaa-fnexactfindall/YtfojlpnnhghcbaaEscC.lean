/- EscapeMany in the program; EscapePut and EscapeMany in the model. -/
import Derived.Test.YtfojlpnnhghcbaaEscB
import Derived.Test.YtfojlpnnhghcbaaKitSum
namespace Go.Proofs.Ytfojlpnnhghcbaa
open Go.ChangeShapes Go.WideShapes Go.ChangeAt Go.RowKit
theorem escA_len (m : Int) (l : List UInt8) : (escA m l).length ≤ 1200 := by
  unfold escA; split
  · rename_i h
    have := (escR_len m.toNat l).2
    have hl : l.length ≤ 600 := by simp [putOkB] at h; omega
    omega
  · simp
theorem l5Map_any (m : Int) (w : World) :
    Calls Try.prog 68 #[.int .i64 m] w fun e w' => e = .returned (.bool (mapOkB m)) ∧ w = w' := by
  go_enter Try.func68, Try.ntmps68
  go_wp2_with (go_at_call 66; refine (l1In_any _ _ _ _).mono ?_; rintro e w' ⟨rfl, rfl⟩)
  go_ret
  exact ⟨rfl, rfl⟩
theorem l5Mapped_any (m : Nat) (c : UInt8) (w : World) (hm : m ≤ 4294967295) :
    Calls Try.prog 98 #[.int .i64 m, .int .u8 c.toNat] w fun e w' => e = .returned (.bool (mapB m c)) ∧ w = w' := by
  have hc := c.toNat_lt
  by_cases h32 : c.toNat < 32
  · obtain ⟨q, hq⟩ : ∃ q, q = m / 2 ^ c.toNat := ⟨_, rfl⟩
    have hql : q ≤ 4294967295 := by rw [hq]; exact Nat.le_trans (Nat.div_le_self _ _) hm
    have hqi : (m : Int) / 2 ^ c.toNat = (q : Int) := by rw [hq]; simp
    have HV := Lib.hid (show mapB m c = decide (q % 2 = 1) by simp [mapB, h32, hq])
    obtain ⟨r, hr⟩ : ∃ r, r = q % 2 := ⟨_, rfl⟩
    have hr1 : (q : Int).tmod 2 = (r : Int) := by rw [Int.tmod_eq_emod_of_nonneg (by omega)]; omega
    have hr2 : (q : Int) % 2 = (r : Int) := by omega
    have HR := Lib.hid hr
    clear hq hr
    go_enter Try.func98, Try.ntmps98
    go_wp2
    go_ret
    refine ⟨?_, rfl⟩
    rw [HV.out, ← HR.out]
    show Ending.returned (.bool ((r : Int) == 1)) = _
    congr 2
    rw [Bool.eq_iff_iff]; simp; omega
  · have HV := Lib.hid (show mapB m c = false by simp [mapB, h32])
    go_enter Try.func98, Try.ntmps98
    go_wp2
    go_ret
    exact ⟨by rw [HV.out]; rfl, rfl⟩
theorem l5Must_any (m : Nat) (c : UInt8) (w : World) (hm : m ≤ 4294967295) :
    Calls Try.prog 93 #[.int .i64 m, .int .u8 c.toNat] w fun e w' => e = .returned (.bool (mustB m c)) ∧ w = w' := by
  by_cases h6 : c = 126
  · have hb : ((c.toNat : Int) == 126) = true := by rw [h6]; rfl
    have HV := Lib.hid (show mustB m c = true by simp [mustB, h6])
    clear h6
    go_enter Try.func93, Try.ntmps93
    go_wp2
    go_ret
    exact ⟨by rw [HV.out]; rfl, rfl⟩
  · have hb : ((c.toNat : Int) == 126) = false := beq_eq_false_iff_ne.2 (fun h => h6 (by apply UInt8.toNat_inj.1; show c.toNat = 126; omega))
    by_cases h5 : c = 125
    · have hb5 : ((c.toNat : Int) == 125) = true := by rw [h5]; rfl
      have HV := Lib.hid (show mustB m c = true by simp [mustB, h5])
      clear h5 h6
      go_enter Try.func93, Try.ntmps93
      go_wp2
      go_ret
      exact ⟨by rw [HV.out]; rfl, rfl⟩
    · have hb5 : ((c.toNat : Int) == 125) = false := beq_eq_false_iff_ne.2 (fun h => h5 (by apply UInt8.toNat_inj.1; show c.toNat = 125; omega))
      have HV := Lib.hid (show mustB m c = mapB m c by simp [mustB, h5, h6])
      clear h5 h6
      go_enter Try.func93, Try.ntmps93
      go_wp2_with fail
      refine (l5Mapped_any m c w hm).mono ?_
      rintro e w' ⟨rfl, rfl⟩
      go_wp2
      go_ret
      exact ⟨by rw [HV.out]; rfl, rfl⟩
theorem two_new (w : World) (e : TypeId) (a b : UInt8) (u v : Value) (hu : byteV a = u) (hv : byteV b = v) : ∀ j z, ([a, b].map byteV)[j]? = some z → (w.alloc (.cells #[u, v] e)).cell? ((⟨w.heap.size, 0, none⟩ : Addr).add j) = some z := by
  intro j z hz
  match j, hz with
  | 0, hz => simp at hz; subst hz; simp [Addr.add, hu]
  | 1, hz => simp at hz; subst hz; simp [Addr.add, hv]
set_option maxHeartbeats 4000000 in
theorem l5Put_any (m : Nat) (s : ByteArray) (w : World) (hm : m ≤ 4294967295) (hs : s.size ≤ 600) :
    Calls Try.prog 82 #[.int .i64 m, .string s] w fun e w' => e = .returned (.string ⟨(escR m s.data.toList).toArray⟩) ∧ Below w.heap.size w w' := by
  obtain ⟨i0, hi, hz0, hz1, hz2⟩ := info_parts info_u8
  have HI := Lib.hid hi
  have HZ0 := Lib.hid hz0
  have HZ1 := Lib.hid hz1
  have HZ2 := Lib.hid hz2
  have HSL := Lib.hid (size_list s)
  clear hi hz0 hz1 hz2
  go_enter Try.func82, Try.ntmps82
  go_wp2
  go_loopw [5, 6] (fun v i wr => ∃ k : Nat, k ≤ s.size ∧ i = .int .i64 k ∧ OB 5 wr w.heap.size v (escR m (s.data.toList.take k)) ∧ Below w.heap.size w wr) (fun _ i _ => s.size - (intOf i).toNat)
  case atStart => exact ⟨0, by omega, rfl, .inr ⟨w.heap.size, 0, #[], (0, 0), rfl, Nat.le_refl _, heap_alloc_new w _, .inl rfl, Nat.le_refl _, by simp [maxLen], rfl, rfl⟩, (Below.refl _ _).alloc (Nat.le_refl _) _⟩
  case round =>
    obtain ⟨k, hk, rfl, hown, hb⟩ := hrel
    have HO := Lib.hid hown
    have HB := Lib.hid hb
    have hle := (escR_len m (s.data.toList.take k)).2
    have hl2 : (s.data.toList.take k).length ≤ k := List.length_take_le _ _
    clear hown hb
    by_cases hlt : k < s.size
    · have HS := Lib.hid (show escR m (s.data.toList.take (k + 1)) = escR m (s.data.toList.take k) ++ escStep m s[k] by rw [snoc_take s k hlt, escR_snoc])
      generalize escR m (s.data.toList.take k) = out at *
      go_wp2_with fail
      refine (l5Must_any m s[k] wr hm).mono ?_
      rintro e w1 ⟨rfl, rfl⟩
      cases hmu : mustB m s[k] with
      | false =>
        have HV := Lib.hid (show escStep m s[k] = [s[k]] by rw [escStep, hmu]; rfl)
        have hll : out.length + [s[k]].length ≤ 140737488355328 := by simp; omega
        go_wp2_with (at_builtin; refine wpList_append_OB _ rfl _ _ 22 rfl w.heap.size 5 i0 Try.underlying22 HI.out HZ0.out HZ1.out HZ2.out _ out rfl (HO.out.alloc _) ⟨wr.heap.size, 0, none⟩ 1 1 [s[k]] rfl rfl (one_new wr _ _ _ rfl) hll (by have := HB.out.size; simp; omega) ?_; intro v2 w2 hown2 hg2)
        go_roundw
        case rel => exact ⟨k + 1, by omega, by go_num, by rw [HS.out, HV.out]; exact hown2, (HB.out.alloc HB.out.size _).grown hg2 (by have := HB.out.size; simp; omega) (fun k hk => (HO.out.lt k hk).1)⟩
        case measure => simp [intOf]; omega
      | true =>
        have HV := Lib.hid (show escStep m s[k] = [125, s[k] ^^^ 32] by rw [escStep, hmu]; rfl)
        have hx : bits .xor .u8 (s[k].toNat : Int) 32 = ((s[k] ^^^ 32).toNat : Int) := bits_xor_u8 s[k] 32
        have hll : out.length + [125, s[k] ^^^ 32].length ≤ 140737488355328 := by simp; omega
        go_wp2_with (at_builtin; refine wpList_append_OB _ rfl _ _ 22 rfl w.heap.size 5 i0 Try.underlying22 HI.out HZ0.out HZ1.out HZ2.out _ out rfl (HO.out.alloc _) ⟨wr.heap.size, 0, none⟩ 2 2 [125, s[k] ^^^ 32] rfl rfl (two_new wr _ _ _ _ _ rfl rfl) hll (by have := HB.out.size; simp; omega) ?_; intro v2 w2 hown2 hg2)
        go_roundw
        case rel => exact ⟨k + 1, by omega, by go_num, by rw [HS.out, HV.out]; exact hown2, (HB.out.alloc HB.out.size _).grown hg2 (by have := HB.out.size; simp; omega) (fun k hk => (HO.out.lt k hk).1)⟩
        case measure => simp [intOf]; omega
    · have HE := Lib.hid (take_all s k (by omega))
      go_wp2_with (refine wpList_string_of_OB _ rfl 22 9 5 _ rfl w.heap.size _ _ rfl Try.underlying22 Try.underlying5 Try.underlying9 HO.out ?_)
      go_ret
      refine ⟨?_, HB.out⟩
      rw [HE.out]
      rfl
end Go.Proofs.Ytfojlpnnhghcbaa
