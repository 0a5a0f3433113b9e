/- Contracts of StuffGet, StuffPut and StuffMany, in the model. -/
import Derived.Test.YtabdejafmhnaaaaStuffC
namespace Go.Proofs.Ytabdejafmhnaaaa
open Go.ChangeShapes Go.WideShapes Go.ChangeAt Go.RowKit
theorem gGood_five (c : UInt8) (l : List UInt8) : gGood 5 (c :: l) = (c == 48 && gGood 0 l) := by rw [gGood, if_pos rfl]
theorem gGood_step (n : Nat) (h : n ≠ 5) (c : UInt8) (l : List UInt8) : gGood n (c :: l) = gGood (getStep n c).2 l := by rw [gGood, if_neg h]
set_option maxHeartbeats 4000000 in
theorem l3Get_any (s : ByteArray) (w : World) (hs : s.size ≤ 100000000) (h : s.data.toList.all bitB = true) :
    Calls Try.prog 56 #[.string s] w fun e w' => (∃ x, e = .returned (.tuple #[.string x, .bool (gGood 0 s.data.toList)]) ∧ (gGood 0 s.data.toList = true → x = ⟨(getR s.data.toList).toArray⟩)) ∧ Below w.heap.size w w' := by
  obtain ⟨i0, hi, hz0, hz1, hz2⟩ := info_parts info_u8
  have HI := Lib.hid hi
  have HZ0 := Lib.hid hz0
  have HZ1 := Lib.hid hz1
  have HZ2 := Lib.hid hz2
  have HSL := Lib.hid (size_list s)
  have H := Lib.hid h
  clear hi hz0 hz1 hz2 h
  go_enter Try.func56, Try.ntmps56
  go_wp2
  go_loopw [4, 5, 6] (fun v n i wr => ∃ k : Nat, k ≤ s.size ∧ i = .int .i64 k ∧ n = .int .i64 ((stuffS getStep (s.data.toList.take k)).2 : Int) ∧ OB 5 wr w.heap.size v (stuffS getStep (s.data.toList.take k)).1 ∧ gGood 0 s.data.toList = gGood (stuffS getStep (s.data.toList.take k)).2 (s.data.toList.drop k) ∧ Below w.heap.size w wr) (fun _ _ i _ => s.size - (intOf i).toNat)
  case atStart => exact ⟨0, by omega, rfl, rfl, .inr ⟨w.heap.size, 0, #[], (0, 0), rfl, Nat.le_refl _, heap_alloc_new w _, .inl rfl, Nat.le_refl _, by simp [maxLen], rfl, rfl⟩, rfl, (Below.refl _ _).alloc (Nat.le_refl _) _⟩
  case round =>
    obtain ⟨k, hk, rfl, rfl, hown, hgood, hb⟩ := hrel
    have HO := Lib.hid hown
    have HB := Lib.hid hb
    have hle := stuffS_le getStep get_le (s.data.toList.take k)
    have hl2 : (s.data.toList.take k).length ≤ k := List.length_take_le _ _
    clear hown hb
    by_cases hlt : k < s.size
    · have HS := Lib.hid (show stuffS getStep (s.data.toList.take (k + 1)) = stuffGo getStep (stuffS getStep (s.data.toList.take k)) s[k] by rw [snoc_take s k hlt, stuffS_snoc])
      rw [drop_cons s k hlt] at hgood
      have HG := Lib.hid hgood
      clear hgood
      generalize stuffS getStep (s.data.toList.take k) = p at *
      obtain ⟨out, n⟩ := p
      simp only at hle HO HG
      have hll : out.length + [s[k]].length ≤ 140737488355328 := by simp; omega
      by_cases h5 : n = 5
      · subst h5
        rcases bit_at H.out hlt with hbit | hbit
        · have hc : (s[k].toNat : Int) = 48 := by rw [hbit]; rfl
          have HG2 := Lib.hid (show gGood 0 s.data.toList = gGood 0 (s.data.toList.drop (k + 1)) by rw [HG.out, gGood_five, hbit]; rfl)
          have HV := Lib.hid (show getStep 5 s[k] = ([], 0) by simp [getStep])
          clear hbit
          go_wp2
          go_roundw
          case rel =>
            refine ⟨k + 1, by omega, by go_num, ?_, ?_, ?_, HB.out⟩
            · rw [HS.out, stuffGo, HV.out]; rfl
            · rw [HS.out, stuffGo, HV.out]; simpa using HO.out
            · rw [HS.out, stuffGo, HV.out]; exact HG2.out
          case measure => simp [intOf]; omega
        · have hc : (s[k].toNat : Int) = 49 := by rw [hbit]; rfl
          have HG2 := Lib.hid (show gGood 0 s.data.toList = false by rw [HG.out, gGood_five, hbit]; rfl)
          clear hbit
          go_wp2
          go_ret2
          rw [HG2.out]
          exact ⟨⟨_, rfl, fun h => absurd h (by decide)⟩, HB.out⟩
      · have hn5 : ((n : Int) == 5) = false := beq_eq_false_iff_ne.2 (by omega)
        have HG2 := Lib.hid (show gGood 0 s.data.toList = gGood (getStep n s[k]).2 (s.data.toList.drop (k + 1)) by rw [HG.out, gGood_step n h5])
        rcases bit_at H.out hlt with hbit | hbit
        · have hc : (s[k].toNat : Int) = 48 := by rw [hbit]; rfl
          have HOA := Lib.hid (show byteV s[k] = .int .u8 48 by rw [hbit]; rfl)
          have HV := Lib.hid (show getStep n s[k] = ([s[k]], 0) by simp [getStep, hbit, h5])
          clear hbit h5
          go_wp2_with (at_builtin; refine wpList_append_OB _ rfl _ _ 22 rfl w.heap.size 5 i0 Try.underlying22 HI.out HZ0.out HZ1.out HZ2.out _ out rfl (HO.out.alloc _) ⟨wr.heap.size, 0, none⟩ 1 1 [s[k]] rfl rfl (one_new wr _ _ _ HOA.out) hll (by have := HB.out.size; simp; omega) ?_; intro v2 w2 hown2 hg2)
          go_roundw
          case rel =>
            refine ⟨k + 1, by omega, by go_num, ?_, ?_, ?_, ?_⟩
            · rw [HS.out, stuffGo, HV.out]; rfl
            · rw [HS.out, stuffGo, HV.out]; exact hown2
            · rw [HS.out, stuffGo]; exact HG2.out
            · exact (HB.out.alloc HB.out.size _).grown hg2 (by have := HB.out.size; simp; omega) (fun k hk => (HO.out.lt k hk).1)
          case measure => simp [intOf]; omega
        · have hc : (s[k].toNat : Int) = 49 := by rw [hbit]; rfl
          have HOA := Lib.hid (show byteV s[k] = .int .u8 49 by rw [hbit]; rfl)
          have HV := Lib.hid (show getStep n s[k] = ([s[k]], n + 1) by simp [getStep, hbit, h5])
          clear hbit h5
          go_wp2_with (at_builtin; refine wpList_append_OB _ rfl _ _ 22 rfl w.heap.size 5 i0 Try.underlying22 HI.out HZ0.out HZ1.out HZ2.out _ out rfl (HO.out.alloc _) ⟨wr.heap.size, 0, none⟩ 1 1 [s[k]] rfl rfl (one_new wr _ _ _ HOA.out) hll (by have := HB.out.size; simp; omega) ?_; intro v2 w2 hown2 hg2)
          go_roundw
          case rel =>
            refine ⟨k + 1, by omega, by go_num, ?_, ?_, ?_, ?_⟩
            · rw [HS.out, stuffGo, HV.out]; exact val_int (by simp)
            · rw [HS.out, stuffGo, HV.out]; exact hown2
            · rw [HS.out, stuffGo]; exact HG2.out
            · exact (HB.out.alloc HB.out.size _).grown hg2 (by have := HB.out.size; simp; omega) (fun k hk => (HO.out.lt k hk).1)
          case measure => simp [intOf]; omega
    · have HE := Lib.hid (take_all s k (by omega))
      have HD := Lib.hid (show s.data.toList.drop k = [] from List.drop_eq_nil_of_le (by rw [HSL.out]; omega))
      rw [HD.out, gGood] at hgood
      have HG := Lib.hid hgood
      clear hgood
      have HR := Lib.hid (show (stuffS getStep (s.data.toList.take k)).1 = getR s.data.toList by rw [HE.out, stuffS_rec])
      generalize stuffS getStep (s.data.toList.take k) = p at *
      obtain ⟨out, n⟩ := p
      simp only at HO HG HR
      by_cases hn : n < 5
      · have hd : ((n : Int) < 5) := by omega
        go_wp2_with (refine wpList_string_of_OB _ rfl 22 9 5 _ rfl w.heap.size _ _ rfl Try.underlying22 Try.underlying5 Try.underlying9 HO.out ?_)
        go_ret2
        refine ⟨⟨_, ?_, fun _ => rfl⟩, HB.out⟩
        rw [HG.out, decide_eq_true hn, HR.out]
        rfl
      · have hd : ¬ ((n : Int) < 5) := by omega
        go_wp2_with (refine wpList_string_of_OB _ rfl 22 9 5 _ rfl w.heap.size _ _ rfl Try.underlying22 Try.underlying5 Try.underlying9 HO.out ?_)
        go_ret2
        rw [HG.out, decide_eq_false hn]
        exact ⟨⟨_, rfl, fun h => absurd h (by decide)⟩, HB.out⟩
end Go.Proofs.Ytabdejafmhnaaaa
