/- Contracts of StuffPut, StuffGet and StuffMany, in the model. -/
import Derived.Test.YtabdejafmhnaaaaStuffB
import Derived.Test.YtabdejafmhnaaaaBitsD
namespace Go.Proofs.Ytabdejafmhnaaaa
open Go.ChangeShapes Go.WideShapes Go.ChangeAt Go.RowKit
theorem bit_at {s : ByteArray} (h : s.data.toList.all bitB = true) {k : Nat} (hk : k < s.size) : s[k] = 48 ∨ s[k] = 49 := by
  have := List.all_eq_true.1 h s[k] (by
    have : s[k] = s.data.toList[k]'(by simpa using hk) := rfl
    rw [this]; exact List.getElem_mem _)
  simpa [bitB] using this
set_option maxHeartbeats 4000000 in
theorem l3Put_any (s : ByteArray) (w : World) (hs : s.size ≤ 100000000) (h : s.data.toList.all bitB = true) :
    Calls Try.prog 53 #[.string s] w fun e w' => e = .returned (.string ⟨(putR s.data.toList).toArray⟩) ∧ Below w.heap.size w w' := by
  obtain ⟨i0, hi, hz0, hz1, hz2⟩ := info_parts info_u8
  have HI := Lib.hid hi
  have HZ0 := Lib.hid hz0
  have HZ1 := Lib.hid hz1
  have HZ2 := Lib.hid hz2
  have HSL := Lib.hid (size_list s)
  have H := Lib.hid h
  clear hi hz0 hz1 hz2 h
  go_enter Try.func53, Try.ntmps53
  go_wp2
  go_loopw [3, 4, 5] (fun v n i wr => ∃ k : Nat, k ≤ s.size ∧ i = .int .i64 k ∧ n = .int .i64 ((stuffS putStep (s.data.toList.take k)).2 : Int) ∧ OB 5 wr w.heap.size v (stuffS putStep (s.data.toList.take k)).1 ∧ Below w.heap.size w wr) (fun _ _ i _ => s.size - (intOf i).toNat)
  case atStart => exact ⟨0, by omega, rfl, rfl, .inr ⟨w.heap.size, 0, #[], (0, 0), rfl, Nat.le_refl _, heap_alloc_new w _, .inl rfl, Nat.le_refl _, by simp [maxLen], rfl, rfl⟩, (Below.refl _ _).alloc (Nat.le_refl _) _⟩
  case round =>
    obtain ⟨k, hk, rfl, rfl, hown, hb⟩ := hrel
    have HO := Lib.hid hown
    have HB := Lib.hid hb
    have hle := stuffS_le putStep put_le (s.data.toList.take k)
    have hl2 : (s.data.toList.take k).length ≤ k := List.length_take_le _ _
    clear hown hb
    by_cases hlt : k < s.size
    · have HS := Lib.hid (show stuffS putStep (s.data.toList.take (k + 1)) = stuffGo putStep (stuffS putStep (s.data.toList.take k)) s[k] by rw [snoc_take s k hlt, stuffS_snoc])
      generalize stuffS putStep (s.data.toList.take k) = p at *
      obtain ⟨out, n⟩ := p
      simp only at hle HO
      have hll : out.length + [s[k]].length ≤ 140737488355328 := by simp; omega
      rcases bit_at H.out hlt with hbit | hbit
      · have hc : (s[k].toNat : Int) = 48 := by rw [hbit]; rfl
        have HOA := Lib.hid (show byteV s[k] = .int .u8 48 by rw [hbit]; rfl)
        have HV := Lib.hid (show putStep n s[k] = ([s[k]], 0) by simp [putStep, hbit])
        clear hbit
        go_wp2_with (at_builtin; refine wpList_append_OB _ rfl _ _ 22 rfl w.heap.size 5 i0 Try.underlying22 HI.out HZ0.out HZ1.out HZ2.out _ out rfl (HO.out.alloc _) ⟨wr.heap.size, 0, none⟩ 1 1 [s[k]] rfl rfl (one_new wr _ _ _ HOA.out) hll (by have := HB.out.size; simp; omega) ?_; intro v2 w2 hown2 hg2)
        go_roundw
        case rel =>
          refine ⟨k + 1, by omega, by go_num, ?_, ?_, ?_⟩
          · rw [HS.out, stuffGo, HV.out]; rfl
          · rw [HS.out, stuffGo, HV.out]; exact hown2
          · exact (HB.out.alloc HB.out.size _).grown hg2 (by have := HB.out.size; simp; omega) (fun k hk => (HO.out.lt k hk).1)
        case measure => simp [intOf]; omega
      · have hc : (s[k].toNat : Int) = 49 := by rw [hbit]; rfl
        have HOA := Lib.hid (show byteV s[k] = .int .u8 49 by rw [hbit]; rfl)
        by_cases h5 : n + 1 = 5
        · have HV := Lib.hid (show putStep n s[k] = ([s[k], 48], 0) by simp [putStep, hbit, h5])
          have hn5 : ((n : Int) + 1 == 5) = true := by rw [beq_iff_eq]; omega
          clear hbit h5
          go_wp2_with (first | (at_builtin; refine wpList_append_OB _ rfl _ _ 22 rfl w.heap.size 5 i0 Try.underlying22 HI.out HZ0.out HZ1.out HZ2.out _ out rfl (HO.out.alloc _) ⟨wr.heap.size, 0, none⟩ 1 1 [s[k]] rfl rfl (one_new wr _ _ _ HOA.out) hll (by have := HB.out.size; simp; omega) ?_; intro v2 w2 hown2 hg2; have HO2 := Lib.hid hown2; have HB2 := Lib.hid ((HB.out.alloc HB.out.size _).grown hg2 (by have := HB.out.size; simp; omega) (fun k hk => (HO.out.lt k hk).1)); clear hown2 hg2) | (at_builtin; refine wpList_append_OB _ rfl _ _ 22 rfl w.heap.size 5 i0 Try.underlying22 HI.out HZ0.out HZ1.out HZ2.out _ (out ++ [s[k]]) rfl (HO2.out.alloc _) ⟨w2.heap.size, 0, none⟩ 1 1 [48] rfl rfl (one_new w2 _ _ _ rfl) (by simp; omega) (by have := HB2.out.size; simp; omega) ?_; intro v3 w3 hown3 hg3))
          go_roundw
          case rel =>
            refine ⟨k + 1, by omega, by go_num, ?_, ?_, ?_⟩
            · rw [HS.out, stuffGo, HV.out]; rfl
            · rw [HS.out, stuffGo, HV.out]; simpa using hown3
            · exact (HB2.out.alloc HB2.out.size _).grown hg3 (by have := HB2.out.size; simp; omega) (fun k hk => (HO2.out.lt k hk).1)
          case measure => simp [intOf]; omega
        · have HV := Lib.hid (show putStep n s[k] = ([s[k]], n + 1) by simp [putStep, hbit, h5])
          have hn5 : ((n : Int) + 1 == 5) = false := beq_eq_false_iff_ne.2 (by omega)
          clear hbit h5
          go_wp2_with (at_builtin; refine wpList_append_OB _ rfl _ _ 22 rfl w.heap.size 5 i0 Try.underlying22 HI.out HZ0.out HZ1.out HZ2.out _ out rfl (HO.out.alloc _) ⟨wr.heap.size, 0, none⟩ 1 1 [s[k]] rfl rfl (one_new wr _ _ _ HOA.out) hll (by have := HB.out.size; simp; omega) ?_; intro v2 w2 hown2 hg2)
          go_roundw
          case rel =>
            refine ⟨k + 1, by omega, by go_num, ?_, ?_, ?_⟩
            · rw [HS.out, stuffGo, HV.out]; exact val_int (by simp)
            · rw [HS.out, stuffGo, HV.out]; exact hown2
            · exact (HB.out.alloc HB.out.size _).grown hg2 (by have := HB.out.size; simp; omega) (fun k hk => (HO.out.lt k hk).1)
          case measure => simp [intOf]; omega
    · have HE := Lib.hid (take_all s k (by omega))
      go_wp2_with (refine wpList_string_of_OB _ rfl 22 9 5 _ rfl w.heap.size _ _ rfl Try.underlying22 Try.underlying5 Try.underlying9 HO.out ?_)
      go_ret
      refine ⟨?_, HB.out⟩
      rw [HE.out, stuffS_rec]
      rfl
end Go.Proofs.Ytabdejafmhnaaaa
