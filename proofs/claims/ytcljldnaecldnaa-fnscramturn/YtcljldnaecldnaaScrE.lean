/- The program runs a scrambler over bits that come out of a channel. -/
import Derived.Test.YtcljldnaecldnaaScrD
import Derived.Test.YtcljldnaecldnaaScrA
namespace Go.Proofs.Ytcljldnaecldnaa
open Go.ChangeShapes Go.WideShapes Go.ChangeAt Go.RowKit Go.Conc
theorem OB.chan {e : TypeId} {w : World} {base : Nat} {v : Value} {l : List UInt8} (h : OB e w base v l) {c : Nat} (hc : c < base) (cap : Nat) (buf : Array Value) (cl : Bool) (s r : Nat) (tm : Bool) : OB e (w.setChan c cap buf cl s r tm) base v l := by
  rcases h with hn | ⟨g, cap', cur, fz, rfl, hb, hg, rest⟩
  · exact .inl hn
  · refine .inr ⟨g, cap', cur, fz, rfl, hb, ?_, rest⟩
    unfold World.setChan
    simp only
    rw [Array.getElem?_setIfInBounds_ne (by omega)]
    exact hg
/-- how many a channel still holds -/
def chanLeft (w : World) (c : Nat) : Nat := match w.heap[c]? with
  | some (.chan _ buf _ _ _ _) => buf.size
  | _ => 0
theorem chanLeft_of {w : World} {c cap : Nat} {buf : Array Value} {cl : Bool} {s r : Nat} {tm : Bool} (h : w.heap[c]? = some (.chan cap buf cl s r tm)) : chanLeft w c = buf.size := by unfold chanLeft; rw [h]
theorem sentA_drop (s : ByteArray) (k : Nat) (h : k < s.size) : sentA (s.data.toList.drop k) = (#[sentV s[k]] : Array Value) ++ sentA (s.data.toList.drop (k + 1)) := by
  rw [List.drop_eq_getElem_cons (by simpa using h)]
  simp [sentA]
  rfl
theorem sentA_next (s : ByteArray) (k : Nat) (h : k < s.size) : (sentA (s.data.toList.drop k)).extract 1 (sentA (s.data.toList.drop k)).size = sentA (s.data.toList.drop (k + 1)) := by
  rw [sentA_drop s k h, Array.size_append, Array.extract_append]
  simp
theorem sentA_now (s : ByteArray) (k : Nat) (h : k < s.size) : (sentA (s.data.toList.drop k)).getD 0 undef = sentV s[k] := by
  rw [sentA_drop s k h]
  simp [sentA]
theorem sentA_none (s : ByteArray) (k : Nat) (h : s.size ≤ k) : sentA (s.data.toList.drop k) = #[] := by
  rw [List.drop_of_length_le (by have := size_list s; omega)]
  rfl
theorem runPut_no (st : Int) (s : ByteArray) (w : World) (hs : s.size ≤ maxLen) (h : (stB st && okB s.data.toList) = false) :
    Calls Try.prog 24 #[.int .i64 st, .string s, .func (.func 25) #[] #[]] w fun e w' => e = .returned (.tuple #[.int .i64 (-1), .string ⟨#[]⟩]) ∧ w = w' := by
  unfold stB at h
  by_cases h1 : st < 0
  · clear h
    go_enter Try.func24, Try.ntmps24
    go_wp2
    go_ret2
    exact ⟨rfl, rfl⟩
  · by_cases h2 : 128 ≤ st
    · clear h
      go_enter Try.func24, Try.ntmps24
      go_wp2
      go_ret2
      exact ⟨rfl, rfl⟩
    · have h3 : okB s.data.toList = false := by
        rw [decide_eq_true (show 0 ≤ st by omega), decide_eq_true (show st ≤ 127 by omega)] at h
        simpa using h
      have H3 := Lib.hid h3
      clear h h3
      go_enter Try.func24, Try.ntmps24
      go_wp2_with (go_at_call 31; refine (implOk_any _ _ hs).mono ?_; rintro e w' ⟨rfl, rfl⟩; rw [H3.out])
      go_ret2
      exact ⟨rfl, rfl⟩
set_option maxRecDepth 100000 in
set_option maxHeartbeats 800000 in
theorem runPut_yes (st : Nat) (s : ByteArray) (w : World) (hst : st < 128) (h : okB s.data.toList = true) :
    Calls Try.prog 24 #[.int .i64 st, .string s, .func (.func 25) #[] #[]] w fun e w' => e = .returned (.tuple #[.int .i64 ((mealy scP st s.data.toList).1 : Nat), .string ⟨(mealy scP st s.data.toList).2.toArray⟩]) ∧ Below w.heap.size w w' := by
  have hsz : s.size ≤ 1200 := by have := (okB_iff.1 h).2; simpa using this
  have hmax : s.size ≤ maxLen := by unfold maxLen; omega
  have H := Lib.hid h
  obtain ⟨i0, hi, hz0, hz1, hz2⟩ := info_parts info_u8
  have HI := Lib.hid hi
  have HZ0 := Lib.hid hz0
  have HZ1 := Lib.hid hz1
  have HZ2 := Lib.hid hz2
  have HLT := Lib.hid (fun l => mealy_lt scP scP_lt st l hst)
  clear h hi hz0 hz1 hz2
  go_enter Try.func24, Try.ntmps24
  go_wp2_with (first | (go_at_call 31; refine (implOk_any _ _ hmax).mono ?_; rintro e w' ⟨rfl, rfl⟩; rw [H.out]) | (go_at_call 38; refine (sent_any s _ H.out).mono ?_; rintro e w1 ⟨rfl, hc1, hb1⟩; have HC1 := Lib.hid hc1; have HB1 := Lib.hid hb1; clear hc1 hb1))
  go_loopw [8, 9] (fun b v wr => ∃ k : Nat, k ≤ s.size ∧ b = .int .i64 ((mealy scP st (s.data.toList.take k)).1 : Nat) ∧ OB 5 wr (w.heap.size + 1) v (mealy scP st (s.data.toList.take k)).2 ∧ wr.heap[w.heap.size]? = some (.chan s.size (sentA (s.data.toList.drop k)) true s.size k false) ∧ Below w.heap.size w wr) (fun _ _ wr => chanLeft wr w.heap.size)
  case atStart => exact ⟨0, by omega, rfl, .inl ⟨rfl, rfl⟩, HC1.out, HB1.out⟩
  case round =>
    obtain ⟨k, hk, rfl, hown, hc, hb⟩ := hrel
    have HO := Lib.hid hown
    have HC := Lib.hid hc
    have HB := Lib.hid hb
    clear hown hc hb
    by_cases hlt : k < s.size
    · have HBIT := Lib.hid (ok_bit H.out hlt)
      have HS := Lib.hid (sc_take scP st s k hlt)
      have hl2 := sc_take_len scP st s k
      have hm1 := HLT.out (s.data.toList.take k)
      have HM := Lib.hid (chanLeft_of HC.out)
      generalize mealy scP st (s.data.toList.take k) = M at *
      obtain ⟨m1, m2⟩ := M
      simp only at hl2 hm1
      obtain ⟨one, hone⟩ : ∃ one, decide (s[k] = 49) = one := ⟨_, rfl⟩
      have HONE := Lib.hid hone
      clear hone
      go_upto_region 6 with fail
      refine OpsTo.region ?_
      simp only [List.size_toArray, List.length_cons, List.length_nil, Nat.reduceAdd, Nat.zero_add, List.range, List.range.loop]
      refine OpsTo.recv (c := w.heap.size) (z := .int .u8 0) true rfl rfl (by simp [go_sem, rcase]) HC.out (by rw [sentA_size, List.length_drop]; have := size_list s; omega) ?_
      rw [sentA_now s k hlt, sentA_next s k hlt]
      unfold sentV got
      rw [HONE.out]
      simp only [if_true]
      walk_nrm
      refine OpsTo.plain rfl rfl fun K hK => ?_
      go_simp
      refine hK _ _ ?_
      clear hK K
      walk_nrm
      refine OpsTo.end ?_
      have HC2 := Lib.hid (heap_setChan wr w.heap.size s.size (sentA (s.data.toList.drop (k + 1))) true s.size (k + 1) false (heap_lt HC.out))
      have HB2 := Lib.hid (below_setChan HB.out (Nat.le_refl _) s.size (sentA (s.data.toList.drop (k + 1))) true s.size (k + 1) false)
      have HO2 := Lib.hid (HO.out.chan (c := w.heap.size) (by omega) s.size (sentA (s.data.toList.drop (k + 1))) true s.size (k + 1) false)
      have hsize := size_setChan wr w.heap.size s.size (sentA (s.data.toList.drop (k + 1))) true s.size (k + 1) false
      generalize wr.setChan w.heap.size s.size (sentA (s.data.toList.drop (k + 1))) true s.size (k + 1) false = wx at *
      obtain ⟨o, ho⟩ : ∃ o, (one != tapB m1) = o := ⟨_, rfl⟩
      have hS2 := HS.out
      rw [HONE.out] at hS2
      have HS3 := Lib.hid (show mealy scP st (s.data.toList.take (k + 1)) = (nextS m1 o, m2 ++ [bitC o]) by rw [hS2, ← ho]; rfl)
      have HOO := Lib.hid ho
      have hby := xi_byte o
      have hbl := xi_le o
      have HBY := Lib.hid (show ((bitC o).toNat : Int) = 48 + xi o by omega)
      clear hby hS2 HS ho
      have hsb := HB2.out.size
      have HSB := Lib.hid (show w.heap.size < wx.heap.size from heap_lt HC2.out)
      have HNX := Lib.hid (show nextS m1 o < 128 from nextS_lt _ _)
      clear hsize hsb
      go_wp2_with (first | (go_at_call 25; refine (put_any m1 one _ hm1).mono ?_; rintro e w' ⟨rfl, rfl⟩; rw [HOO.out]; generalize nextS m1 o = nx at *; generalize hxo : xi o = xo at *; have HXO := Lib.hid hxo; clear hxo) | (at_builtin; refine wpList_append_OB _ rfl _ _ 22 rfl (w.heap.size + 1) 5 i0 Try.underlying22 HI.out HZ0.out HZ1.out HZ2.out _ m2 rfl (HO2.out.alloc _) ⟨_, 0, none⟩ 1 1 [bitC o] rfl rfl (one_new _ _ _ _ (show byteV (bitC o) = Value.int .u8 (48 + xo) by unfold byteV; rw [HBY.out])) (by simp; omega) (by have := HSB.out; simp; omega) ?_; intro v2 w2 hown2 hg2))
      have hch : w2.heap[w.heap.size]? = some (.chan s.size (sentA (s.data.toList.drop (k + 1))) true s.size (k + 1) false) := by
        rw [hg2.block w.heap.size (by have := HSB.out; simp; omega) (fun e => by have := (HO2.out.lt _ e.symm).1; omega), Below.heap_alloc wx _ _ HSB.out]
        exact HC2.out
      refine ⟨⟨k + 1, by omega, by rw [HS3.out], by rw [HS3.out]; exact hown2, hch, ?_⟩, ?_⟩
      · exact (HB2.out.alloc (by have := HSB.out; omega) _).grown hg2 (by have := HSB.out; simp; omega) (fun k hk => by have := (HO2.out.lt k hk).1; omega)
      · rw [chanLeft_of hch, HM.out, sentA_size, sentA_size, List.length_drop, List.length_drop]
        have := size_list s
        omega
    · have HE := Lib.hid (take_all s k (by omega))
      go_upto_region 6 with fail
      refine OpsTo.region ?_
      simp only [List.size_toArray, List.length_cons, List.length_nil, Nat.reduceAdd, Nat.zero_add, List.range, List.range.loop]
      refine OpsTo.shut (w' := wr) (c := w.heap.size) (z := .int .u8 0) (cap := s.size) (s := s.size) (r := k) (tm := false) true rfl rfl (by simp [go_sem, rcase]) (by rw [HC.out, sentA_none s k (by omega)]) ?_
      unfold got
      simp only [if_true]
      walk_nrm
      refine OpsTo.plain rfl rfl fun K hK => ?_
      go_simp
      refine hK _ _ ?_
      clear hK K
      walk_nrm
      refine OpsTo.end ?_
      have hcv := run_string_of_OB (P := Try.prog) wr.drew 22 9 5 (w.heap.size + 1) _ _ Try.underlying22 Try.underlying5 Try.underlying9 HO.out.drew
      go_wp2_with fail
      go_region
      go_wp2
      go_ret2
      exact ⟨by rw [HE.out]; rfl, HB.out.drew⟩
theorem runGet_no (st : Int) (s : ByteArray) (w : World) (hs : s.size ≤ maxLen) (h : (stB st && okB s.data.toList) = false) :
    Calls Try.prog 24 #[.int .i64 st, .string s, .func (.func 30) #[] #[]] w fun e w' => e = .returned (.tuple #[.int .i64 (-1), .string ⟨#[]⟩]) ∧ w = w' := by
  unfold stB at h
  by_cases h1 : st < 0
  · clear h
    go_enter Try.func24, Try.ntmps24
    go_wp2
    go_ret2
    exact ⟨rfl, rfl⟩
  · by_cases h2 : 128 ≤ st
    · clear h
      go_enter Try.func24, Try.ntmps24
      go_wp2
      go_ret2
      exact ⟨rfl, rfl⟩
    · have h3 : okB s.data.toList = false := by
        rw [decide_eq_true (show 0 ≤ st by omega), decide_eq_true (show st ≤ 127 by omega)] at h
        simpa using h
      have H3 := Lib.hid h3
      clear h h3
      go_enter Try.func24, Try.ntmps24
      go_wp2_with (go_at_call 31; refine (implOk_any _ _ hs).mono ?_; rintro e w' ⟨rfl, rfl⟩; rw [H3.out])
      go_ret2
      exact ⟨rfl, rfl⟩
set_option maxRecDepth 100000 in
set_option maxHeartbeats 800000 in
theorem runGet_yes (st : Nat) (s : ByteArray) (w : World) (hst : st < 128) (h : okB s.data.toList = true) :
    Calls Try.prog 24 #[.int .i64 st, .string s, .func (.func 30) #[] #[]] w fun e w' => e = .returned (.tuple #[.int .i64 ((mealy scG st s.data.toList).1 : Nat), .string ⟨(mealy scG st s.data.toList).2.toArray⟩]) ∧ Below w.heap.size w w' := by
  have hsz : s.size ≤ 1200 := by have := (okB_iff.1 h).2; simpa using this
  have hmax : s.size ≤ maxLen := by unfold maxLen; omega
  have H := Lib.hid h
  obtain ⟨i0, hi, hz0, hz1, hz2⟩ := info_parts info_u8
  have HI := Lib.hid hi
  have HZ0 := Lib.hid hz0
  have HZ1 := Lib.hid hz1
  have HZ2 := Lib.hid hz2
  have HLT := Lib.hid (fun l => mealy_lt scG scG_lt st l hst)
  clear h hi hz0 hz1 hz2
  go_enter Try.func24, Try.ntmps24
  go_wp2_with (first | (go_at_call 31; refine (implOk_any _ _ hmax).mono ?_; rintro e w' ⟨rfl, rfl⟩; rw [H.out]) | (go_at_call 38; refine (sent_any s _ H.out).mono ?_; rintro e w1 ⟨rfl, hc1, hb1⟩; have HC1 := Lib.hid hc1; have HB1 := Lib.hid hb1; clear hc1 hb1))
  go_loopw [8, 9] (fun b v wr => ∃ k : Nat, k ≤ s.size ∧ b = .int .i64 ((mealy scG st (s.data.toList.take k)).1 : Nat) ∧ OB 5 wr (w.heap.size + 1) v (mealy scG st (s.data.toList.take k)).2 ∧ wr.heap[w.heap.size]? = some (.chan s.size (sentA (s.data.toList.drop k)) true s.size k false) ∧ Below w.heap.size w wr) (fun _ _ wr => chanLeft wr w.heap.size)
  case atStart => exact ⟨0, by omega, rfl, .inl ⟨rfl, rfl⟩, HC1.out, HB1.out⟩
  case round =>
    obtain ⟨k, hk, rfl, hown, hc, hb⟩ := hrel
    have HO := Lib.hid hown
    have HC := Lib.hid hc
    have HB := Lib.hid hb
    clear hown hc hb
    by_cases hlt : k < s.size
    · have HBIT := Lib.hid (ok_bit H.out hlt)
      have HS := Lib.hid (sc_take scG st s k hlt)
      have hl2 := sc_take_len scG st s k
      have hm1 := HLT.out (s.data.toList.take k)
      have HM := Lib.hid (chanLeft_of HC.out)
      generalize mealy scG st (s.data.toList.take k) = M at *
      obtain ⟨m1, m2⟩ := M
      simp only at hl2 hm1
      obtain ⟨one, hone⟩ : ∃ one, decide (s[k] = 49) = one := ⟨_, rfl⟩
      have HONE := Lib.hid hone
      clear hone
      go_upto_region 6 with fail
      refine OpsTo.region ?_
      simp only [List.size_toArray, List.length_cons, List.length_nil, Nat.reduceAdd, Nat.zero_add, List.range, List.range.loop]
      refine OpsTo.recv (c := w.heap.size) (z := .int .u8 0) true rfl rfl (by simp [go_sem, rcase]) HC.out (by rw [sentA_size, List.length_drop]; have := size_list s; omega) ?_
      rw [sentA_now s k hlt, sentA_next s k hlt]
      unfold sentV got
      rw [HONE.out]
      simp only [if_true]
      walk_nrm
      refine OpsTo.plain rfl rfl fun K hK => ?_
      go_simp
      refine hK _ _ ?_
      clear hK K
      walk_nrm
      refine OpsTo.end ?_
      have HC2 := Lib.hid (heap_setChan wr w.heap.size s.size (sentA (s.data.toList.drop (k + 1))) true s.size (k + 1) false (heap_lt HC.out))
      have HB2 := Lib.hid (below_setChan HB.out (Nat.le_refl _) s.size (sentA (s.data.toList.drop (k + 1))) true s.size (k + 1) false)
      have HO2 := Lib.hid (HO.out.chan (c := w.heap.size) (by omega) s.size (sentA (s.data.toList.drop (k + 1))) true s.size (k + 1) false)
      have hsize := size_setChan wr w.heap.size s.size (sentA (s.data.toList.drop (k + 1))) true s.size (k + 1) false
      generalize wr.setChan w.heap.size s.size (sentA (s.data.toList.drop (k + 1))) true s.size (k + 1) false = wx at *
      obtain ⟨o, ho⟩ : ∃ o, (one != tapB m1) = o := ⟨_, rfl⟩
      have hS2 := HS.out
      rw [HONE.out] at hS2
      have HS3 := Lib.hid (show mealy scG st (s.data.toList.take (k + 1)) = (nextS m1 one, m2 ++ [bitC o]) by rw [hS2, ← ho]; rfl)
      have HOO := Lib.hid ho
      have hby := xi_byte o
      have hbl := xi_le o
      have HBY := Lib.hid (show ((bitC o).toNat : Int) = 48 + xi o by omega)
      clear hby hS2 HS ho
      have hsb := HB2.out.size
      have HSB := Lib.hid (show w.heap.size < wx.heap.size from heap_lt HC2.out)
      have HNX := Lib.hid (show nextS m1 one < 128 from nextS_lt _ _)
      clear hsize hsb
      go_wp2_with (first | (go_at_call 30; refine (get_any m1 one _ hm1).mono ?_; rintro e w' ⟨rfl, rfl⟩; rw [HOO.out]; generalize nextS m1 one = nx at *; generalize hxo : xi o = xo at *; have HXO := Lib.hid hxo; clear hxo) | (at_builtin; refine wpList_append_OB _ rfl _ _ 22 rfl (w.heap.size + 1) 5 i0 Try.underlying22 HI.out HZ0.out HZ1.out HZ2.out _ m2 rfl (HO2.out.alloc _) ⟨_, 0, none⟩ 1 1 [bitC o] rfl rfl (one_new _ _ _ _ (show byteV (bitC o) = Value.int .u8 (48 + xo) by unfold byteV; rw [HBY.out])) (by simp; omega) (by have := HSB.out; simp; omega) ?_; intro v2 w2 hown2 hg2))
      have hch : w2.heap[w.heap.size]? = some (.chan s.size (sentA (s.data.toList.drop (k + 1))) true s.size (k + 1) false) := by
        rw [hg2.block w.heap.size (by have := HSB.out; simp; omega) (fun e => by have := (HO2.out.lt _ e.symm).1; omega), Below.heap_alloc wx _ _ HSB.out]
        exact HC2.out
      refine ⟨⟨k + 1, by omega, by rw [HS3.out], by rw [HS3.out]; exact hown2, hch, ?_⟩, ?_⟩
      · exact (HB2.out.alloc (by have := HSB.out; omega) _).grown hg2 (by have := HSB.out; simp; omega) (fun k hk => by have := (HO2.out.lt k hk).1; omega)
      · rw [chanLeft_of hch, HM.out, sentA_size, sentA_size, List.length_drop, List.length_drop]
        have := size_list s
        omega
    · have HE := Lib.hid (take_all s k (by omega))
      go_upto_region 6 with fail
      refine OpsTo.region ?_
      simp only [List.size_toArray, List.length_cons, List.length_nil, Nat.reduceAdd, Nat.zero_add, List.range, List.range.loop]
      refine OpsTo.shut (w' := wr) (c := w.heap.size) (z := .int .u8 0) (cap := s.size) (s := s.size) (r := k) (tm := false) true rfl rfl (by simp [go_sem, rcase]) (by rw [HC.out, sentA_none s k (by omega)]) ?_
      unfold got
      simp only [if_true]
      walk_nrm
      refine OpsTo.plain rfl rfl fun K hK => ?_
      go_simp
      refine hK _ _ ?_
      clear hK K
      walk_nrm
      refine OpsTo.end ?_
      have hcv := run_string_of_OB (P := Try.prog) wr.drew 22 9 5 (w.heap.size + 1) _ _ Try.underlying22 Try.underlying5 Try.underlying9 HO.out.drew
      go_wp2_with fail
      go_region
      go_wp2
      go_ret2
      exact ⟨by rw [HE.out]; rfl, HB.out.drew⟩
end Go.Proofs.Ytcljldnaecldnaa
