/- HdlcFeed of the program. -/
import Derived.Test.YtekhakapmpdnaaaHdlcE
import Derived.Test.YtekhakapmpdnaaaHdlcC
namespace Go.Proofs.Ytekhakapmpdnaaa
open Go.ChangeShapes Go.WideShapes Go.ChangeAt Go.RowKit
theorem evL_kind (kd : Int) (m : List UInt8) (e : Ev) (h : evL kd m = some e) : 1 ≤ e.kind ∧ e.kind ≤ 6 := by
  unfold evL at h
  split at h
  · cases h
  split at h
  · injection h with h; subst h; simp
  split at h
  · injection h with h; subst h; simp
  split at h
  · injection h with h; subst h; simp
  injection h with h; subst h
  unfold evB
  split <;> simp
theorem hstep_kind (kd : Int) (h : HS) (c : UInt8) (e : Ev) (he : (hstep kd h c).2 = some e) : 1 ≤ e.kind ∧ e.kind ≤ 6 := by
  unfold hstep at he
  split at he
  · split at he
    · unfold inOne at he
      split at he
      · injection he with he; subst he; simp
      · split at he <;> cases he
    · cases he
  · split at he
    · unfold inNought at he
      split at he
      · cases he
      · split at he
        · exact evL_kind _ _ _ he
        · cases he
    · cases he
theorem nil_in (m : Nat) (B : ByteArray) (w : World) : (nilAhead 237 99 (.agg #[.int .i64 m, .string B]) "loop.example/cotterpin/impl.take").run Try.prog w = .ok (some false) w := by kernel_rfl
theorem nil_out (m : Nat) (w : World) : (nilAhead 237 101 (.agg #[.int .i64 m]) "loop.example/cotterpin/impl.take").run Try.prog w = .ok (some false) w := by kernel_rfl
theorem meth_in (m : Nat) (B : ByteArray) (w : World) : (method 237 99 (.agg #[.int .i64 m, .string B]) "loop.example/cotterpin/impl.take").run Try.prog w = .ok (101, .agg #[.int .i64 m, .string B]) w := by kernel_rfl
theorem meth_out (m : Nat) (w : World) : (method 237 101 (.agg #[.int .i64 m]) "loop.example/cotterpin/impl.take").run Try.prog w = .ok (112, .agg #[.int .i64 m]) w := by kernel_rfl
theorem meth_in2 (m : Nat) (B : ByteArray) (w : World) : (method 237 99 (.agg #[.int .i64 m, .string B]) "loop.example/cotterpin/impl.shown").run Try.prog w = .ok (100, .agg #[.int .i64 m, .string B]) w := by kernel_rfl
theorem meth_out2 (m : Nat) (w : World) : (method 237 101 (.agg #[.int .i64 m]) "loop.example/cotterpin/impl.shown").run Try.prog w = .ok (111, .agg #[.int .i64 m]) w := by kernel_rfl
/-- behind the region: the event's box, the slice of events, the first two boxes -/
theorem feed_behind {w wr w3 : World} {t2 : TypeId} {u v : Value} {a b c d e f : Value} {t t3 : TypeId} {ev : Value} {evs : List Ev}
    (h : Below (wr.alloc (.cells #[u, v] t2)).drew.heap.size (wr.alloc (.cells #[u, v] t2)).drew w3) (htwo : Two w wr t t3 a b c d e f) (hoe : OE wr (w.heap.size + 2) ev evs) :
    (w3.cell? ⟨wr.heap.size, 0, none⟩ = some u ∧ w3.cell? ⟨wr.heap.size, 1, none⟩ = some v ∧ w3.frozen? ⟨wr.heap.size, 0, none⟩ = false ∧ w3.frozen? ⟨wr.heap.size, 1, none⟩ = false) ∧ wr.heap.size < w3.heap.size ∧
    ∀ x y, (((w3.setCell ⟨wr.heap.size, 0, none⟩ x).setCell ⟨wr.heap.size, 1, none⟩ y).cell? ⟨wr.heap.size, 0, none⟩ = some x ∧ ((w3.setCell ⟨wr.heap.size, 0, none⟩ x).setCell ⟨wr.heap.size, 1, none⟩ y).cell? ⟨wr.heap.size, 1, none⟩ = some y) ∧ Two w ((w3.setCell ⟨wr.heap.size, 0, none⟩ x).setCell ⟨wr.heap.size, 1, none⟩ y) t t3 a b c d e f ∧ OE ((w3.setCell ⟨wr.heap.size, 0, none⟩ x).setCell ⟨wr.heap.size, 1, none⟩ y) (w.heap.size + 2) ev evs := by
  have hs : (wr.alloc (.cells #[u, v] t2)).drew.heap.size = wr.heap.size + 1 := by simp
  have hlt : wr.heap.size < (wr.alloc (.cells #[u, v] t2)).drew.heap.size := by rw [hs]; omega
  have hbw : Below wr.heap.size wr w3 := ((Below.refl _ wr).alloc (Nat.le_refl _) _).drew.trans (h.mono (by rw [hs]; omega))
  refine ⟨⟨(h.cell (p := ⟨wr.heap.size, 0, none⟩) hlt).trans (by simp), (h.cell (p := ⟨wr.heap.size, 1, none⟩) hlt).trans (by simp), (h.frozen (p := ⟨wr.heap.size, 0, none⟩) hlt).trans (by simp), (h.frozen (p := ⟨wr.heap.size, 1, none⟩) hlt).trans (by simp)⟩, Nat.lt_of_lt_of_le hlt h.size, fun x y => ?_⟩
  have hb2 : Below wr.heap.size wr ((w3.setCell ⟨wr.heap.size, 0, none⟩ x).setCell ⟨wr.heap.size, 1, none⟩ y) := (hbw.setCell (Nat.le_refl _) _).setCell (Nat.le_refl _) _
  have k0 := (h.cell (p := ⟨wr.heap.size, 0, none⟩) hlt).trans (show _ = some u by simp)
  have k1 := (h.cell (p := ⟨wr.heap.size, 1, none⟩) hlt).trans (show _ = some v by simp)
  refine ⟨⟨by simp [go_sem, k0], by simp [go_sem, k1]⟩, htwo.from hb2, ?_⟩
  refine World.ownsRow.kept hoe (row := none) ⟨hb2.os, hb2.tape, hb2.output, hb2.size, fun g hg _ => hb2.block g hg⟩ ?_
  cases ev.ownBlock <;> simp
set_option maxRecDepth 100000 in
set_option maxHeartbeats 2000000 in
theorem implFeed_yes (kd : Int) (i : Bool) (n : Nat) (b s : ByteArray) (w : World) (hk : kindB kd = true) (hok : hokB ⟨i, n, b.data.toList⟩ = true) (hs : okB s.data.toList = true) :
    Calls Try.prog 14 #[.int .i64 kd, .agg #[.bool i, .int .i64 n, .string b], .string s] w (FeedPost w (hfeed kd ⟨i, n, b.data.toList⟩ s.data.toList)) := by
  have hz := zero_hdlc
  have hz2 := zero_event
  have hsz := ok_size hs
  have hmax : s.size ≤ maxLen := by unfold maxLen; omega
  have HO := Lib.hid (hok_okH hok)
  have hbs : b.size ≤ 240 := by have := ((hok_iff _).1 hok).2.1; simpa [size_list] using this
  have hbm : b.size ≤ maxLen := by unfold maxLen; omega
  have HH := Lib.hid hok
  have HSO := Lib.hid hs
  have HK := Lib.hid hk
  have HSL := Lib.hid (size_list s)
  obtain ⟨i0, hi, hz0, hz1, hz3⟩ := info_parts info_ev
  have HI := Lib.hid hi
  have HZ0 := Lib.hid hz0
  have HZ1 := Lib.hid hz1
  have HZ2 := Lib.hid hz3
  clear hok hs hk hi hz0 hz1 hz3
  go_enter Try.func14, Try.ntmps14
  go_wp2_with fail
  refine (polyOf_yes kd _ HK.out).mono ?_
  rintro e w' ⟨rfl, rfl⟩
  go_wp2_with fail
  refine (implHok_any i n b _ hbm).mono ?_
  rintro e w1 ⟨rfl, hb1⟩
  rw [HO.out]
  have htwo := (Two.start w _ _ _ _ _ _ _ _).from hb1
  obtain ⟨c0, c1, c2, c3, c4, c5⟩ := htwo.cells
  have HTwo := Lib.hid htwo
  clear htwo hb1
  go_wp2_with fail
  refine (implOk_any s _ hmax).mono ?_
  rintro e w' ⟨rfl, rfl⟩
  rw [HSO.out]
  go_wp2_with fail
  refine (stateOf_any i n b _).mono ?_
  rintro e w2 ⟨rfl, hb2⟩
  have HTwo2 := Lib.hid (HTwo.out.from hb2)
  have hsz2 := HTwo2.out.2.2.1
  clear hb2 c0 c1 c2 c3 c4 c5
  go_wp2_with fail
  go_loopw [10, 11, 12, 13, 36] (fun ev st _ _ j wr => ∃ k : Nat, k ≤ s.size ∧ j = .int .i64 k ∧ st = stV (hfeed kd ⟨i, n, b.data.toList⟩ (s.data.toList.take k)).1 ∧ OE wr (w.heap.size + 2) ev (hfeed kd ⟨i, n, b.data.toList⟩ (s.data.toList.take k)).2 ∧ Two w wr 29 29 (.bool i) (.int .i64 n) (.string b) (.bool false) (.int .i64 0) (.string ⟨#[]⟩)) (fun _ _ _ _ j _ => s.size - (intOf j).toNat)
  case atStart => exact ⟨0, Nat.zero_le _, rfl, rfl, World.ownsRow_nil _ _ _ _, HTwo2.out⟩
  case round =>
    obtain ⟨k, hk, rfl, rfl, hoe, htwo⟩ := hrel
    have HOE := Lib.hid hoe
    have HT := Lib.hid htwo
    have hokk := hfeed_ok kd (s.data.toList.take k) _ HH.out
    have hel := hfeed_len kd (s.data.toList.take k) ⟨i, n, b.data.toList⟩
    have hl2 : (s.data.toList.take k).length ≤ k := List.length_take_le _ _
    have hws := htwo.2.2.1
    clear hoe htwo HTwo HTwo2 hsz2
    by_cases hlt : k < s.size
    · have HS := Lib.hid (show hfeed kd ⟨i, n, b.data.toList⟩ (s.data.toList.take (k + 1)) = hgo kd (hfeed kd ⟨i, n, b.data.toList⟩ (s.data.toList.take k)) s[k] by rw [snoc_take s k hlt, hfeed_snoc])
      have hbit : bitB s[k] = true := by rcases ok_bit HSO.out hlt with h | h <;> rw [h] <;> rfl
      have HBit := Lib.hid hbit
      clear hbit
      generalize hfeed kd ⟨i, n, b.data.toList⟩ (s.data.toList.take k) = p at *
      obtain ⟨⟨inn, m, bs⟩, evs⟩ := p
      obtain ⟨B, rfl⟩ : ∃ B : ByteArray, B.data.toList = bs := ⟨⟨bs.toArray⟩, rfl⟩
      simp only at hokk hel HOE
      obtain ⟨hm7, hB240, hBb, hBe⟩ := (hok_iff _).1 hokk
      simp only [size_list] at hm7 hB240 hBb hBe
      cases inn with
      | true =>
        rw [show stV ⟨true, m, B.data.toList⟩ = .iface 99 (.agg #[.int .i64 m, .string B]) from rfl]
        have HBb := Lib.hid hBb
        clear hBb hBe hokk
        have q1 := nil_in m B
        have q2 := meth_in m B
        have hko := hstep_kind kd ⟨true, m, B.data.toList⟩ s[k]
        obtain ⟨q, hq⟩ : ∃ q, hstep kd ⟨true, m, B.data.toList⟩ s[k] = q := ⟨_, rfl⟩
        rw [hq] at hko
        have HQ := Lib.hid hq
        clear hq
        obtain ⟨h', o⟩ := q
        cases o with
        | none =>
          clear hko
          go_wp2_with fail
          go_region_with ((go_at_call 101; refine (inTake_any kd m B s[k] _ HK.out hm7 hB240 HBb.out HBit.out).mono ?_; rintro e w3 ⟨rfl, hb3⟩; rw [HQ.out, retTwo, evV]; obtain ⟨⟨c0, c1, f0, f1⟩, hlt3, hbeh⟩ := feed_behind hb3 HT.out HOE.out; have HBeh := Lib.hid hbeh; clear hb3 hbeh))
          all_goals
            obtain ⟨⟨d0, d1⟩, htwo4, hoe4⟩ := HBeh.out (.int .i64 0) (.string ⟨#[]⟩)
            generalize (w3.setCell ⟨wr.heap.size, 0, none⟩ (.int .i64 0)).setCell ⟨wr.heap.size, 1, none⟩ (.string ⟨#[]⟩) = w4 at *
            have HT4 := Lib.hid htwo4
            have HOE4 := Lib.hid hoe4
            clear htwo4 hoe4 HBeh c0 c1 f0 f1
            go_wp2
            go_roundw
            case rel => exact ⟨k + 1, by omega, by go_num, by rw [HS.out, hgo, HQ.out], by rw [HS.out, hgo, HQ.out]; simpa using HOE4.out, HT4.out⟩
            case measure => simp [intOf]; omega
        | some ev =>
          obtain ⟨hk1, hk6⟩ := hko ev rfl
          have hkne : (ev.kind != 0) = true := by rw [bne_iff_ne]; omega
          clear hko
          go_wp2_with fail
          go_region_with ((go_at_call 101; refine (inTake_any kd m B s[k] _ HK.out hm7 hB240 HBb.out HBit.out).mono ?_; rintro e w3 ⟨rfl, hb3⟩; rw [HQ.out, retTwo, evV]; obtain ⟨⟨c0, c1, f0, f1⟩, hlt3, hbeh⟩ := feed_behind hb3 HT.out HOE.out; have HBeh := Lib.hid hbeh; clear hb3 hbeh))
          all_goals
            obtain ⟨⟨d0, d1⟩, htwo4, hoe4⟩ := HBeh.out (.int .i64 ev.kind) (.string ⟨ev.text.toArray⟩)
            generalize (w3.setCell ⟨wr.heap.size, 0, none⟩ (.int .i64 ev.kind)).setCell ⟨wr.heap.size, 1, none⟩ (.string ⟨ev.text.toArray⟩) = w4 at *
            have HT4 := Lib.hid htwo4
            have HOE4 := Lib.hid hoe4
            clear htwo4 hoe4 HBeh c0 c1 f0 f1
            go_wp2_with (at_builtin; refine wpList_append_ev _ rfl _ _ 30 rfl (w.heap.size + 2) i0 Try.underlying30 HI.out HZ0.out HZ1.out HZ2.out _ evs rfl (HOE4.out.alloc _) w4.heap.size (w4.heap.size + 1) _ [ev] rfl (RE_new w4 ev) (by simp; omega) (by have := HT4.out.2.2.1; simp; omega) ?_; intro v5 w5 ho5 hg5 hat5; have HOE5 := Lib.hid ho5; have HT5 := Lib.hid (two_grown HT4.out HOE4.out hg5); clear ho5 hg5 hat5)
            go_roundw
            case rel => exact ⟨k + 1, by omega, by go_num, by rw [HS.out, hgo, HQ.out], by rw [HS.out, hgo, HQ.out]; exact HOE5.out, HT5.out⟩
            case measure => simp [intOf]; omega
      | false =>
        rw [hBe rfl] at HS
        rw [show stV ⟨false, m, B.data.toList⟩ = .iface 101 (.agg #[.int .i64 m]) from rfl]
        clear hBb hBe hokk hB240
        have q1 := nil_out m
        have q2 := meth_out m
        have hko := hstep_kind kd ⟨false, m, []⟩ s[k]
        obtain ⟨q, hq⟩ : ∃ q, hstep kd ⟨false, m, []⟩ s[k] = q := ⟨_, rfl⟩
        rw [hq] at hko
        have HQ := Lib.hid hq
        clear hq
        obtain ⟨h', o⟩ := q
        cases o with
        | none =>
          clear hko
          go_wp2_with fail
          go_region_with ((go_at_call 112; refine (outTake_any kd m s[k] _ hm7 HBit.out).mono ?_; rintro e w3 ⟨rfl, hb3⟩; rw [HQ.out, retTwo, evV]; obtain ⟨⟨c0, c1, f0, f1⟩, hlt3, hbeh⟩ := feed_behind hb3 HT.out HOE.out; have HBeh := Lib.hid hbeh; clear hb3 hbeh))
          all_goals
            obtain ⟨⟨d0, d1⟩, htwo4, hoe4⟩ := HBeh.out (.int .i64 0) (.string ⟨#[]⟩)
            generalize (w3.setCell ⟨wr.heap.size, 0, none⟩ (.int .i64 0)).setCell ⟨wr.heap.size, 1, none⟩ (.string ⟨#[]⟩) = w4 at *
            have HT4 := Lib.hid htwo4
            have HOE4 := Lib.hid hoe4
            clear htwo4 hoe4 HBeh c0 c1 f0 f1
            go_wp2
            go_roundw
            case rel => exact ⟨k + 1, by omega, by go_num, by rw [HS.out, hgo, HQ.out], by rw [HS.out, hgo, HQ.out]; simpa using HOE4.out, HT4.out⟩
            case measure => simp [intOf]; omega
        | some ev =>
          obtain ⟨hk1, hk6⟩ := hko ev rfl
          have hkne : (ev.kind != 0) = true := by rw [bne_iff_ne]; omega
          clear hko
          go_wp2_with fail
          go_region_with ((go_at_call 112; refine (outTake_any kd m s[k] _ hm7 HBit.out).mono ?_; rintro e w3 ⟨rfl, hb3⟩; rw [HQ.out, retTwo, evV]; obtain ⟨⟨c0, c1, f0, f1⟩, hlt3, hbeh⟩ := feed_behind hb3 HT.out HOE.out; have HBeh := Lib.hid hbeh; clear hb3 hbeh))
          all_goals
            obtain ⟨⟨d0, d1⟩, htwo4, hoe4⟩ := HBeh.out (.int .i64 ev.kind) (.string ⟨ev.text.toArray⟩)
            generalize (w3.setCell ⟨wr.heap.size, 0, none⟩ (.int .i64 ev.kind)).setCell ⟨wr.heap.size, 1, none⟩ (.string ⟨ev.text.toArray⟩) = w4 at *
            have HT4 := Lib.hid htwo4
            have HOE4 := Lib.hid hoe4
            clear htwo4 hoe4 HBeh c0 c1 f0 f1
            go_wp2_with (at_builtin; refine wpList_append_ev _ rfl _ _ 30 rfl (w.heap.size + 2) i0 Try.underlying30 HI.out HZ0.out HZ1.out HZ2.out _ evs rfl (HOE4.out.alloc _) w4.heap.size (w4.heap.size + 1) _ [ev] rfl (RE_new w4 ev) (by simp; omega) (by have := HT4.out.2.2.1; simp; omega) ?_; intro v5 w5 ho5 hg5 hat5; have HOE5 := Lib.hid ho5; have HT5 := Lib.hid (two_grown HT4.out HOE4.out hg5); clear ho5 hg5 hat5)
            go_roundw
            case rel => exact ⟨k + 1, by omega, by go_num, by rw [HS.out, hgo, HQ.out], by rw [HS.out, hgo, HQ.out]; exact HOE5.out, HT5.out⟩
            case measure => simp [intOf]; omega
    · have HE := Lib.hid (take_all s k (by omega))
      rw [HE.out] at hokk HOE
      rw [HE.out]
      generalize hfeed kd ⟨i, n, b.data.toList⟩ s.data.toList = p at *
      obtain ⟨⟨inn, m, bs⟩, evs⟩ := p
      obtain ⟨B, rfl⟩ : ∃ B : ByteArray, B.data.toList = bs := ⟨⟨bs.toArray⟩, rfl⟩
      simp only at hokk HOE
      obtain ⟨hm7, hB240, hBb, hBe⟩ := (hok_iff _).1 hokk
      simp only [size_list] at hm7 hB240 hBe
      cases inn with
      | true =>
        rw [show stV ⟨true, m, B.data.toList⟩ = .iface 99 (.agg #[.int .i64 m, .string B]) from rfl]
        clear hBb hBe hokk
        have q2 := meth_in2 m B
        go_wp2_with fail
        refine (inShown_any m B _ hB240).mono ?_
        rintro e w3 ⟨rfl, hb3⟩
        have htwo3 := HT.out.from hb3
        obtain ⟨_, _, _, c3, c4, c5⟩ := htwo3.cells
        obtain ⟨_, _, _, f3, f4, f5⟩ := htwo3.free
        have HPost := Lib.hid (feed_end (h := ⟨true, m, B.data.toList⟩) HT.out HOE.out hb3)
        clear htwo3 hb3
        rw [hV]
        go_wp2
        exact bodyPost_ret (v := .tuple #[.agg #[.bool true, .int .i64 m, .string B], u10]) (by simp [results, Try.results14, go_sem, c3, c4, c5]) rfl (HPost.out _ _ _ rfl)
      | false =>
        have HB0 := Lib.hid (hBe rfl)
        rw [show stV ⟨false, m, B.data.toList⟩ = .iface 101 (.agg #[.int .i64 m]) from rfl]
        clear hBb hBe hokk
        have q2 := meth_out2 m
        go_wp2_with fail
        refine (outShown_any m _).mono ?_
        rintro e w3 ⟨rfl, hb3⟩
        have htwo3 := HT.out.from hb3
        obtain ⟨_, _, _, c3, c4, c5⟩ := htwo3.cells
        obtain ⟨_, _, _, f3, f4, f5⟩ := htwo3.free
        have HPost := Lib.hid (feed_end (h := ⟨false, m, []⟩) HT.out HOE.out hb3)
        clear htwo3 hb3
        rw [hV]
        go_wp2
        exact bodyPost_ret (v := .tuple #[.agg #[.bool false, .int .i64 m, .string ⟨#[]⟩], u10]) (by simp [results, Try.results14, go_sem, c3, c4, c5]) rfl (by rw [HB0.out]; exact HPost.out _ _ _ rfl)
end Go.Proofs.Ytekhakapmpdnaaa
