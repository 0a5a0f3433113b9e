/- The model's HdlcFeed. -/
import Derived.Test.YtekhakapmpdnaaaHdlcH
namespace Go.Proofs.Ytekhakapmpdnaaa
open Go.ChangeShapes Go.WideShapes Go.ChangeAt Go.RowKit
theorem old_cells {W w1 : World} (hb : Below W.heap.size W w1) : (∀ g o, g < W.heap.size → w1.cell? ⟨g, o, none⟩ = W.cell? ⟨g, o, none⟩) ∧ (∀ g o, g < W.heap.size → w1.frozen? ⟨g, o, none⟩ = W.frozen? ⟨g, o, none⟩) :=
  ⟨fun g o h => hb.cell (p := ⟨g, o, none⟩) h, fun g o h => hb.frozen (p := ⟨g, o, none⟩) h⟩
/-- behind the region of a round: the new finder's box g, the two first boxes, the events so far and the new ones -/
def Behind (w wr w4 : World) (g : Nat) (x y z : Value) (a b c d e f : Value) (out : Value) (evs : List Ev) (v : Value) (l : List Ev) : Prop :=
  (w4.cell? ⟨g, 0, none⟩ = some x ∧ w4.cell? ⟨g, 1, none⟩ = some y ∧ w4.cell? ⟨g, 2, none⟩ = some z) ∧ wr.heap.size ≤ g ∧ wr.heap.size ≤ w4.heap.size ∧ Two w w4 29 29 a b c d e f ∧ OE w4 (w.heap.size + 2) out evs ∧ RE w4 wr.heap.size w4.heap.size v l
section
variable {w wr w3 : World} {x y z x0 y0 z0 a b c d e f out v : Value} {evs l : List Ev}
theorem behind_after (hb : Below wr.drew.heap.size wr.drew w3) (hre : RE w3 wr.drew.heap.size w3.heap.size v l) (htwo : Two w wr 29 29 a b c d e f) (hoe : OE wr (w.heap.size + 2) out evs) :
    Behind w wr (w3.alloc (.cells #[x, y, z] 29)) w3.heap.size x y z a b c d e f out evs v l := by
  have hb2 : Below wr.heap.size wr w3 := (Below.refl _ wr).drew.trans hb
  have hb3 : Below wr.heap.size wr (w3.alloc (.cells #[x, y, z] 29)) := hb2.alloc hb2.size _
  refine ⟨⟨by simp, by simp, by simp⟩, hb2.size, hb3.size, htwo.from hb3, hoe.below hb3, ?_⟩
  exact (hre.keep fun p _ hp => World.cell?_alloc_lt w3 _ p hp).mono (Nat.le_refl _) (by simp)
theorem behind_before (hb : Below (wr.drew.alloc (.cells #[x0, y0, z0] 29)).heap.size (wr.drew.alloc (.cells #[x0, y0, z0] 29)) w3) (hre : RE w3 (wr.drew.alloc (.cells #[x0, y0, z0] 29)).heap.size w3.heap.size v l) (htwo : Two w wr 29 29 a b c d e f) (hoe : OE wr (w.heap.size + 2) out evs) :
    Behind w wr (((w3.setCell ⟨wr.heap.size, 0, none⟩ x).setCell ⟨wr.heap.size, 1, none⟩ y).setCell ⟨wr.heap.size, 2, none⟩ z) wr.heap.size x y z a b c d e f out evs v l := by
  have hs : (wr.drew.alloc (.cells #[x0, y0, z0] 29)).heap.size = wr.heap.size + 1 := by simp
  have hlt : wr.heap.size < (wr.drew.alloc (.cells #[x0, y0, z0] 29)).heap.size := by rw [hs]; omega
  have hb2 : Below wr.heap.size wr w3 := Below.trans ((Below.refl wr.heap.size wr).drew.alloc (Nat.le_refl _) _) (hb.mono (Nat.le_of_lt hlt))
  have hb3 : Below wr.heap.size wr (((w3.setCell ⟨wr.heap.size, 0, none⟩ x).setCell ⟨wr.heap.size, 1, none⟩ y).setCell ⟨wr.heap.size, 2, none⟩ z) := ((hb2.setCell (Nat.le_refl _) _).setCell (Nat.le_refl _) _).setCell (Nat.le_refl _) _
  have k0 := (hb.cell (p := ⟨wr.heap.size, 0, none⟩) hlt).trans (show (wr.drew.alloc (.cells #[x0, y0, z0] 29)).cell? ⟨wr.drew.heap.size, 0, none⟩ = some x0 by rw [cell_of_row _ _ 0 _ _ _ (heap_alloc_new wr.drew (.cells #[x0, y0, z0] 29))]; rfl)
  have k1 := (hb.cell (p := ⟨wr.heap.size, 1, none⟩) hlt).trans (show (wr.drew.alloc (.cells #[x0, y0, z0] 29)).cell? ⟨wr.drew.heap.size, 1, none⟩ = some y0 by rw [cell_of_row _ _ 1 _ _ _ (heap_alloc_new wr.drew (.cells #[x0, y0, z0] 29))]; rfl)
  have k2 := (hb.cell (p := ⟨wr.heap.size, 2, none⟩) hlt).trans (show (wr.drew.alloc (.cells #[x0, y0, z0] 29)).cell? ⟨wr.drew.heap.size, 2, none⟩ = some z0 by rw [cell_of_row _ _ 2 _ _ _ (heap_alloc_new wr.drew (.cells #[x0, y0, z0] 29))]; rfl)
  refine ⟨⟨by simp [go_sem, k0], by simp [go_sem, k1], by simp [go_sem, k2]⟩, Nat.le_refl _, hb3.size, htwo.from hb3, hoe.below hb3, ?_⟩
  rw [hs] at hre
  have h1 := ((hre.setCell (p := ⟨wr.heap.size, 0, none⟩) (by simp) x).setCell (p := ⟨wr.heap.size, 1, none⟩) (by simp) y).setCell (p := ⟨wr.heap.size, 2, none⟩) (by simp) z
  exact h1.mono (by omega) (by simp)
end
set_option maxRecDepth 100000 in
set_option maxHeartbeats 6000000 in
theorem l4Feed_any (kd : Int) (i : Bool) (n : Nat) (b s : ByteArray) (w : World) (hk : kindB kd = true) (hok : hokB ⟨i, n, b.data.toList⟩ = true) (hs : okB s.data.toList = true) :
    Calls Try.prog 49 #[.int .i64 kd, .agg #[.bool i, .int .i64 n, .string b], .string s] w (FeedPost w (hfeed kd ⟨i, n, b.data.toList⟩ s.data.toList)) := by
  have hz := zero_hdlc
  have hsz := ok_size hs
  have hmax : s.size ≤ maxLen := by unfold maxLen; omega
  have HH := Lib.hid hok
  have HSO := Lib.hid hs
  have HK := Lib.hid hk
  have HSL := Lib.hid (size_list s)
  obtain ⟨i0, hi, hz0, hz1, hz3⟩ := info_parts info_ev
  have HI := Lib.hid hi
  have HZ0 := Lib.hid hz0
  have HZ1 := Lib.hid hz1
  have HZ2 := Lib.hid hz3
  clear hok hs hk hi hz0 hz1 hz3
  go_enter Try.func49, Try.ntmps49
  go_wp2_with fail
  go_loopw [8, 9, 10, 11] (fun out j _ _ wr => ∃ k : Nat, k ≤ s.size ∧ j = .int .i64 k ∧ OE wr (w.heap.size + 2) out (hfeed kd ⟨i, n, b.data.toList⟩ (s.data.toList.take k)).2 ∧ Two w wr 29 29 (.bool (hfeed kd ⟨i, n, b.data.toList⟩ (s.data.toList.take k)).1.inn) (.int .i64 (hfeed kd ⟨i, n, b.data.toList⟩ (s.data.toList.take k)).1.ones) (.string ⟨(hfeed kd ⟨i, n, b.data.toList⟩ (s.data.toList.take k)).1.bits.toArray⟩) (.bool false) (.int .i64 0) (.string ⟨#[]⟩)) (fun _ j _ _ _ => s.size - (intOf j).toNat)
  case atStart => exact ⟨0, Nat.zero_le _, rfl, ⟨by simp [evCs, hfeed], .inr ⟨_, 0, #[], by simp [hfeed], by simp, heap_alloc_new ((w.alloc _).alloc _) _, by simp [hfeed], by simp [maxLen], by simp, by simp [evCs, hfeed]⟩⟩, (Two.start w _ _ _ _ _ _ _ _).from ((Below.refl _ _).alloc (Nat.le_refl _) _)⟩
  case round =>
    obtain ⟨k, hk, rfl, hoe, htwo⟩ := hrel
    have HOE := Lib.hid hoe
    have HT := Lib.hid htwo
    have hokk := hfeed_ok kd (s.data.toList.take k) _ HH.out
    have hel := hfeed_len kd (s.data.toList.take k) ⟨i, n, b.data.toList⟩
    have hl2 : (s.data.toList.take k).length ≤ k := List.length_take_le _ _
    have hws := htwo.2.2.1
    clear hoe htwo
    by_cases hlt : k < s.size
    · have HS := Lib.hid (show hfeed kd ⟨i, n, b.data.toList⟩ (s.data.toList.take (k + 1)) = hgo kd (hfeed kd ⟨i, n, b.data.toList⟩ (s.data.toList.take k)) s[k] by rw [snoc_take s k hlt, hfeed_snoc])
      have hbit : bitB s[k] = true := by rcases ok_bit HSO.out hlt with h | h <;> rw [h] <;> rfl
      have HBit := Lib.hid hbit
      clear hbit
      generalize hfeed kd ⟨i, n, b.data.toList⟩ (s.data.toList.take k) = p at *
      obtain ⟨⟨inn, m, bs⟩, evs⟩ := p
      obtain ⟨B, rfl⟩ : ∃ B : ByteArray, B.data.toList = bs := ⟨⟨bs.toArray⟩, rfl⟩
      simp only at hokk hel HOE HT
      rw [Lib.mk_data] at HT
      obtain ⟨c0, c1, c2, _, _, _⟩ := HT.out.cells
      obtain ⟨f0, f1, f2, _, _, _⟩ := HT.out.free
      have HOKK := Lib.hid hokk
      obtain ⟨q, hq⟩ : ∃ q, hstep kd ⟨inn, m, B.data.toList⟩ s[k] = q := ⟨_, rfl⟩
      have HQ := Lib.hid hq
      clear hq hokk
      obtain ⟨⟨inn', m', bs'⟩, o⟩ := q
      have hl0 : w.heap.size < wr.heap.size := by omega
      have hl1 : w.heap.size ≠ wr.heap.size := by omega
      have ca0 : ∀ o : Obj, (wr.drew.alloc o).cell? ⟨w.heap.size, 0, none⟩ = some (.bool inn) := fun o => (World.cell?_alloc_lt wr.drew o ⟨w.heap.size, 0, none⟩ hl0).trans c0
      have ca1 : ∀ o : Obj, (wr.drew.alloc o).cell? ⟨w.heap.size, 1, none⟩ = some (.int .i64 m) := fun o => (World.cell?_alloc_lt wr.drew o ⟨w.heap.size, 1, none⟩ hl0).trans c1
      have ca2 : ∀ o : Obj, (wr.drew.alloc o).cell? ⟨w.heap.size, 2, none⟩ = some (.string B) := fun o => (World.cell?_alloc_lt wr.drew o ⟨w.heap.size, 2, none⟩ hl0).trans c2
      go_wp2_with fail
      go_region_with ((go_at_call 66; refine (l4Bit_any kd inn m B s[k] _ HK.out HOKK.out HBit.out).mono ?_; rintro e w3 ⟨⟨v3, rfl, hre3⟩, hb3⟩; rw [HQ.out, hV]; rw [HQ.out] at hre3; obtain ⟨hc3, hf3⟩ := old_cells hb3; have hz3 := hb3.size; have HB3 := Lib.hid hb3; have HRE3 := Lib.hid hre3; clear hb3 hre3))
      all_goals
        (first
          | (have hq := behind_after (x := .bool inn') (y := .int .i64 m') (z := .string ⟨bs'.toArray⟩) HB3.out HRE3.out HT.out HOE.out; generalize (w3.alloc (.cells #[.bool inn', .int .i64 m', .string ⟨bs'.toArray⟩] 29)) = w4 at hq ⊢; generalize w3.heap.size = g at hq hz3 hc3 hf3 ⊢)
          | (have hq := behind_before (x := .bool inn') (y := .int .i64 m') (z := .string ⟨bs'.toArray⟩) HB3.out HRE3.out HT.out HOE.out; generalize ((w3.setCell ⟨wr.heap.size, 0, none⟩ (.bool inn')).setCell ⟨wr.heap.size, 1, none⟩ (.int .i64 m')).setCell ⟨wr.heap.size, 2, none⟩ (.string ⟨bs'.toArray⟩) = w4 at hq ⊢; obtain ⟨g, hgg⟩ : ∃ g, wr.heap.size = g := ⟨_, rfl⟩; have hq' := hgg ▸ hq; rw [hgg] at hq; skip))
        obtain ⟨⟨e0, e1, e2⟩, hg4, hsz4, htwo4, hoe4, hre4⟩ := hq
        obtain ⟨k0, k1, k2, _, _, _⟩ := htwo4.cells
        obtain ⟨l0, l1, l2, _, _, _⟩ := htwo4.free
        have hne : w.heap.size ≠ g := by omega
        have HT4 := Lib.hid (htwo4.put (.bool inn') (.int .i64 m') (.string ⟨bs'.toArray⟩))
        have HOE4 := Lib.hid (((hoe4.put (p := ⟨w.heap.size, 0, none⟩) (by simp) (.bool inn')).put (p := ⟨w.heap.size, 1, none⟩) (by simp) (.int .i64 m')).put (p := ⟨w.heap.size, 2, none⟩) (by simp) (.string ⟨bs'.toArray⟩))
        have HRE4 := Lib.hid (((hre4.setCell (p := ⟨w.heap.size, 0, none⟩) hl0 (.bool inn')).setCell (p := ⟨w.heap.size, 1, none⟩) hl0 (.int .i64 m')).setCell (p := ⟨w.heap.size, 2, none⟩) hl0 (.string ⟨bs'.toArray⟩))
        have hol : o.toList.length ≤ 1 := by cases o <;> simp
        clear htwo4 hoe4 hre4 HB3 HRE3 HT HOE c0 c1 c2 f0 f1 f2 ca0 ca1 ca2 hc3 hf3
        go_wp2_with (at_builtin; refine wpList_append_ev _ rfl _ _ 30 rfl (w.heap.size + 2) i0 Try.underlying30 HI.out HZ0.out HZ1.out HZ2.out _ evs rfl HOE4.out wr.heap.size w4.heap.size v3 o.toList rfl HRE4.out (by omega) (by simp; omega) ?_; intro v5 w5 ho5 hg5 hat5; have HOE5 := Lib.hid ho5; have HT5 := Lib.hid (HT4.out.below ((Below.refl _ _).grown hg5 (by simp; omega) (fun k hk => (HOE4.out.lt k hk).1))); clear ho5 hg5 hat5)
        go_roundw
        case rel => exact ⟨k + 1, by omega, by go_num, by rw [HS.out, hgo, HQ.out]; exact HOE5.out, by rw [HS.out, hgo, HQ.out]; exact HT5.out⟩
        case measure => simp [intOf]; omega
    · have HE := Lib.hid (take_all s k (by omega))
      rw [HE.out] at HOE HT
      generalize hfeed kd ⟨i, n, b.data.toList⟩ s.data.toList = p at *
      obtain ⟨⟨inn, m, bs⟩, evs⟩ := p
      simp only at HOE HT
      obtain ⟨c0, c1, c2, c3, c4, c5⟩ := HT.out.cells
      obtain ⟨_, _, _, f3, f4, f5⟩ := HT.out.free
      have HPost := Lib.hid (feed_end (h := ⟨inn, m, bs⟩) HT.out HOE.out (Below.refl _ _))
      clear hokk hel
      go_wp2
      exact bodyPost_ret (v := .tuple #[.agg #[.bool inn, .int .i64 m, .string ⟨bs.toArray⟩], u8]) (by simp [results, Try.results49, go_sem, c3, c4, c5]) rfl (HPost.out _ _ _ rfl)
end Go.Proofs.Ytekhakapmpdnaaa
