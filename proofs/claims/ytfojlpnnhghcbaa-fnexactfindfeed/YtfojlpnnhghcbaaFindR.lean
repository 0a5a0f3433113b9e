/- FindFeed, in the program and in the model. -/
import Derived.Test.YtfojlpnnhghcbaaFindQ
namespace Go.Proofs.Ytfojlpnnhghcbaa
open Go.ChangeShapes Go.WideShapes Go.ChangeAt Go.RowKit
theorem feed_none {w W : World} {a b d m : Int} {H : ByteArray} {o : Bool} {p : Fd × List Ev} (hF : F3 w W a b d m H o) (hp : p = (⟨[], false⟩, [])) :
    FeedPost w p (.returned (.tuple #[fdV ⟨#[]⟩ false, .slice none 0 0])) ((W.setCell ⟨w.heap.size + 2, 0, none⟩ (.string ⟨#[]⟩)).setCell ⟨w.heap.size + 2, 1, none⟩ (.bool false)) :=
  feed_done2 (X := ⟨#[]⟩) (evs := []) hF (World.ownsRow_nil _ _ _ _) hp
theorem feed_on {w W w2 : World} {a b d m : Int} {H : ByteArray} {o : Bool} {p : Fd × List Ev} {v : Value} (hF : F3 w W a b d m H o) (ho : OE w2 W.heap.size v p.2) (hb : Below W.heap.size W w2) :
    FeedPost w p (.returned (.tuple #[fdL p.1, v])) ((w2.setCell ⟨w.heap.size + 2, 0, none⟩ (.string ⟨p.1.held.toArray⟩)).setCell ⟨w.heap.size + 2, 1, none⟩ (.bool p.1.over)) := by
  have hs := hF.size
  refine ⟨v, rfl, ?_, (hF.from hb).done _ _⟩
  have h1 := (ho.put (p := ⟨w.heap.size + 2, 0, none⟩) (by show w.heap.size + 2 < _; omega) (.string ⟨p.1.held.toArray⟩)).put (p := ⟨w.heap.size + 2, 1, none⟩) (by show w.heap.size + 2 < _; omega) (.bool p.1.over)
  exact h1.mono (by omega)
set_option maxRecDepth 100000 in
set_option maxHeartbeats 2000000 in
theorem implFindFeed_any (a b d m : Int) (H : ByteArray) (o : Bool) (s : ByteArray) (w : World) (wa : (Lit.int .i64 a).wf = true) (hH : H.size ≤ maxLen) (hs : s.size ≤ maxLen) :
    Calls Try.prog 18 #[cfV a b d m, fdV H o, .string s] w (FeedPost w (feedF ⟨a, b, d, m⟩ ⟨H.data.toList, o⟩ s.data.toList)) := by
  have hz := zero_find
  have HHM := Lib.hid hH
  have HSL := Lib.hid (size_list s)
  unfold maxLen at hs hH
  cases hok : okF ⟨a, b, d, m⟩ ⟨H.data.toList, o⟩ with
  | false =>
    have HE := Lib.hid (show feedF ⟨a, b, d, m⟩ ⟨H.data.toList, o⟩ s.data.toList = (⟨[], false⟩, []) by unfold feedF; rw [if_neg (by rw [hok]; simp)])
    have HOK := Lib.hid hok
    clear hok
    go_enter Try.func18, Try.ntmps18
    go_wp2_with fail
    refine (implFindOk_any a b d m H o _ wa HHM.out).mono ?_
    rintro e w1 ⟨rfl, hb1⟩
    have hF := (F3.start w a b d m H o).from hb1
    obtain ⟨⟨r0, r1⟩, _, f0, f1⟩ := hF.res
    have HQ := Lib.hid (feed_none hF HE.out)
    rw [HOK.out]
    clear hb1 hF
    go_wp2
    exact bodyPost_ret (v := .tuple #[fdV ⟨#[]⟩ false, .slice none 0 0]) (by simp [results, Try.results18, go_sem, r0, r1]) rfl HQ.out
  | true =>
    by_cases hle : s.size ≤ 600
    · have HE := Lib.hid (show feedF ⟨a, b, d, m⟩ ⟨H.data.toList, o⟩ s.data.toList = ffeed ⟨a, b, d, m⟩ ⟨H.data.toList, o⟩ s.data.toList by unfold feedF; rw [if_pos ⟨hok, by rw [size_list]; exact hle⟩])
      have HOK := Lib.hid hok
      clear hok
      go_enter Try.func18, Try.ntmps18
      go_wp2_with fail
      refine (implFindOk_any a b d m H o _ wa HHM.out).mono ?_
      rintro e w1 ⟨rfl, hb1⟩
      have hF := (F3.start w a b d m H o).from hb1
      obtain ⟨⟨c0, c1, c2, c3⟩, e0, e1⟩ := hF.flat
      have HF := Lib.hid hF
      rw [HOK.out]
      clear hb1 hF
      go_wp2_with fail
      refine (feedAny_any a b d m H o s _ wa HOK.out (by omega)).mono ?_
      rintro e w2 ⟨v2, rfl, hoe2, hb2⟩
      obtain ⟨⟨r0, r1⟩, _, f0, f1⟩ := (HF.out.from hb2).res
      have HQ := Lib.hid (feed_on HF.out hoe2 hb2)
      clear hoe2 hb2
      generalize ffeed ⟨a, b, d, m⟩ ⟨H.data.toList, o⟩ s.data.toList = p at *
      obtain ⟨⟨X, y⟩, evs⟩ := p
      go_wp2
      exact bodyPost_ret (v := .tuple #[fdL ⟨X, y⟩, v2]) (by simp [results, Try.results18, go_sem, r0, r1]) rfl (by rw [HE.out]; exact HQ.out)
    · have HE := Lib.hid (show feedF ⟨a, b, d, m⟩ ⟨H.data.toList, o⟩ s.data.toList = (⟨[], false⟩, []) by unfold feedF; rw [if_neg (by rw [size_list]; omega)])
      have HOK := Lib.hid hok
      clear hok
      go_enter Try.func18, Try.ntmps18
      go_wp2_with fail
      refine (implFindOk_any a b d m H o _ wa HHM.out).mono ?_
      rintro e w1 ⟨rfl, hb1⟩
      have hF := (F3.start w a b d m H o).from hb1
      obtain ⟨⟨r0, r1⟩, _, f0, f1⟩ := hF.res
      have HQ := Lib.hid (feed_none hF HE.out)
      rw [HOK.out]
      clear hb1 hF
      go_wp2
      exact bodyPost_ret (v := .tuple #[fdV ⟨#[]⟩ false, .slice none 0 0]) (by simp [results, Try.results18, go_sem, r0, r1]) rfl HQ.out
set_option maxRecDepth 100000 in
set_option maxHeartbeats 2000000 in
theorem specFindFeed_any (a b d m : Int) (H : ByteArray) (o : Bool) (s : ByteArray) (w : World) (hH : H.size ≤ maxLen) (hs : s.size ≤ maxLen) :
    Calls Try.prog 21 #[cfV a b d m, fdV H o, .string s] w (FeedPost w (feedF ⟨a, b, d, m⟩ ⟨H.data.toList, o⟩ s.data.toList)) := by
  have hz := zero_find
  have HHM := Lib.hid hH
  have HSL := Lib.hid (size_list s)
  unfold maxLen at hs hH
  cases hok : okF ⟨a, b, d, m⟩ ⟨H.data.toList, o⟩ with
  | false =>
    have HE := Lib.hid (show feedF ⟨a, b, d, m⟩ ⟨H.data.toList, o⟩ s.data.toList = (⟨[], false⟩, []) by unfold feedF; rw [if_neg (by rw [hok]; simp)])
    have HOK := Lib.hid hok
    clear hok
    go_enter Try.func21, Try.ntmps21
    go_wp2_with fail
    refine (l7Ok_any a b d m H o _ HHM.out).mono ?_
    rintro e w1 ⟨rfl, hb1⟩
    have hF := (F3.start w a b d m H o).from hb1
    obtain ⟨⟨r0, r1⟩, _, f0, f1⟩ := hF.res
    have HQ := Lib.hid (feed_none hF HE.out)
    rw [HOK.out]
    clear hb1 hF
    go_wp2
    exact bodyPost_ret (v := .tuple #[fdV ⟨#[]⟩ false, .slice none 0 0]) (by simp [results, Try.results21, go_sem, r0, r1]) rfl HQ.out
  | true =>
    by_cases hle : s.size ≤ 600
    · have HE := Lib.hid (show feedF ⟨a, b, d, m⟩ ⟨H.data.toList, o⟩ s.data.toList = ffeed ⟨a, b, d, m⟩ ⟨H.data.toList, o⟩ s.data.toList by unfold feedF; rw [if_pos ⟨hok, by rw [size_list]; exact hle⟩])
      have HOK := Lib.hid hok
      clear hok
      go_enter Try.func21, Try.ntmps21
      go_wp2_with fail
      refine (l7Ok_any a b d m H o _ HHM.out).mono ?_
      rintro e w1 ⟨rfl, hb1⟩
      have hF := (F3.start w a b d m H o).from hb1
      obtain ⟨⟨c0, c1, c2, c3⟩, e0, e1⟩ := hF.flat
      have HF := Lib.hid hF
      rw [HOK.out]
      clear hb1 hF
      go_wp2_with fail
      refine (l7Feed_any a b d m H o s _ HOK.out (by omega)).mono ?_
      rintro e w2 ⟨v2, rfl, hoe2, hb2⟩
      obtain ⟨⟨r0, r1⟩, _, f0, f1⟩ := (HF.out.from hb2).res
      have HQ := Lib.hid (feed_on HF.out hoe2 hb2)
      clear hoe2 hb2
      generalize ffeed ⟨a, b, d, m⟩ ⟨H.data.toList, o⟩ s.data.toList = p at *
      obtain ⟨⟨X, y⟩, evs⟩ := p
      go_wp2
      exact bodyPost_ret (v := .tuple #[fdL ⟨X, y⟩, v2]) (by simp [results, Try.results21, go_sem, r0, r1]) rfl (by rw [HE.out]; exact HQ.out)
    · have HE := Lib.hid (show feedF ⟨a, b, d, m⟩ ⟨H.data.toList, o⟩ s.data.toList = (⟨[], false⟩, []) by unfold feedF; rw [if_neg (by rw [size_list]; omega)])
      have HOK := Lib.hid hok
      clear hok
      go_enter Try.func21, Try.ntmps21
      go_wp2_with fail
      refine (l7Ok_any a b d m H o _ HHM.out).mono ?_
      rintro e w1 ⟨rfl, hb1⟩
      have hF := (F3.start w a b d m H o).from hb1
      obtain ⟨⟨r0, r1⟩, _, f0, f1⟩ := hF.res
      have HQ := Lib.hid (feed_none hF HE.out)
      rw [HOK.out]
      clear hb1 hF
      go_wp2
      exact bodyPost_ret (v := .tuple #[fdV ⟨#[]⟩ false, .slice none 0 0]) (by simp [results, Try.results21, go_sem, r0, r1]) rfl HQ.out
end Go.Proofs.Ytfojlpnnhghcbaa
