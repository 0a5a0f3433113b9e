/- HdlcFeed at whatever arguments, in the program and in the model. -/
import Derived.Test.YtekhakapmpdnaaaHdlcF
import Derived.Test.YtekhakapmpdnaaaHdlcI
namespace Go.Proofs.Ytekhakapmpdnaaa
open Go.ChangeShapes Go.WideShapes Go.ChangeAt Go.RowKit
theorem OE_mono {w : World} {base base' : Nat} {v : Value} {l : List Ev} (h : OE w base v l) (hb : base' ≤ base) : OE w base' v l :=
  ⟨h.1, h.2.imp id fun ⟨g, cap, cur, h1, h2, h3⟩ => ⟨g, cap, cur, h1, Nat.le_trans hb h2, h3⟩⟩
def validB (kd : Int) (i : Bool) (n : Int) (b s : List UInt8) : Bool := kindB kd && okH i n b && okB s
def feedA (kd : Int) (i : Bool) (n : Int) (b s : List UInt8) : HS × List Ev := if validB kd i n b s = true then hfeed kd ⟨i, n.toNat, b⟩ s else (⟨false, 0, []⟩, [])
theorem feedA_no {kd : Int} {i : Bool} {n : Int} {b s : List UInt8} (h : validB kd i n b s = false) : feedA kd i n b s = (⟨false, 0, []⟩, []) := by
  unfold feedA; rw [if_neg (by rw [h]; exact Bool.false_ne_true)]
theorem feed_none {w w' : World} (hb : Below w.heap.size w w') : FeedPost w (⟨false, 0, []⟩, []) (.returned (.tuple #[.agg #[.bool false, .int .i64 0, .string ⟨#[]⟩], .slice none 0 0])) w' :=
  ⟨⟨_, rfl, World.ownsRow_nil _ _ _ _⟩, hb⟩
set_option maxRecDepth 100000 in
theorem implFeed_no (kd : Int) (i : Bool) (n : Int) (b s : ByteArray) (w : World) (hb : b.size ≤ maxLen) (hs : s.size ≤ maxLen) (h : validB kd i n b.data.toList s.data.toList = false) :
    Calls Try.prog 14 #[.int .i64 kd, .agg #[.bool i, .int .i64 n, .string b], .string s] w (FeedPost w (⟨false, 0, []⟩, [])) := by
  have hz := zero_hdlc
  cases hk : kindB kd with
  | false =>
    clear h
    go_enter Try.func14, Try.ntmps14
    go_wp2_with (go_at_call 35; refine (polyOf_no _ _ hk).mono ?_; rintro e w' ⟨rfl, rfl⟩)
    exact bodyPost_ret (v := .tuple #[.agg #[.bool false, .int .i64 0, .string ⟨#[]⟩], .slice none 0 0]) (by simp [results, Try.results14, go_sem]) rfl (feed_none (below2 _ _ _))
  | true =>
    have HK := Lib.hid hk
    cases ho : okH i n b.data.toList with
    | false =>
      have HO := Lib.hid ho
      clear h hk ho
      go_enter Try.func14, Try.ntmps14
      go_wp2_with fail
      refine (polyOf_yes kd _ HK.out).mono ?_
      rintro e w' ⟨rfl, rfl⟩
      go_wp2_with fail
      refine (implHok_any i n b _ hb).mono ?_
      rintro e w1 ⟨rfl, hb1⟩
      rw [HO.out]
      have htwo := (Two.start w _ _ _ _ _ _ _ _).from hb1
      obtain ⟨_, _, _, c3, c4, c5⟩ := htwo.cells
      obtain ⟨_, _, _, f3, f4, f5⟩ := htwo.free
      have HT := Lib.hid htwo.2.2.2
      clear htwo hb1
      go_wp2
      exact bodyPost_ret (v := .tuple #[.agg #[.bool false, .int .i64 0, .string ⟨#[]⟩], .slice none 0 0]) (by simp [results, Try.results14, go_sem, c3, c4, c5]) rfl (feed_none (((HT.out.setCell (by simp) _).setCell (by simp) _).setCell (by simp) _))
    | true =>
      have HO := Lib.hid ho
      have HS := Lib.hid (show okB s.data.toList = false by simpa [validB, hk, ho] using h)
      clear h hk ho
      go_enter Try.func14, Try.ntmps14
      go_wp2_with fail
      refine (polyOf_yes kd _ HK.out).mono ?_
      rintro e w' ⟨rfl, rfl⟩
      go_wp2_with fail
      refine (implHok_any i n b _ hb).mono ?_
      rintro e w1 ⟨rfl, hb1⟩
      rw [HO.out]
      have htwo := (Two.start w _ _ _ _ _ _ _ _).from hb1
      obtain ⟨_, _, _, c3, c4, c5⟩ := htwo.cells
      obtain ⟨_, _, _, f3, f4, f5⟩ := htwo.free
      have HT := Lib.hid htwo.2.2.2
      clear htwo hb1
      go_wp2_with fail
      refine (implOk_any s _ hs).mono ?_
      rintro e w' ⟨rfl, rfl⟩
      rw [HS.out]
      go_wp2
      exact bodyPost_ret (v := .tuple #[.agg #[.bool false, .int .i64 0, .string ⟨#[]⟩], .slice none 0 0]) (by simp [results, Try.results14, go_sem, c3, c4, c5]) rfl (feed_none (((HT.out.setCell (by simp) _).setCell (by simp) _).setCell (by simp) _))
theorem valid_parts {kd : Int} {i : Bool} {n : Int} {b s : List UInt8} (h : validB kd i n b s = true) : kindB kd = true ∧ okH i n b = true ∧ okB s = true := by
  simp only [validB, Bool.and_eq_true] at h
  exact ⟨h.1.1, h.1.2, h.2⟩
theorem implFeed_any (kd : Int) (i : Bool) (n : Int) (b s : ByteArray) (w : World) (hb : b.size ≤ maxLen) (hs : s.size ≤ maxLen) :
    Calls Try.prog 14 #[.int .i64 kd, .agg #[.bool i, .int .i64 n, .string b], .string s] w (FeedPost w (feedA kd i n b.data.toList s.data.toList)) := by
  cases h : validB kd i n b.data.toList s.data.toList with
  | false => rw [feedA_no h]; exact implFeed_no kd i n b s w hb hs h
  | true =>
    obtain ⟨h1, h2, h3⟩ := valid_parts h
    obtain ⟨k1, k2, k3⟩ := okH_hok h2
    obtain ⟨m, rfl⟩ : ∃ m : Nat, n = m := ⟨n.toNat, by omega⟩
    unfold feedA
    rw [if_pos h]
    exact implFeed_yes kd i m b s w h1 k3 h3
set_option maxRecDepth 100000 in
theorem specFeed_no (kd : Int) (i : Bool) (n : Int) (b s : ByteArray) (w : World) (hb : b.size ≤ maxLen) (hs : s.size ≤ maxLen) (h : validB kd i n b.data.toList s.data.toList = false) :
    Calls Try.prog 17 #[.int .i64 kd, .agg #[.bool i, .int .i64 n, .string b], .string s] w (FeedPost w (⟨false, 0, []⟩, [])) := by
  have hz := zero_hdlc
  cases hk : kindB kd with
  | false =>
    clear h
    go_enter Try.func17, Try.ntmps17
    go_wp2_with (go_at_call 42; refine (l1Kind_any _ _).mono ?_; rintro e w' ⟨rfl, rfl⟩)
    exact bodyPost_ret (v := .tuple #[.agg #[.bool false, .int .i64 0, .string ⟨#[]⟩], .slice none 0 0]) (by simp [results, Try.results17, go_sem]) rfl (feed_none (below2 _ _ _))
  | true =>
    have HK := Lib.hid hk
    cases ho : okH i n b.data.toList with
    | false =>
      have HO := Lib.hid ho
      clear h hk ho
      go_enter Try.func17, Try.ntmps17
      go_wp2_with fail
      refine (l1Kind_any kd _).mono ?_
      rintro e w' ⟨rfl, rfl⟩
      rw [HK.out]
      go_wp2_with fail
      refine (l4Ok_any i n b _ hb).mono ?_
      rintro e w1 ⟨rfl, hb1⟩
      rw [HO.out]
      have htwo := (Two.start w _ _ _ _ _ _ _ _).from hb1
      obtain ⟨_, _, _, c3, c4, c5⟩ := htwo.cells
      obtain ⟨_, _, _, f3, f4, f5⟩ := htwo.free
      have HT := Lib.hid htwo.2.2.2
      clear htwo hb1
      go_wp2
      exact bodyPost_ret (v := .tuple #[.agg #[.bool false, .int .i64 0, .string ⟨#[]⟩], .slice none 0 0]) (by simp [results, Try.results17, go_sem, c3, c4, c5]) rfl (feed_none (((HT.out.setCell (by simp) _).setCell (by simp) _).setCell (by simp) _))
    | true =>
      have HO := Lib.hid ho
      have HS := Lib.hid (show okB s.data.toList = false by simpa [validB, hk, ho] using h)
      clear h hk ho
      go_enter Try.func17, Try.ntmps17
      go_wp2_with fail
      refine (l1Kind_any kd _).mono ?_
      rintro e w' ⟨rfl, rfl⟩
      rw [HK.out]
      go_wp2_with fail
      refine (l4Ok_any i n b _ hb).mono ?_
      rintro e w1 ⟨rfl, hb1⟩
      rw [HO.out]
      have htwo := (Two.start w _ _ _ _ _ _ _ _).from hb1
      obtain ⟨_, _, _, c3, c4, c5⟩ := htwo.cells
      obtain ⟨_, _, _, f3, f4, f5⟩ := htwo.free
      have HT := Lib.hid htwo.2.2.2
      clear htwo hb1
      go_wp2_with fail
      refine (l2Ok_any s _ hs).mono ?_
      rintro e w' ⟨rfl, rfl⟩
      rw [HS.out]
      go_wp2
      exact bodyPost_ret (v := .tuple #[.agg #[.bool false, .int .i64 0, .string ⟨#[]⟩], .slice none 0 0]) (by simp [results, Try.results17, go_sem, c3, c4, c5]) rfl (feed_none (((HT.out.setCell (by simp) _).setCell (by simp) _).setCell (by simp) _))
set_option maxRecDepth 100000 in
theorem specFeed_yes (kd : Int) (i : Bool) (n : Nat) (b s : ByteArray) (w : World) (hk : kindB kd = true) (hok : hokB ⟨i, n, b.data.toList⟩ = true) (hs : okB s.data.toList = true) :
    Calls Try.prog 17 #[.int .i64 kd, .agg #[.bool i, .int .i64 n, .string b], .string s] w (FeedPost w (hfeed kd ⟨i, n, b.data.toList⟩ s.data.toList)) := by
  have hz := zero_hdlc
  have hsz := ok_size hs
  have hmax : s.size ≤ maxLen := by unfold maxLen; omega
  have HO := Lib.hid (hok_okH hok)
  have hbs : b.size ≤ 240 := by have := ((hok_iff _).1 hok).2.1; simpa [size_list] using this
  have hbm : b.size ≤ maxLen := by unfold maxLen; omega
  have HH := Lib.hid hok
  have HSO := Lib.hid hs
  have HK := Lib.hid hk
  clear hok hs hk
  go_enter Try.func17, Try.ntmps17
  go_wp2_with fail
  refine (l1Kind_any kd _).mono ?_
  rintro e w' ⟨rfl, rfl⟩
  rw [HK.out]
  go_wp2_with fail
  refine (l4Ok_any i n b _ hbm).mono ?_
  rintro e w1 ⟨rfl, hb1⟩
  rw [HO.out]
  have htwo := (Two.start w _ _ _ _ _ _ _ _).from hb1
  obtain ⟨c0, c1, c2, c3, c4, c5⟩ := htwo.cells
  have HT := Lib.hid htwo
  clear htwo hb1
  go_wp2_with fail
  refine (l2Ok_any s _ hmax).mono ?_
  rintro e w' ⟨rfl, rfl⟩
  rw [HSO.out]
  go_wp2_with fail
  refine (l4Feed_any kd i n b s _ HK.out HH.out HSO.out).mono ?_
  rintro e w2 ⟨⟨v, rfl, hoe⟩, hb2⟩
  have htwo2 := HT.out.from hb2
  have HPost := Lib.hid (feed_end (h := (hfeed kd ⟨i, n, b.data.toList⟩ s.data.toList).1) htwo2 (OE_mono hoe HT.out.2.2.1) (Below.refl _ _))
  clear c0 c1 c2 c3 c4 c5
  obtain ⟨_, _, _, c3, c4, c5⟩ := htwo2.cells
  obtain ⟨_, _, _, f3, f4, f5⟩ := htwo2.free
  clear hoe hb2 htwo2
  generalize hfeed kd ⟨i, n, b.data.toList⟩ s.data.toList = p at *
  obtain ⟨⟨inn, m, bs⟩, evs⟩ := p
  rw [hV]
  go_wp2
  exact bodyPost_ret (v := .tuple #[.agg #[.bool inn, .int .i64 m, .string ⟨bs.toArray⟩], v]) (by simp [results, Try.results17, go_sem, c3, c4, c5]) rfl (HPost.out _ _ _ rfl)
theorem specFeed_any (kd : Int) (i : Bool) (n : Int) (b s : ByteArray) (w : World) (hb : b.size ≤ maxLen) (hs : s.size ≤ maxLen) :
    Calls Try.prog 17 #[.int .i64 kd, .agg #[.bool i, .int .i64 n, .string b], .string s] w (FeedPost w (feedA kd i n b.data.toList s.data.toList)) := by
  cases h : validB kd i n b.data.toList s.data.toList with
  | false => rw [feedA_no h]; exact specFeed_no kd i n b s w hb hs h
  | true =>
    obtain ⟨h1, h2, h3⟩ := valid_parts h
    obtain ⟨k1, k2, k3⟩ := okH_hok h2
    obtain ⟨m, rfl⟩ : ∃ m : Nat, n = m := ⟨n.toNat, by omega⟩
    unfold feedA
    rw [if_pos h]
    exact specFeed_yes kd i m b s w h1 k3 h3
end Go.Proofs.Ytekhakapmpdnaaa
