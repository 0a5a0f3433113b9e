/- The model's finder of frames of bits: what bits come to, a bit taken. -/
import Derived.Test.YtekhakapmpdnaaaHdlcE
import Derived.Test.YtekhakapmpdnaaaHdlcC
namespace Go.Proofs.Ytekhakapmpdnaaa
open Go.ChangeShapes Go.WideShapes Go.ChangeAt Go.RowKit
theorem l4Event_any (kd : Int) (X : ByteArray) (w : World) (hk : kindB kd = true) (hX : X.size ≤ 30) (h1 : kd ≤ (X.size : Int)) (h2 : (X.size : Int) ≤ 24 + kd) :
    Calls Try.prog 78 #[.int .i64 kd, .string X] w fun e w' => e = evOf (some (evB kd X.data.toList)) ∧ Below w.heap.size w w' := by
  have hz := zero_event
  have hk2 : 2 ≤ kd ∧ kd ≤ 4 := by
    have : kd = 2 ∨ kd = 4 := by simpa [kindB] using hk
    omega
  obtain ⟨hk1, hk2⟩ := hk2
  clear hk
  cases hg : getB kd X.data.toList with
  | true =>
    have HG := Lib.hid hg
    have HEV := Lib.hid (show evB kd X.data.toList = ⟨1, cutL kd X.data.toList⟩ by unfold evB; rw [if_pos HG.out])
    clear hg
    go_enter Try.func78, Try.ntmps78
    go_wp2_with fail
    refine (specGet_hit kd X _ (by omega) HG.out).mono ?_
    rintro e w2 ⟨rfl, hb2⟩
    obtain ⟨hc0, hc1, hf0, hf1, hlt, hbel⟩ := ev_cells hb2
    have HBel := Lib.hid hbel
    clear hb2 hbel
    go_wp2
    exact bodyPost_ret (v := .agg #[.int .i64 1, .string ⟨(cutL kd X.data.toList).toArray⟩]) (by simp [results, Try.results78, go_sem, hc0, hc1]) rfl ⟨by rw [HEV.out]; rfl, (HBel.out.setCell (by simp) _).setCell (by simp) _⟩
  | false =>
    have HG := Lib.hid hg
    have HEV := Lib.hid (show evB kd X.data.toList = ⟨2, []⟩ by unfold evB; rw [if_neg (by rw [HG.out]; exact Bool.false_ne_true)])
    clear hg
    go_enter Try.func78, Try.ntmps78
    go_wp2_with fail
    refine (specGet_miss kd X _ (by omega) HG.out).mono ?_
    rintro e w2 ⟨rfl, hb2⟩
    obtain ⟨hc0, hc1, hf0, hf1, hlt, hbel⟩ := ev_cells hb2
    have HBel := Lib.hid hbel
    clear hb2 hbel
    go_wp2
    exact bodyPost_ret (v := .agg #[.int .i64 2, .string ⟨#[]⟩]) (by simp [results, Try.results78, go_sem, hc0, hc1]) rfl ⟨by rw [HEV.out]; rfl, (HBel.out.setCell (by simp) _).setCell (by simp) _⟩
theorem l4Event_runt (kd : Int) (X : ByteArray) (w : World) (hk : kindB kd = true) (h1 : (X.size : Int) < kd) :
    Calls Try.prog 78 #[.int .i64 kd, .string X] w fun e w' => e = evOf (some ⟨4, []⟩) ∧ Below w.heap.size w w' := by
  have hz := zero_event
  have hk2 : 2 ≤ kd ∧ kd ≤ 4 := by
    have : kd = 2 ∨ kd = 4 := by simpa [kindB] using hk
    omega
  obtain ⟨hk1, hk2⟩ := hk2
  clear hk
  go_enter Try.func78, Try.ntmps78
  go_wp2
  exact bodyPost_ret (v := .agg #[.int .i64 4, .string ⟨#[]⟩]) (by simp [results, Try.results78, go_sem]) rfl ⟨rfl, (Below.refl _ _).alloc (Nat.le_refl _) _⟩
/-- what the model hands back: a slice of what came, read in the world behind -/
def EndPost (w : World) (o : Option Ev) (e : Ending) (w' : World) : Prop := (∃ v, e = .returned v ∧ RE w' w.heap.size w'.heap.size v o.toList) ∧ Below w.heap.size w w'
set_option maxRecDepth 100000 in
set_option maxHeartbeats 1000000 in
theorem l4End_some (kd : Int) (b T : ByteArray) (w : World) (hk : kindB kd = true) (hb : b.size ≤ 240) (h6 : 6 < b.size) (hx : b.extract 0 ((b.size : Int) - 6).toNat = T) (hT : T.size = b.size - 6) (hbits : T.data.toList.all bitB = true) :
    Calls Try.prog 73 #[.int .i64 kd, .string b] w (EndPost w (evL kd T.data.toList)) := by
  have hz := zero_event
  have hk2 : 2 ≤ kd ∧ kd ≤ 4 := by
    have : kd = 2 ∨ kd = 4 := by simpa [kindB] using hk
    omega
  obtain ⟨hk1, hk2⟩ := hk2
  have HSL := Lib.hid (size_list T)
  have HK := Lib.hid hk
  have HB := Lib.hid hbits
  have HTS := Lib.hid hT
  clear hk hbits hT
  have HE0 := Lib.hid (show ¬ T.data.toList.length = 0 by rw [HSL.out, HTS.out]; omega)
  by_cases hA : 8 * (24 + kd) < (b.size : Int) - 6
  · have HE := Lib.hid (show evL kd T.data.toList = some ⟨5, []⟩ by unfold evL; rw [if_neg HE0.out, if_pos (by rw [HSL.out, HTS.out]; omega)])
    go_enter Try.func73, Try.ntmps73
    go_wp2
    go_ret
    exact ⟨⟨_, rfl, by rw [HE.out]; exact (RE_new w ⟨5, []⟩).mono (Nat.le_refl _) (by simp)⟩, (Below.refl _ _).alloc (Nat.le_refl _) _⟩
  have HA := Lib.hid (show ¬ 8 * (24 + kd) < (T.data.toList.length : Int) by rw [HSL.out, HTS.out]; omega)
  by_cases hB : (b.size - 6) % 8 ≠ 0
  · have HE := Lib.hid (show evL kd T.data.toList = some ⟨6, []⟩ by unfold evL; rw [if_neg HE0.out, if_neg HA.out, if_pos (by rw [HSL.out, HTS.out]; exact hB)])
    have hm8 : (((b.size : Int) - 6) % 8 != 0) = true := by rw [bne_iff_ne]; omega
    clear hB
    go_enter Try.func73, Try.ntmps73
    go_wp2
    go_ret
    exact ⟨⟨_, rfl, by rw [HE.out]; exact (RE_new w ⟨6, []⟩).mono (Nat.le_refl _) (by simp)⟩, (Below.refl _ _).alloc (Nat.le_refl _) _⟩
  have hm8 : (((b.size : Int) - 6) % 8 != 0) = false := by rw [show ((b.size : Int) - 6) % 8 = 0 by omega]; rfl
  have HB8 := Lib.hid (show ¬ T.data.toList.length % 8 ≠ 0 by rw [HSL.out, HTS.out]; exact hB)
  have H8 := Lib.hid (show T.size % 8 = 0 by rw [HTS.out]; omega)
  clear hB
  obtain ⟨X, hX⟩ : ∃ X : ByteArray, X = ⟨(toL T.data.toList).toArray⟩ := ⟨_, rfl⟩
  have HX := Lib.hid (show X.data.toList = toL T.data.toList by rw [hX])
  have HXN := Lib.hid (show X.size = (b.size - 6) / 8 by rw [← size_list, HX.out, toL_len, HSL.out, HTS.out])
  have hXs : X.size ≤ 30 := by rw [HXN.out]; omega
  have HXX := Lib.hid hX
  clear hX
  have HOK := Lib.hid (toL_ok (T := T) (by rw [HTS.out]; omega) HB.out)
  have HFin := Lib.hid (show ∀ w1, Calls Try.prog 78 #[.int .i64 kd, .string X] w1 fun e w' => e = evOf (evL kd T.data.toList) ∧ Below w1.heap.size w1 w' by
    intro w1
    by_cases hC : (T.size : Int) < 8 * kd
    · have HE : evL kd T.data.toList = some ⟨4, []⟩ := by unfold evL; rw [if_neg HE0.out, if_neg HA.out, if_neg HB8.out, if_pos (by rw [HSL.out]; exact hC)]
      rw [HE]
      exact l4Event_runt kd X w1 HK.out (by have := HXN.out; have := HTS.out; omega)
    · have HE : evL kd T.data.toList = some (evB kd (toL T.data.toList)) := by unfold evL; rw [if_neg HE0.out, if_neg HA.out, if_neg HB8.out, if_neg (by rw [HSL.out]; exact hC)]
      rw [HE, ← HX.out]
      exact l4Event_any kd X w1 HK.out hXs (by have := HXN.out; have := HTS.out; omega) (by have := HXN.out; have := HTS.out; omega))
  have HNE := Lib.hid (show ∃ ev, evL kd T.data.toList = some ev by
    unfold evL; rw [if_neg HE0.out]; split
    · exact ⟨_, rfl⟩
    split
    · exact ⟨_, rfl⟩
    split
    · exact ⟨_, rfl⟩
    exact ⟨_, rfl⟩)
  go_enter Try.func73, Try.ntmps73
  go_wp2_with fail
  refine (l2To_any T _ HOK.out).mono ?_
  rintro e w1 ⟨rfl, hb1⟩
  rw [← HXX.out]
  go_wp2_with fail
  refine (HFin.out _).mono ?_
  rintro e w2 ⟨rfl, hb2⟩
  obtain ⟨ev, hev⟩ := HNE.out
  rw [hev, evOf, evV]
  have HEV := Lib.hid hev
  have HBel := Lib.hid (hb1.trans (hb2.mono hb1.size))
  clear hev hb1 hb2
  go_wp2
  go_ret
  exact ⟨⟨_, rfl, by rw [HEV.out]; exact (RE_new w2 ev).mono HBel.out.size (by simp)⟩, HBel.out.alloc HBel.out.size _⟩
theorem l4End_any (kd : Int) (b : ByteArray) (w : World) (hk : kindB kd = true) (hb : b.size ≤ 240) (hbits : b.data.toList.all bitB = true) :
    Calls Try.prog 73 #[.int .i64 kd, .string b] w (EndPost w (endL kd b.data.toList)) := by
  by_cases h6 : 6 < b.size
  · have hT := ext_head b (b.size - 6)
    have e : ((b.size : Int) - 6).toNat = b.size - 6 := by omega
    have hs : (b.extract 0 (b.size - 6)).size = b.size - 6 := by rw [← size_list, hT, List.length_take, size_list]; omega
    have := l4End_some kd b (b.extract 0 (b.size - 6)) w hk hb h6 (by rw [e]) hs (by rw [hT]; exact take_bits hbits _)
    rw [hT] at this
    unfold endL
    rw [size_list]
    exact this
  · have HE := Lib.hid (show endL kd b.data.toList = none by unfold endL evL; rw [if_pos (by rw [List.length_take, size_list]; omega)])
    go_enter Try.func73, Try.ntmps73
    go_wp2
    go_ret
    exact ⟨⟨_, rfl, by rw [HE.out]; exact RE_nil _ _ _⟩, Below.refl _ _⟩
end Go.Proofs.Ytekhakapmpdnaaa
