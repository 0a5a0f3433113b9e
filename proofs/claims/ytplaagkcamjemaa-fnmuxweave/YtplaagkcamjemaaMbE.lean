/- A piece is taken, in the program. -/
import Derived.Test.YtplaagkcamjemaaMbD
import Derived.Test.YtplaagkcamjemaaMxS
import Derived.Deep.Cut
namespace Go.Proofs.Ytplaagkcamjemaa
open Go.ChangeShapes Go.WideShapes Go.ChangeAt Go.RowKit
def getL (m : List (List UInt8)) : Nat → List UInt8 := fun i => m.getD i []
theorem getL_set (m : List (List UInt8)) (c : Nat) (x : List UInt8) (h3 : m.length = 3) (i : Nat) (hi : i < 3) : getL (m.set c x) i = upd (getL m) c x i := by
  unfold getL upd
  by_cases e : i = c
  · subst e
    rw [if_pos rfl, List.getD_eq_getElem?_getD, List.getElem?_set_self (by omega)]; rfl
  · rw [if_neg e, List.getD_eq_getElem?_getD, List.getElem?_set_ne (fun h => e h.symm), ← List.getD_eq_getElem?_getD]
theorem ok_three {m : List (List UInt8)} (h : muxOkB m = true) : m.length = 3 ∧ ∀ i, (getL m i).length ≤ 600 := by
  unfold muxOkB at h
  rw [Bool.and_eq_true, decide_eq_true_eq, List.all_eq_true] at h
  refine ⟨h.1, fun i => ?_⟩
  unfold getL
  rw [List.getD_eq_getElem?_getD]
  cases hx : m[i]? with
  | none => simp
  | some x => exact of_decide_eq_true (h.2 x (List.mem_of_getElem? hx))
theorem BK.nb {w w' : World} {g h : Nat} {cs : Array Value} {t : TypeId} (hk : BK w h cs t) (hn : NB g w w') (hne : h ≠ g) (ht : t ≠ 5) : BK w' h cs t := by
  have hlt := hk.lt
  refine (hn.2 h hlt hne (fun cs' fz e => ?_)).trans hk
  unfold BK at hk
  rw [hk] at e
  injection e with e
  injection e with _ e2
  exact ht e2
def TkPost (w : World) (B g : Nat) (m : List (List UInt8)) (T : List UInt8) (e : Ending) (w' : World) : Prop :=
  ∃ u, e = .returned u ∧ OE w' w.heap.size u (takeTold m T) ∧ (∃ p v, MBs w' B g (getL (takeOpen m T)) (fun _ => True) p v) ∧ Below B w w' ∧ NB g w w'
theorem take_not (B g : Nat) (m : List (List UInt8)) (p v : Nat → Value) (t : ByteArray) (w : World) (h : MBs w B g (getL m) (fun _ => True) p v) (hno : isPiece t.data.toList = false) (ht : t.size ≤ 1048576) :
    Calls Try.prog 47 #[.pointer (some ⟨g, 0, none⟩), .string t] w (TkPost w B g m t.data.toList) := by
  have HM := Lib.hid h
  have HTO := Lib.hid (show takeOpen m t.data.toList = m by rw [takeOpen, hno]; rfl)
  have HTT := Lib.hid (show takeTold m t.data.toList = [] by rw [takeTold, hno]; simp)
  by_cases h0 : t.size = 0
  · have hne : t.toList.isEmpty = true := by rw [bze]; exact decide_eq_true h0
    clear h hno
    go_enter Try.func47, Try.ntmps47
    go_wp2
    go_ret
    exact ⟨_, rfl, by rw [HTT.out]; exact World.ownsRow_nil _ _ _ _, ⟨p, v, by rw [HTO.out]; exact HM.out⟩, Below.refl _ _, NB.refl _ _⟩
  · have hpos : 0 < t.size := by omega
    have hne : t.toList.isEmpty = false := by rw [bze]; exact decide_eq_false h0
    have h3 : 3 ≤ t[0].toNat % 128 := by
      have e : chOf t.data.toList = t[0].toNat % 128 := by unfold chOf headN; rw [hd0 t hpos]
      have hnil : t.data.toList ≠ [] := by intro e; rw [← size_list, e] at hpos; simp at hpos
      unfold isPiece at hno
      rw [e] at hno
      have := of_decide_eq_false hno
      simp [hnil] at this
      omega
    have hb8 := UInt8.toNat_lt t[0]
    have hdec : decide ((3 : Int) ≤ (t[0].toNat : Int) % 128) = true := decide_eq_true (by omega)
    have hdec2 : (3 : Int) ≤ (t[0].toNat : Int) % 128 := by omega
    clear h hno
    go_enter Try.func47, Try.ntmps47
    go_wp2
    go_ret
    exact ⟨_, rfl, by rw [HTT.out]; exact World.ownsRow_nil _ _ _ _, ⟨p, v, by rw [HTO.out]; exact HM.out⟩, Below.refl _ _, NB.refl _ _⟩
set_option maxRecDepth 100000 in
set_option maxHeartbeats 400000 in
theorem take_piece (B g : Nat) (m : List (List UInt8)) (p v : Nat → Value) (t : ByteArray) (w : World) (h : MBs w B g (getL m) (fun _ => True) p v) (hok : muxOkB m = true) (ht : t.size ≤ 1048576) (h0 : 0 < t.size) (h1 : t[0].toNat % 128 < 3) :
    Calls Try.prog 47 #[.pointer (some ⟨g, 0, none⟩), .string t] w (TkPost w B g m t.data.toList) := by
  obtain ⟨h3, hsh⟩ := ok_three hok
  have HM := Lib.hid h
  have HSH := Lib.hid hsh
  have H3 := Lib.hid h3
  clear hsh
  have hne : t.toList.isEmpty = false := by rw [bze]; exact decide_eq_false (by omega)
  have hb8 := UInt8.toNat_lt t[0]
  have hnil : t.data.toList ≠ [] := by intro e; rw [← size_list, e] at h0; simp at h0
  obtain ⟨c, hc⟩ : ∃ c, c = t[0].toNat % 128 := ⟨_, rfl⟩
  have hc3 : c < 3 := by omega
  have hch : chOf t.data.toList = c := by rw [hc]; unfold chOf headN; rw [hd0 t h0]
  have hhd : headN t.data.toList = t[0].toNat := by unfold headN; rw [hd0 t h0]
  have hip : isPiece t.data.toList = true := by unfold isPiece; rw [hch]; simp [hnil, hc3]
  have hci : (t[0].toNat : Int) % 128 = (c : Int) := by omega
  have hci2 : (t[0].toNat : Int).tmod 128 = (c : Int) := by rw [Int.tmod_eq_emod_of_nonneg (by omega)]; exact hci
  have hdec : decide ((3 : Int) ≤ (c : Int)) = false := decide_eq_false (by omega)
  have hdec2 : ¬ (3 : Int) ≤ (t[0].toNat : Int) % 128 := by omega
  obtain ⟨T1, hT1⟩ : ∃ T1 : ByteArray, T1 = t.extract 1 t.size := ⟨_, rfl⟩
  have hT1l : T1.data.toList = t.data.toList.drop 1 := by rw [hT1]; exact ext_drop t 1
  have hT1s : T1.size + 1 = t.size := by rw [← size_list, hT1l, List.length_drop, size_list]; omega
  obtain ⟨J, hJ⟩ : ∃ J, J = getL m c ++ T1.data.toList := ⟨_, rfl⟩
  have hJ2 : joinL (m.getD c []) t.data.toList = J := by rw [hJ]; unfold joinL; rw [hT1l]; rfl
  have HO := Lib.hid (show takeOpen m t.data.toList = m.set c (if 600 < J.length ∨ 128 ≤ t[0].toNat then [] else J) by
    rw [takeOpen, hip, if_pos rfl, hch, hhd, hJ2])
  have HT := Lib.hid (show takeTold m t.data.toList = if 600 < J.length ∨ ¬ 128 ≤ t[0].toNat then [] else [⟨(c : Nat), J⟩] by
    rw [takeTold, hip, hch, hhd, hJ2]
    by_cases e1 : 600 < J.length <;> by_cases e2 : 128 ≤ t[0].toNat <;> simp [e1, e2])
  have hsl : ∀ u : World, (Instr.slice 9 (.string t) (some (.int .i64 1)) none none).run Try.prog u = .ok (.string T1) u := fun u => by
    rw [run_slice_string_from_if u 9 t .i64 1 Try.underlying9]
    simp [show (1 : Int) ≤ (t.size : Int) by omega, hT1]
  have HT1 := Lib.hid hT1
  have hcl := HSH.out c
  have HTL := Lib.hid (show J.length = (getL m c).length + T1.size by rw [hJ, List.length_append, size_list])
  have HJ := Lib.hid hJ
  clear h hok h3 hnil hch hhd hip hc h1 hT1 hT1l hJ hJ2
  go_enter Try.func47, Try.ntmps47
  go_wp2_with fail
  refine (mLen_any B g (getL m) _ p v c _ HM.out hc3 trivial).mono ?_
  rintro e w' ⟨rfl, rfl⟩
  obtain ⟨n, hn⟩ : ∃ n, (getL m c).length = n := ⟨_, rfl⟩
  rw [hn] at hcl HTL ⊢
  have HN := Lib.hid hn
  clear hn
  by_cases hlong : 600 < J.length
  · have hd1 : decide ((600 : Int) < (n : Int) + (t.size : Int) - 1) = true := decide_eq_true (by have := HTL.out; omega)
    have hd2 : (600 : Int) < (n : Int) + (t.size : Int) - 1 := by have := HTL.out; omega
    go_wp2_with fail
    refine (mReset_any B g (getL m) _ p v c _ HM.out hc3).mono ?_
    rintro e w2 ⟨rfl, ⟨p2, v2, hm2⟩, hb2, hn2⟩
    have HM2 := Lib.hid (show MBs w2 B g (getL (takeOpen m t.data.toList)) (fun _ => True) p2 v2 by
      rw [HO.out, if_pos (.inl hlong)]
      exact (hm2.live' (fun _ _ _ => .inl trivial)).same (fun i hi => getL_set m c [] H3.out i hi))
    have HB2 := Lib.hid hb2
    have HN2 := Lib.hid hn2
    have HTT := Lib.hid (show takeTold m t.data.toList = [] by rw [HT.out, if_pos (.inl hlong)])
    clear hm2 hb2 hn2
    go_wp2
    go_ret
    exact ⟨_, rfl, by rw [HTT.out]; exact World.ownsRow_nil _ _ _ _, ⟨p2, v2, HM2.out⟩, HB2.out, HN2.out⟩
  · have hd1 : decide ((600 : Int) < (n : Int) + (t.size : Int) - 1) = false := decide_eq_false (by have := HTL.out; omega)
    have hd2 : ¬ (600 : Int) < (n : Int) + (t.size : Int) - 1 := by have := HTL.out; omega
    go_wp2_with fail
    refine (mWrite_any B g (getL m) _ p v c T1 _ HM.out hc3 trivial (by rw [HN.out]; have := HTL.out; omega)).mono ?_
    rintro e w2 ⟨rfl, ⟨p2, v2, hm2⟩, hb2, hn2⟩
    rw [← HJ.out] at hm2
    have HB2 := Lib.hid hb2
    have HN2 := Lib.hid hn2
    have HM2 := Lib.hid hm2
    clear hm2 hb2 hn2
    by_cases hlast : t[0].toNat < 128
    · have HM3 := Lib.hid (show MBs w2 B g (getL (takeOpen m t.data.toList)) (fun _ => True) p2 v2 by
        rw [HO.out, if_neg (by omega)]
        exact HM2.out.same (fun i hi => getL_set m c J H3.out i hi))
      have HTT := Lib.hid (show takeTold m t.data.toList = [] by rw [HT.out, if_pos (.inr (by omega))])
      have hl1 : (t[0].toNat : Int) < 128 := by omega
      have hl2 : decide ((t[0].toNat : Int) < 128) = true := decide_eq_true hl1
      go_wp2
      go_ret
      exact ⟨_, rfl, by rw [HTT.out]; exact World.ownsRow_nil _ _ _ _, ⟨p2, v2, HM3.out⟩, HB2.out, HN2.out⟩
    · have hl1 : ¬ (t[0].toNat : Int) < 128 := by omega
      have hl2 : decide ((t[0].toNat : Int) < 128) = false := decide_eq_false hl1
      have HTT := Lib.hid (show takeTold m t.data.toList = [⟨(c : Nat), J⟩] by rw [HT.out, if_neg (by omega)])
      have HOO := Lib.hid (show takeOpen m t.data.toList = m.set c [] by rw [HO.out, if_pos (.inr (by omega))])
      go_wp2_with fail
      refine (mString_any B g _ _ p2 v2 c _ HM2.out hc3 trivial (by rw [upd_same]; omega)).mono ?_
      rintro e w3 ⟨rfl, hm3, hb3, hn3⟩
      rw [upd_same]
      have HM3 := Lib.hid hm3
      have HB3 := Lib.hid (HB2.out.trans hb3)
      have HN3 := Lib.hid (HN2.out.trans hn3)
      have hs3 := HN3.out.1
      clear hm3 hb3 hn3
      go_wp2_with fail
      have hm4 := HM3.out.below ((Below.refl _ w3).alloc (Nat.le_refl _) (.cells #[.int .i64 (c : Int), .string ⟨J.toArray⟩] 32)) (Nat.le_refl _)
      have hgl := HM3.out.bk.lt
      refine (mReset_any B g _ _ p2 v2 c _ hm4 hc3).mono ?_
      rintro e w5 ⟨rfl, ⟨p5, v5, hm5⟩, hb5, hn5⟩
      have hB3 : B ≤ w3.heap.size := by have := HM3.out.lo; omega
      have k5 := (BK.new w3 #[.int .i64 (c : Int), .string ⟨J.toArray⟩] 32).nb hn5 (by omega) (by decide)
      have d0 := k5.cell (i := 0) rfl
      have d1 := k5.cell (i := 1) rfl
      have HB5 := Lib.hid ((HB3.out.alloc hB3 (.cells #[.int .i64 (c : Int), .string ⟨J.toArray⟩] 32)).trans hb5)
      have HN5 := Lib.hid ((HN3.out.alloc (.cells #[.int .i64 (c : Int), .string ⟨J.toArray⟩] 32)).trans hn5)
      have HM5 := Lib.hid (show MBs w5 B g (getL (takeOpen m t.data.toList)) (fun _ => True) p5 v5 by
        rw [HOO.out]
        refine (hm5.live' (fun i _ _ => ?_)).same (fun i hi => ?_)
        · by_cases e : i = c
          · exact .inr e
          · exact .inl ⟨trivial, e⟩
        · rw [getL_set m c [] H3.out i hi]
          by_cases e : i = c
          · subst e; rw [upd_same, upd_same]
          · rw [upd_other _ e, upd_other _ e, upd_other _ e])
      have hs5 := HN5.out.1
      clear hm4 hm5 hb5 hn5 k5
      go_wp2_with fail
      go_ret
      refine ⟨_, rfl, ?_, ⟨p5, v5, HM5.out.below ((Below.refl _ w5).alloc (Nat.le_refl _) _) (Nat.le_refl _)⟩, HB5.out.alloc (by have := HM.out.lo; have := HM.out.bk.lt; omega) _, HN5.out.alloc _⟩
      rw [HTT.out]
      exact oe_new w5 w.heap.size (by omega) (c : Int) ⟨J.toArray⟩
theorem mTake_any (B g : Nat) (m : List (List UInt8)) (p v : Nat → Value) (t : ByteArray) (w : World) (h : MBs w B g (getL m) (fun _ => True) p v) (hok : muxOkB m = true) (ht : t.size ≤ 1048576) :
    Calls Try.prog 47 #[.pointer (some ⟨g, 0, none⟩), .string t] w (TkPost w B g m t.data.toList) := by
  cases hp : isPiece t.data.toList with
  | false => exact take_not B g m p v t w h hp ht
  | true =>
    have h2 := of_decide_eq_true hp
    have h0 : 0 < t.size := by
      rcases Nat.eq_zero_or_pos t.size with e | e
      · exact absurd (List.eq_nil_of_length_eq_zero (by rw [size_list]; exact e)) h2.1
      · exact e
    refine take_piece B g m p v t w h hok ht h0 ?_
    have h3 := h2.2
    unfold chOf headN at h3
    rwa [hd0 t h0] at h3
end Go.Proofs.Ytplaagkcamjemaa
