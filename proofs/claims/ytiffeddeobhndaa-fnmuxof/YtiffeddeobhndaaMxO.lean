/- Draws for the laws of channels; slices of strings compared. -/
import Derived.Test.YtiffeddeobhndaaMxT
import Derived.Test.YtiffeddeobhndaaMxP
import Derived.Test.YtiffeddeobhndaaMxD
namespace Go.Proofs.Ytiffeddeobhndaa
open Go.ChangeShapes Go.WideShapes Go.ChangeAt Go.RowKit
/-- what a channel tells: of a channel that there is, not too long -/
def toldOk (e : Ev) : Prop := 0 ≤ e.kind ∧ e.kind ≤ 2 ∧ e.text.length ≤ 600
theorem takeTold_ok (m : List (List UInt8)) (t : List UInt8) : ∀ e ∈ takeTold m t, toldOk e := by
  unfold takeTold
  split
  · rename_i h
    intro e he
    rw [List.mem_singleton.1 he]
    have h1 := of_decide_eq_true h.1
    unfold toldOk
    simp only
    omega
  · intro e he; simp at he
theorem allTold_ok : ∀ (m ts : List (List UInt8)), ∀ e ∈ allTold m ts, toldOk e
  | _, [], e, he => by simp [allTold] at he
  | m, t :: ts, e, he => by
    rw [allTold, List.mem_append] at he
    rcases he with h | h
    · exact takeTold_ok m t e h
    · exact allTold_ok _ ts e h
theorem ofL_cons (e : Ev) (l : List Ev) (ch : Int) : (ofL (e :: l) ch).length = (if e.kind = ch then 1 else 0) + (ofL l ch).length := by
  unfold ofL
  by_cases h : e.kind = ch
  · simp [h]; omega
  · simp [h]
theorem ofL_sum : ∀ l : List Ev, (∀ e ∈ l, toldOk e) → (ofL l 0).length + (ofL l 1).length + (ofL l 2).length = l.length
  | [], _ => rfl
  | e :: l, h => by
    have ih := ofL_sum l (fun x hx => h x (by simp [hx]))
    have h1 := h e (by simp)
    unfold toldOk at h1
    rw [ofL_cons, ofL_cons, ofL_cons, List.length_cons]
    have : e.kind = 0 ∨ e.kind = 1 ∨ e.kind = 2 := by omega
    rcases this with e0 | e0 | e0 <;> rw [e0] <;> simp <;> omega
set_option maxRecDepth 100000 in
set_option maxHeartbeats 1000000 in
theorem ctTexts_same (v v' : Value) (ss : List ByteArray) (w : World) (B B' : Nat) (h : RS w B v ss) (h' : RS w B' v' ss) (hB : B ≤ w.heap.size) (hB' : B' ≤ w.heap.size) (hl : ss.length ≤ 1048576) :
    Calls Try.prog 17 #[v, v'] w fun e w' => e = .returned (.bool true) ∧ Below w.heap.size w w' := by
  obtain ⟨a, cap, rfl⟩ := h.shape
  obtain ⟨a', cap', rfl⟩ := h'.shape
  have H := Lib.hid h
  have H' := Lib.hid h'
  clear h h'
  go_enter Try.func17, Try.ntmps17
  go_wp2
  go_loopw [5] (fun j wr => ∃ k : Nat, k ≤ ss.length ∧ j = .int .i64 k ∧ Below w.heap.size w wr) (fun j _ => ss.length - (intOf j).toNat)
  case atStart => exact ⟨0, Nat.zero_le _, rfl, Below.refl _ _⟩
  case round =>
    obtain ⟨k, hk, rfl, hb⟩ := hrel
    have HB := Lib.hid hb
    by_cases hlt : k < ss.length
    · obtain ⟨x, rfl, _, c0⟩ := (H.out.below (hb.mono hB)).at_ hlt
      obtain ⟨x', rfl, _, c0'⟩ := (H'.out.below (hb.mono hB')).at_ hlt
      clear hb
      generalize ss[k] = t at *
      go_wp2_with fail
      go_region
      all_goals
        go_wp2
        go_roundw
        case rel => exact ⟨k + 1, by omega, by go_num, HB.out.drew⟩
        case measure => simp [intOf]; omega
    · go_wp2
      go_ret
      exact ⟨rfl, HB.out⟩
def DrawOfPost (w : World) (e : Ending) (w' : World) : Prop := ∃ v l ch, e = .returned (.tuple #[v, .int .i64 ch]) ∧ OE w' w.heap.size v l ∧ l.length ≤ 200 ∧ (∀ e ∈ l, toldOk e) ∧ Below w.heap.size w w'
set_option maxRecDepth 100000 in
set_option maxHeartbeats 2000000 in
theorem drawMuxOf_any {w : World} (a : Option Addr) (len cap : Nat) (zs : List Int) (h : IsRow .u8 w a len cap zs) :
    Calls Try.prog 35 #[.slice a len cap] w (DrawOfPost w) := by
  have HH := Lib.hid h
  clear h
  go_enter Try.func35, Try.ntmps35
  go_wp2_with fail
  refine (open_any a len cap zs HH.out).mono ?_
  rintro e w1 ⟨rfl, hr1, hb1, _⟩
  have HR1 := Lib.hid hr1
  have HB1 := Lib.hid hb1
  clear hr1 hb1
  go_wp2_with fail
  refine (pieces_any HR1.out HB1.out.size (by omega)).mono ?_
  rintro e w2 ⟨v2, ls, rfl, ho2, hl2, hp2, hr2, hg2⟩
  have HR2 := Lib.hid hr2
  have HB2 := Lib.hid (HB1.out.trans (grown_below hg2 HB1.out.size (Nat.le_refl _)))
  have HO2 := Lib.hid ho2
  have HSL := Lib.hid (strs_len ls)
  have HPK := Lib.hid (show ∀ s ∈ strs ls, s.size ≤ 1048576 by
    intro s hs
    unfold strs at hs
    obtain ⟨l, hl, rfl⟩ := List.mem_map.1 hs
    have := (hp2 l hl).2
    show l.length ≤ 1048576
    omega)
  obtain ⟨a2, c2, rfl⟩ := ho2.reads.shape
  clear hr2 hg2 ho2 hp2
  go_wp2_with fail
  refine (specAll_any _ (strs ls) _ _ HO2.out.reads (Nat.le_refl _) (by have := HSL.out; omega) HPK.out).mono ?_
  rintro e w3 ⟨⟨v3, rfl, ho3⟩, hb3⟩
  rw [txts_strs] at ho3
  have HTL := Lib.hid (allTold_len mux0 ls)
  have HTK := Lib.hid (allTold_ok mux0 ls)
  generalize allTold mux0 ls = L at *
  have HR3 := Lib.hid (HR2.out.grow (below_grown hb3 none) (by simp) (by simp))
  have HB3 := Lib.hid (HB2.out.trans (hb3.mono HB2.out.size))
  have HO3 := Lib.hid (ho3.mono (base' := w2.heap.size) (Nat.le_refl _))
  have hgl3 := HR2.out.lt
  obtain ⟨a3, c3, rfl⟩ := ho3.reads.shape
  clear ho3 hb3
  go_wp2_with fail
  refine (pick_any _ HR3.out (by omega)).mono ?_
  rintro e w4 ⟨⟨x, rfl, _, _⟩, hr4, hg4⟩
  have HB4 := Lib.hid (HB3.out.trans (grown_below hg4 HB3.out.size (Nat.le_refl _)))
  have HO4 := Lib.hid ((HO3.out.kept hg4 (by
    cases hv : (Value.slice a3 L.length c3).ownBlock with
    | none => exact .inl rfl
    | some k => right; intro e; have := (HO3.out.low k hv).1; injection e with e; omega)).mono (base' := w.heap.size) HB2.out.size)
  clear hr4 hg4
  go_wp2
  go_ret2
  exact ⟨_, L, x, rfl, HO4.out, by have := HTL.out; omega, HTK.out, HB4.out⟩
end Go.Proofs.Ytiffeddeobhndaa
