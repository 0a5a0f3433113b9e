/- Draws for the laws of channels: pieces, a channel and bytes. -/
import Derived.Test.YtplaagkcamjemaaMxP
import Derived.Test.YtplaagkcamjemaaMxR
namespace Go.Proofs.Ytplaagkcamjemaa
open Go.ChangeShapes Go.WideShapes Go.ChangeAt Go.RowKit
def DrawAllPost (w : World) (e : Ending) (w' : World) : Prop := ∃ v ls, e = .returned v ∧ RP w' w'.heap.size v (strs ls) ∧ ls.length ≤ 200 ∧ (∀ p ∈ ls, pieceOk p) ∧ Below w.heap.size w w'
theorem RP.keptg {w w' : World} {g base : Nat} {v : Value} {ss : List ByteArray} (h : OS w base v ss) (hg : w.grownBy w' (some g)) (hb : g < base) : RP w' w'.heap.size v ss := RP.of_own (os_keptg h hg hb)
set_option maxRecDepth 100000 in
theorem drawMuxAll_any {w : World} (a : Option Addr) (len cap : Nat) (zs : List Int) (h : IsRow .u8 w a len cap zs) :
    Calls Try.prog 21 #[.slice a len cap] w (DrawAllPost w) := by
  have HH := Lib.hid h
  clear h
  go_enter Try.func21, Try.ntmps21
  go_wp2_with fail
  refine (open_any a len cap zs HH.out).mono ?_
  rintro e w1 ⟨rfl, hr1, hb1, h4⟩
  have HR1 := Lib.hid hr1
  have HB1 := Lib.hid hb1
  clear hr1 hb1 h4
  go_wp2_with fail
  refine (pieces_any HR1.out HB1.out.size (by omega)).mono ?_
  rintro e w2 ⟨v2, ls, rfl, ho2, hl2, hp2, hr2, hg2⟩
  have HR2 := Lib.hid hr2
  have HB2 := Lib.hid (HB1.out.trans (grown_below hg2 HB1.out.size (Nat.le_refl _)))
  have HO2 := Lib.hid ho2
  have HPK := Lib.hid hp2
  have hgl := HR1.out.lt
  clear hr2 hg2 ho2 hp2
  go_wp2_with fail
  refine (pick_any _ HR2.out (by omega)).mono ?_
  rintro e w3 ⟨⟨x, rfl, _, _⟩, hr3, hg3⟩
  have HB3 := Lib.hid (HB2.out.trans (grown_below hg3 HB2.out.size (Nat.le_refl _)))
  have HP3 := Lib.hid (RP.keptg HO2.out hg3 hgl)
  clear hr3 hg3
  cases ls with
  | nil =>
    obtain ⟨_, a2, c2, rfl, _, _⟩ := HP3.out
    have hl : (strs []).length = 0 := rfl
    rw [hl] at HP3 ⊢
    by_cases hx : x = 0
    · subst hx
      go_wp2
      go_ret
      exact ⟨_, [], rfl, HP3.out, by simp, HPK.out, HB3.out⟩
    · have hx2 : (x == 0) = false := beq_eq_false_iff_ne.2 hx
      go_wp2
      go_ret
      exact ⟨_, [], rfl, HP3.out, by simp, HPK.out, HB3.out⟩
  | cons p ls =>
    obtain ⟨y, c2, hv2, hsp, ht⟩ := RP.tail HP3.out
    obtain ⟨n, hn⟩ : ∃ n, n = (strs ls).length + 1 := ⟨_, rfl⟩
    have hsl := fun u => slice_one u y n c2 (by omega)
    have hn1 : (0 : Int) < (n : Int) := by omega
    rw [← show n = (List.map (fun l => (⟨l.toArray⟩ : ByteArray)) ls).length + 1 from hn] at hv2 ht
    subst hv2
    generalize sliced (some y) 1 n c2 1 = V at *
    have HT := Lib.hid ht
    clear ht hn hsp
    by_cases hx : x = 0
    · subst hx
      go_wp2
      go_ret
      exact ⟨_, ls, rfl, HT.out, by simp at hl2; omega, fun q hq => HPK.out q (by simp [hq]), HB3.out⟩
    · have hx2 : (x == 0) = false := beq_eq_false_iff_ne.2 hx
      clear hsl
      go_wp2
      go_ret
      exact ⟨_, p :: ls, rfl, HP3.out, hl2, HPK.out, HB3.out⟩
theorem drawMuxCut_any {w : World} (a : Option Addr) (len cap : Nat) (zs : List Int) (h : IsRow .u8 w a len cap zs) :
    Calls Try.prog 9 #[.slice a len cap] w fun e w' => ∃ (c : Int) (s : ByteArray) (z : Int), e = .returned (.tuple #[.int .i64 c, .string s, .int .i64 z]) ∧ s.size ≤ 41 ∧ (0 ≤ z ∧ z ≤ 41) ∧ (-1 ≤ c ∧ c ≤ 3) ∧ Below w.heap.size w w' := by
  have HH := Lib.hid h
  clear h
  go_enter Try.func9, Try.ntmps9
  go_wp2_with fail
  refine (open_any a len cap zs HH.out).mono ?_
  rintro e w1 ⟨rfl, hr1, hb1, h4⟩
  have HR1 := Lib.hid hr1
  have HB1 := Lib.hid hb1
  clear hr1 hb1 h4
  go_wp2_with fail
  refine (one_any [0, 1, 2, 3, -1, 0, 1, 2] 3 (HR1.out.alloc _) (by omega) (by simp) (by simp) (by have := HR1.out.lt; omega) (list_row w1 _ _ _ rfl)).mono ?_
  rintro e w2 ⟨c, hc, rfl, hr2, hg2⟩
  have HC := Lib.hid (show -1 ≤ c ∧ c ≤ 3 by simp at hc; omega)
  have HR2 := Lib.hid hr2
  have HB2 := Lib.hid ((HB1.out.alloc HB1.out.size _).trans (grown_below hg2 (by have := HB1.out.size; simp; omega) (Nat.le_refl _)))
  clear hr2 hg2 hc
  go_wp2_with fail
  refine (one_any [0, 5, 40, 41] 3 (HR2.out.alloc _) (by omega) (by simp) (by simp) (by have := HR2.out.lt; omega) (list_row w2 _ _ _ rfl)).mono ?_
  rintro e w3 ⟨n, hn, rfl, hr3, hg3⟩
  have hn2 : 0 ≤ n ∧ n ≤ 41 := by simp at hn; omega
  obtain ⟨m, rfl⟩ := Int.eq_ofNat_of_zero_le hn2.1
  have hm : m ≤ 41 := by omega
  have HR3 := Lib.hid hr3
  have HB3 := Lib.hid ((HB2.out.alloc HB2.out.size _).trans (grown_below hg3 (by have := HB2.out.size; simp; omega) (Nat.le_refl _)))
  clear hr3 hg3 hn hn2
  go_wp2_with fail
  refine (bytes_any m HR3.out (by omega) (by omega)).mono ?_
  rintro e w4 ⟨s, rfl, hs, hr4, hg4⟩
  have HR4 := Lib.hid hr4
  have HB4 := Lib.hid (HB3.out.trans (grown_below hg4 HB3.out.size (Nat.le_refl _)))
  clear hr4 hg4
  go_wp2_with fail
  refine (one_any [1, 3, 8, 40, 0, 41] 3 (HR4.out.alloc _) (by omega) (by simp) (by simp) (by have := HR4.out.lt; omega) (list_row w4 _ _ _ rfl)).mono ?_
  rintro e w5 ⟨z, hz, rfl, hr5, hg5⟩
  have HZ := Lib.hid (show 0 ≤ z ∧ z ≤ 41 by simp at hz; omega)
  have HB5 := Lib.hid ((HB4.out.alloc HB4.out.size _).trans (grown_below hg5 (by have := HB4.out.size; simp; omega) (Nat.le_refl _)))
  clear hr5 hg5 hz
  go_wp2
  go_ret3
  exact ⟨c, s, z, rfl, by omega, HZ.out, HC.out, HB5.out⟩
end Go.Proofs.Ytplaagkcamjemaa
