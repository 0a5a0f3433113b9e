/- Pieces that are drawn. -/
import Derived.Test.YtplaagkcamjemaaMxB
import Derived.Test.YtplaagkcamjemaaDrawD
namespace Go.Proofs.Ytplaagkcamjemaa
open Go.ChangeShapes Go.WideShapes Go.ChangeAt Go.RowKit
/-- a piece as it is drawn -/
def pieceOk (l : List UInt8) : Prop := 1 ≤ l.length ∧ l.length ≤ 41
theorem cutL_ok (ch size : Nat) (l : List UInt8) (hl : l.length ≤ 40) : ∀ p ∈ cutL ch size l, pieceOk p := by
  fun_induction cutL ch size l with
  | case1 l h ih =>
    intro p hp
    rcases List.mem_cons.1 hp with rfl | hp
    · unfold pieceOk pieceL
      rw [List.length_cons, List.length_take]; omega
    · exact ih (by rw [List.length_drop]; omega) p hp
  | case2 l h =>
    intro p hp
    rw [List.mem_singleton.1 hp]
    unfold pieceOk pieceL
    rw [List.length_cons]; omega
theorem cutM_ok (ch : Int) (l : List UInt8) (size : Int) : ∀ p ∈ cutM ch l size, pieceOk p := by
  unfold cutM
  split
  · rename_i h
    have h1 := of_decide_eq_true h
    exact cutL_ok _ _ l h1.2.2.1
  · intro p hp; simp at hp
theorem os_keptg {w w' : World} {base g : Nat} {v : Value} {ss : List ByteArray} (h : OS w base v ss) (hg : w.grownBy w' (some g)) (hb : g < base) : OS w' base v ss := by
  refine h.kept hg ?_
  cases hv : v.ownBlock with
  | none => exact .inl rfl
  | some k => right; intro e; have := (h.low k hv).1; injection e with e; omega
def PiecesPost (w : World) (B g N : Nat) (e : Ending) (w' : World) : Prop :=
  ∃ v ls, e = .returned v ∧ OS w' w.heap.size v (strs ls) ∧ ls.length ≤ 200 ∧ (∀ p ∈ ls, pieceOk p) ∧ Rd w' B g (N + 200) ∧ w.grownBy w' (some g)
set_option maxRecDepth 100000 in
set_option maxHeartbeats 8000000 in
theorem pieces_any {w : World} {B g N : Nat} (h : Rd w B g N) (hBg : B ≤ w.heap.size) (hN : N + 300 ≤ 1000000000) :
    Calls Try.prog 55 #[.pointer (some ⟨g, 0, none⟩)] w (PiecesPost w B g N) := by
  obtain ⟨i0, hi, hz0, hz1, hz2⟩ := info_parts info_str
  have HI := Lib.hid hi
  have HZ0 := Lib.hid hz0
  have HZ1 := Lib.hid hz1
  have HZ2 := Lib.hid hz2
  have hgl := h.lt
  have HR := Lib.hid (h.alloc (.cells #[] 9))
  have HO := Lib.hid (OS_made w (base := w.heap.size) (g := w.heap.size) rfl (Nat.le_refl _))
  have HG := Lib.hid (grown_alloc (row := some g) (⟨rfl, rfl, rfl, Nat.le_refl _, fun _ _ _ => rfl⟩ : w.grownBy w (some g)) (.cells #[] 9))
  clear h hi hz0 hz1 hz2
  go_enter Try.func55, Try.ntmps55
  go_wp2_with fail
  refine (pick_any _ HR.out (by omega)).mono ?_
  rintro e w1 ⟨⟨x, rfl, hx, _⟩, hr1, hg1⟩
  obtain ⟨h0, h1⟩ := hx (by omega)
  obtain ⟨n0, rfl⟩ := Int.eq_ofNat_of_zero_le h0
  have hn0 : n0 ≤ 3 := by omega
  have HR := Lib.hid hr1
  have HO := Lib.hid (os_keptg HO.out hg1 hgl)
  have HG := Lib.hid (grown_trans HG.out hg1)
  clear hr1 hg1 hx h0 h1
  go_wp2_with fail
  go_loopw [3, 4] (fun v n wr => ∃ (k : Nat) (ls : List (List UInt8)), k ≤ n0 ∧ n = .int .i64 k ∧ ls.length ≤ 41 * (n0 - k) ∧ (∀ p ∈ ls, pieceOk p) ∧ OS wr w.heap.size v (strs ls) ∧ Rd wr B g (N + 1 + 33 * (n0 - k)) ∧ w.grownBy wr (some g)) (fun _ n _ => (intOf n).toNat)
  case atStart => exact ⟨n0, [], Nat.le_refl _, rfl, by simp, fun p hp => by simp at hp, HO.out, by rw [Nat.sub_self]; exact HR.out, HG.out⟩
  case round =>
    obtain ⟨k, ls, hk, rfl, hll, hpk, hown, hrd, hgr⟩ := hrel
    have HOr := Lib.hid hown
    have HRr := Lib.hid hrd
    have HGr := Lib.hid hgr
    have HPK := Lib.hid hpk
    have HLL := Lib.hid hll
    have HSL := Lib.hid (strs_len ls)
    clear hown hrd hgr hpk hll
    by_cases hk0 : 0 < k
    · have hk0i : (0 : Int) < (k : Int) := by omega
      go_wp2_with fail
      refine (pick_any _ HRr.out (by omega)).mono ?_
      rintro e w2 ⟨⟨c, rfl, _, _⟩, hr2, hg2⟩
      have HR2 := Lib.hid hr2
      have HG2 := Lib.hid (grown_trans HGr.out hg2)
      have HO2 := Lib.hid (os_keptg HOr.out hg2 hgl)
      clear hr2 hg2
      go_wp2_with fail
      refine (bytes_any 10 HR2.out (by omega) (by omega)).mono ?_
      rintro e w3 ⟨s, rfl, hs, hr3, hg3⟩
      have HR3 := Lib.hid hr3
      have HG3 := Lib.hid (grown_trans HG2.out hg3)
      have HO3 := Lib.hid (os_keptg HO2.out hg3 hgl)
      clear hr3 hg3
      go_wp2_with fail
      refine (pick_any _ HR3.out (by omega)).mono ?_
      rintro e w4 ⟨⟨z, rfl, hz, _⟩, hr4, hg4⟩
      obtain ⟨z0, z1⟩ := hz (by omega)
      have HR4 := Lib.hid hr4
      have HG4 := Lib.hid (grown_trans HG3.out hg4)
      have HO4 := Lib.hid (os_keptg HO3.out hg4 hgl)
      clear hr4 hg4 hz
      go_wp2_with fail
      refine (specMuxCut_any c s (1 + z) _).mono ?_
      rintro e w5 ⟨⟨v5, rfl, ho5⟩, hb5⟩
      have HCL := Lib.hid (cutM_len c s.data.toList (1 + z))
      have HCO := Lib.hid (cutM_ok c s.data.toList (1 + z))
      generalize cutM c s.data.toList (1 + z) = cs at *
      have HCS := Lib.hid (strs_len cs)
      have HR5 := Lib.hid (HR4.out.grow (below_grown hb5 none) (by simp) (by simp))
      have HG5 := Lib.hid (grown_trans HG4.out (below_grown hb5 (some g)))
      have HO5 := Lib.hid (HO4.out.below hb5)
      have HRS := Lib.hid ho5.reads
      have hsz5 : w.heap.size ≤ w5.heap.size := HG5.out.size
      obtain ⟨a5, c5, rfl⟩ := ho5.reads.shape
      clear ho5 hb5
      go_wp2_with (at_builtin; refine wpList_append_os _ rfl _ _ 25 rfl w.heap.size i0 Try.underlying25 HI.out HZ0.out HZ1.out HZ2.out _ _ rfl HO5.out _ _ (strs cs) rfl HRS.out (by have := HLL.out; have := HSL.out; have := HCS.out; have := HCL.out; omega) hsz5 ?_; intro v6 w6 hown6 hg6 _)
      go_roundw
      case rel =>
        refine ⟨k - 1, ls ++ cs, by omega, val_int (by omega), by rw [List.length_append]; have := HLL.out; have := HCL.out; omega, fun p hp => ?_, by rw [strs_append]; exact hown6, ?_, grown_own HG5.out hg6 (fun j hj => (HO5.out.low j hj).1)⟩
        · rcases List.mem_append.1 hp with h | h
          · exact HPK.out p h
          · exact HCO.out p h
        · have h1 := HR5.out.grow hg6 (fun e => by have := (HO5.out.low g e).1; omega) (fun j hj => Nat.le_trans hBg (HO5.out.low j hj).1)
          exact h1.mono (by omega)
      case measure => simp [intOf]; omega
    · obtain rfl : k = 0 := by omega
      go_wp2
      go_ret
      exact ⟨_, ls, rfl, HOr.out, by have := HLL.out; omega, HPK.out, HRr.out.mono (by omega), HGr.out⟩
end Go.Proofs.Ytplaagkcamjemaa
