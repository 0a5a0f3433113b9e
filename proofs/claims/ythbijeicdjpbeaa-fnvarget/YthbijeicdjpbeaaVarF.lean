/- VarGet of the program. -/
import Derived.Test.YthbijeicdjpbeaaVarE
namespace Go.Proofs.Ythbijeicdjpbeaa
open Go.ChangeShapes Go.WideShapes Go.ChangeAt Go.RowKit Go.Shelf
attribute [local go_sem] Oper.semAt_some
theorem gnew {w w' : World} {g : Nat} {o : Obj} (h : (w.alloc o).grownBy w' (some g)) (hg : w.heap.size ≤ g) : Below w.heap.size w w' :=
  ((Below.refl _ w).alloc (Nat.le_refl _) o).trans (grown_below h (by simp) hg)
def groups (t : List UInt8) (k : Nat) : List Gp := (t.take k).map fun b => ⟨b.toNat - 128, by have := UInt8.toNat_lt b; omega⟩
theorem groups_len (t : List UInt8) (k : Nat) : (groups t k).length = min k t.length := by simp [groups]
theorem groups_map (t : List UInt8) (k : Nat) : (groups t k).map (·.1) = (t.take k).map (fun c => c.toNat - 128) := by
  unfold groups; rw [List.map_map]; rfl
theorem ci_own {w : World} {base : Nat} {a : Option Addr} {c n k : Nat} {t : List UInt8} (h : OI w base (.slice a n c) ((t.take k).map (fun b => b.toNat - 128))) : CI w a (groups t k) ∧ ∀ g, a = some ⟨g, 0, none⟩ → g < w.heap.size := by
  refine ⟨fun j hj => ?_, fun g e => (h.lt g (by rw [e]; rfl)).2⟩
  rw [← groups_map] at h
  rcases h.2 with ⟨_, h0⟩ | ⟨g, cap, cur, e, _, hg, h1, _, h3, h4⟩
  · rw [List.length_map] at h0; omega
  · have e1 : a = some ⟨g, 0, none⟩ := by injection e
    refine ⟨g, e1, ?_⟩
    rw [cell_of_row w g j cur _ _ hg]
    have h5 : (cur.toList.take (((groups t k).map (·.1)).length * 1))[j]? = some (natV (groups t k)[j].1) := by
      rw [h4]; simp [hj]
    rw [List.getElem?_take] at h5
    split at h5
    · simpa [natV] using h5
    · cases h5
theorem no_undef {b : Bool} : ¬ some undef = some (Value.bool b) := by intro h; cases h
theorem or_seven (n g : Nat) (hn : n < 72057594037927936) (hg : g < 128) : bits .or .i64 ((n : Int) * 128) (g : Int) = ((n * 128 + g : Nat) : Int) := by
  have h1 : (BitVec.ofInt 64 ((n : Int) * 128)).toNat = n * 128 := by
    rw [show (n : Int) * 128 = ((n * 128 : Nat) : Int) by omega, BitVec.ofInt_natCast, BitVec.toNat_ofNat]; exact Nat.mod_eq_of_lt (by omega)
  have h2 : (BitVec.ofInt 64 (g : Int)).toNat = g := by
    rw [BitVec.ofInt_natCast, BitVec.toNat_ofNat]; exact Nat.mod_eq_of_lt (by omega)
  have h3 : n * 128 ||| g = n * 128 + g := by
    have := Nat.two_pow_add_eq_or_of_lt (i := 7) (b := g) (by simpa using hg) n
    rw [Nat.mul_comm n 128]
    exact this.symm
  show IntKind.i64.wrap ((BitVec.ofInt 64 ((n : Int) * 128) ||| BitVec.ofInt 64 (g : Int)).toNat : Int) = _
  rw [BitVec.toNat_or, h1, h2, h3, IntKind.wrap_i64]
  omega
theorem ci_below {w w' : World} {a : Option Addr} {l : List Gp} (h : CI w a l ∧ ∀ g, a = some ⟨g, 0, none⟩ → g < w.heap.size) (hb : Below w.heap.size w w') : CI w' a l := fun k hk => by
  obtain ⟨g, e, hc⟩ := h.1 k hk
  exact ⟨g, e, (hb.cell (p := ⟨g, k, none⟩) (h.2 g e)).trans hc⟩
theorem cso {W : World} {g o j i : Nat} (h : g ≠ j) {u : Value} : (W.setCell ⟨g, o, none⟩ u).cell? ⟨j, i, none⟩ = W.cell? ⟨j, i, none⟩ := World.cell?_setCell_other _ _ _ _ (fun e => h (by injection e))
theorem css {W : World} {a : Addr} {u v : Value} (h : W.cell? a = some v) : (W.setCell a u).cell? a = some u := World.cell?_setCell_same _ _ _ h
theorem ci_set {W : World} {a : Option Addr} {l : List Gp} {b : Nat} (h : CI W a l) (hb : ∀ g, a = some ⟨g, 0, none⟩ → g < b) (u : Value) : CI (W.setCell ⟨b, 0, none⟩ u) a l := fun k hk => by
  obtain ⟨g, e, hc⟩ := h k hk
  have := hb g e
  exact ⟨g, e, by rw [cso (by omega)]; exact hc⟩
theorem zero_i (w : World) : (zeroValue 3).run Try.prog w = .ok (.int .i64 0) w := by kernel_rfl
set_option maxRecDepth 100000 in
set_option maxHeartbeats 4000000 in
theorem implVarGet_any (s : ByteArray) (w : World) :
    Calls Try.prog 20 #[.string s] w fun e w' => e = .returned (.tuple #[.int .i64 (((getV s.data.toList).1 : Nat) : Int), .int .i64 ((getV s.data.toList).2 : Nat)]) ∧ Below w.heap.size w w' := by
  have HSL := Lib.hid (size_list s)
  have hzi := zero_i
  obtain ⟨k, hk⟩ : ∃ k, k = kV 8 s.data.toList := ⟨_, rfl⟩
  have hk8 : k ≤ 8 := by rw [hk]; exact (kV_le 8 _).1
  have hkl : k ≤ s.size := by rw [hk, ← HSL.out]; exact (kV_le 8 _).2
  have HRUN := Lib.hid (vgRun 8 s.data.toList)
  rw [← hk] at HRUN
  obtain ⟨R, hR⟩ : ∃ R : ByteArray, R = ⟨(s.data.toList.drop k).toArray⟩ := ⟨_, rfl⟩
  have HRL := Lib.hid (show R.data.toList = s.data.toList.drop k by rw [hR])
  have HRS := Lib.hid (show R.size = s.size - k by rw [← size_list, HRL.out, List.length_drop, HSL.out])
  have HKE := Lib.hid hk
  clear hk
  refine (callsIn_wide (n := 3)).1 ?_
  refine callsIn_of_wp_marks Try.func20 rfl trivial ?_ rfl
  simp only [Try.ntmps20, List.size_toArray, List.length_cons, List.length_nil, Nat.reduceAdd, Nat.reduceSub, Array.replicate_succ, Array.replicate_zero, List.push_toArray, List.append_toArray, List.nil_append, List.cons_append]
  gi_wp2_with fail
  refine ⟨trivial, ?_⟩
  refine (callsIn_wide.2 (upToI_any w.heap.size s 8 _ (BK.new w _ _) (by omega))).mono ?_
  rintro e w2 ⟨⟨v, rfl, hown⟩, hcu, hgr⟩
  have HB := Lib.hid (gnew hgr (Nat.le_refl _))
  rw [HRUN.out] at hown hcu
  simp only at hown hcu
  rw [← hR] at hcu
  have c0 := hcu.cell (i := 0) rfl
  obtain ⟨va, vc, rfl, hvc⟩ := hown.shape
  have HCI := Lib.hid (ci_own hown)
  have hwl : w.heap.size < w2.heap.size := hcu.lt
  have hLL := groups_len s.data.toList k
  rw [List.length_map, List.length_take, HSL.out, Nat.min_eq_left hkl]
  rw [HSL.out, Nat.min_eq_left hkl] at hLL
  clear hown hcu hgr hR hvc
  by_cases hR0 : R.size = 0
  · have HE := Lib.hid (getV_no (t := s.data.toList) (by
      cases h : okV s.data.toList with
      | false => rfl
      | true => obtain ⟨h1, _⟩ := okV_get h; rw [← HKE.out, HSL.out] at h1; have := HRS.out; omega))
    obtain rfl := bz_zero hR0
    gi_wp2
    all_goals (first | (exact absurd (by assumption) no_undef) | (exfalso; omega) | skip)
    exact ⟨_, results_tmp2 rfl _ _ _, by rw [HE.out]; rfl, HB.out⟩
  have hRp : 0 < R.size := by omega
  have hRe : R.toList.isEmpty = false := by rw [bz_list]; exact decide_eq_false hR0
  have HKL := Lib.hid (show k < s.data.toList.length by rw [HSL.out]; have := HRS.out; omega)
  have HTK := Lib.hid (show s.data.toList[k]'HKL.out = R[0] by
    have h1 := list_one R hRp
    rw [HRL.out, List.drop_eq_getElem_cons HKL.out] at h1
    exact (List.cons.inj h1).1)
  have HALL := Lib.hid (show ∀ j, (h : j < s.data.toList.length) → j < k → 128 ≤ s.data.toList[j].toNat from fun j h hj => kV_ge 8 _ j h (by rw [← HKE.out]; exact hj))
  have hb8 := UInt8.toNat_lt R[0]
  by_cases h128 : 128 ≤ R[0].toNat
  · have HE := Lib.hid (getV_no (t := s.data.toList) (by
      cases h : okV s.data.toList with
      | false => rfl
      | true =>
        obtain ⟨h1, h2, _⟩ := okV_get h
        simp only [← HKE.out, HTK.out] at h2
        omega))
    gi_wp2
    all_goals (first | (exact absurd (by assumption) no_undef) | (exfalso; omega) | skip)
    exact ⟨_, results_tmp2 rfl _ _ _, by rw [HE.out]; rfl, HB.out⟩
  by_cases hz : R[0].toNat = 0 ∧ 0 < k
  · obtain ⟨hz1, hz2⟩ := hz
    have HE := Lib.hid (getV_no (okV_zero HKL.out hz2 hk8 (by rw [HTK.out]; exact hz1) HALL.out))
    have hzi2 : (0 : Int) < (k : Int) := by omega
    gi_wp2
    all_goals (first | (exact absurd (by assumption) no_undef) | (exfalso; omega) | skip)
    exact ⟨_, results_tmp2 rfl _ _ _, by rw [HE.out]; rfl, HB.out⟩
  obtain ⟨e1, e2⟩ := okV_here HKL.out hk8 (by rw [HTK.out]; omega) (fun h => by rw [HTK.out] at h; omega) HALL.out
  rw [take_snoc HKL.out, HTK.out] at e2
  have HE := Lib.hid e2
  clear e1 e2
  have HFV := Lib.hid (fv_all R[0] (by omega) (s.data.toList.take k) (fun x hx => by
    obtain ⟨j, hj, rfl⟩ := List.getElem_of_mem hx
    rw [List.length_take] at hj
    rw [List.getElem_take]
    exact HALL.out j (by omega) (by omega)) (groups s.data.toList k) (groups_map _ _))
  have hR128 : (R[0].toNat : Int) < 128 := by omega
  by_cases hz0 : R[0].toNat = 0
  · have hk0 : decide ((0 : Int) < (k : Int)) = false := decide_eq_false (by omega)
    have hk00 : decide (0 < k) = false := decide_eq_false (by omega)
    gi_wp2_with (refine ⟨trivial, ?_⟩; gi_at_call 34; refine (callsIn_wide.2 (backOf_any va k vc _)).mono ?_; rintro e w' ⟨rfl, rfl⟩)
    all_goals (first | (exact absurd (by assumption) no_undef) | (exfalso; omega) | skip)
    clear hzi
    have hbx0 : ((w2.alloc (.cells #[.int .i64 0] 3)).alloc (.cells #[.slice va k vc] 46)).cell? ⟨w2.heap.size + 1, 0, none⟩ = some (.slice va k vc) := by
      have h := (Boxed.new (w2.alloc (.cells #[.int .i64 0] 3)) 46 (.slice va k vc)).cell
      rw [World.size_alloc] at h
      exact h
    have hn0 := (Boxed.new w2 3 (.int .i64 0)).alloc (.cells #[.slice va k vc] 46)
    have hn0c := hn0.cell
    have hn0f := hn0.frozen
    have hci0 : CI ((w2.alloc (.cells #[.int .i64 0] 3)).alloc (.cells #[.slice va k vc] 46)) va (groups s.data.toList k) := ci_below HCI.out (((Below.refl _ _).alloc (Nat.le_refl _) _).alloc (by simp) _)
    have hbe0 : Below w.heap.size w ((w2.alloc (.cells #[.int .i64 0] 3)).alloc (.cells #[.slice va k vc] 46)) := (HB.out.alloc HB.out.size _).alloc (by have := HB.out.size; simp; omega) _
    have hws : ((w2.alloc (.cells #[.int .i64 0] 3)).alloc (.cells #[.slice va k vc] 46)).heap.size = w2.heap.size + 2 := by simp
    clear hn0
    generalize (w2.alloc (.cells #[.int .i64 0] 3)).alloc (.cells #[.slice va k vc] 46) = W0 at *
    have hbx1 : W0.cell? ⟨w2.heap.size + 1, 0, none⟩ = some (.slice va (groups s.data.toList k).length vc) := by rw [hLL]; exact hbx0
    have hgN : (groups s.data.toList k).length ≤ 8 := by omega
    refine wpIn_rangeFunc_ownF rfl (by omega) (gf := 40) (lb := #[.pointer (some ⟨w2.heap.size + 1, 0, none⟩)]) rfl trivial (enters_of Try.func40 (by kernel_rfl) rfl)
      (back_stops (3 - 1) (by omega) (w2.heap.size + 1) va vc (groups s.data.toList k) hgN W0 hbx1 hci0 (by omega)) (fun h k e => k (h e))
      (fun W l o o' hl ho hc _ e => ⟨cell_kept e.1 (grownBy_putObj' W l o') (fun r er => by cases er; exact ⟨o, ho, hc⟩), fun j hj => by
        obtain ⟨g, eg, hcg⟩ := e.2 j hj
        exact ⟨g, eg, cell_kept hcg (grownBy_putObj' W l o') (fun r er => by cases er; exact ⟨o, ho, hc⟩)⟩⟩) (Below.refl _ _) (fun _ => rfl)
      (fun pre W => ((W.cell? ⟨w2.heap.size, 0, none⟩ = some (.int .i64 ((fv R[0].toNat pre : Nat) : Int)) ∧ W.frozen? ⟨w2.heap.size, 0, none⟩ = false) ∧ (W.cell? ⟨w2.heap.size + 1, 0, none⟩ = some (.slice va (groups s.data.toList k).length vc) ∧ CI W va (groups s.data.toList k))) ∧ Below w.heap.size w W)
      (fun _ _ _ => False)
      (OwnFrom.and (fun pre A B row hs hg hr => ⟨⟨cell_kept hs.1.1 hg (fun r e => (hr r e).2), (frozen_kept hs.1.1 hg (fun r e => (hr r e).2)).trans hs.1.2⟩, cell_kept hs.2.1 hg (fun r e => (hr r e).2), fun j hj => by
        obtain ⟨g, eg, hcg⟩ := hs.2.2 j hj
        exact ⟨g, eg, cell_kept hcg hg (fun r e => (hr r e).2)⟩⟩) (ownFrom_below (Nat.le_refl _) (by omega)))
      (fun _ _ _ _ _ hs _ _ => hs)
      ⟨⟨⟨by rw [show fv R[0].toNat [] = R[0].toNat from rfl, hz0]; exact hn0c, hn0f⟩, hbx1, hci0⟩, hbe0⟩
      (fun x => { tmps := #[.string s, undef, .int .i64 0, .int .i64 0, .pointer (some ⟨w.heap.size, 0, none⟩), .slice va k vc, .pointer (some ⟨w2.heap.size, 0, none⟩), undef, .int .i64 ((x.2.1 : Nat) : Int), .string s, .agg #[.string s, .func (.func 32) #[] #[]], .slice va k vc, .pointer (some ⟨w.heap.size, 0, none⟩), .string R, .bool false, .bool false, .pointer (some ⟨w.heap.size, 0, none⟩), .string R, .int .u8 0, .bool false, .bool false, .bool false, .pointer (some ⟨w.heap.size, 0, none⟩), .string R, .int .u8 0, .bool true, .bool true, .slice va k vc, .int .i64 (k : Int), .bool false, .bool false, .bool false, .pointer (some ⟨w.heap.size, 0, none⟩), .string R, .int .u8 0, .int .i64 0, .slice va k vc, .func (.func 40) #[] #[.pointer (some ⟨w2.heap.size + 1, 0, none⟩)], .int .i64 ((x.1 : Nat) : Int), .int .i64 ((x.2.1 : Nat) : Int), undef, undef, undef, undef, undef, undef, undef, undef], defers := [] }) ?assign ?body ?done ?stop
    case assign =>
      intro l x W K hK
      gi_wp2
      exact hK
    case body =>
      clear hbx0 hbx1 hn0c hn0f hci0 hbe0
      rintro l pre ⟨i, g, hg⟩ W ⟨⟨⟨hc, hf⟩, hbx, hci⟩, hB⟩ hlen
      have hfl := fv_lt (b := R[0].toNat) (by omega) pre
      have HS := Lib.hid (fv_snoc R[0].toNat pre (i, ⟨g, hg⟩))
      have hfl8 : fv R[0].toNat pre < 72057594037927936 := Nat.lt_of_lt_of_le hfl (pow_le8 (show 1 + pre.length ≤ 8 by omega))
      have hHC := Lib.hid hc
      have hHB := Lib.hid hB
      have hHX := Lib.hid hbx
      have hHI := Lib.hid hci
      clear hfl hbx hci hB
      generalize hv : fv R[0].toNat pre = n at *
      gi_wp2
      have hst : bits .or .i64 ((n : Int) * 128) (g : Int) = ((n * 128 + g : Nat) : Int) := or_seven n g hfl8 hg
      refine ⟨KeepsOthers.setCell _ _ _, ?_, ⟨⟨?_, ?_⟩, ?_, ?_⟩, ?_⟩
      · exact fun e => ⟨by rw [cso (by omega)]; exact e.1, ci_set e.2 HCI.out.2 _⟩
      · have HS2 := HS.out
        rw [hz0] at HS2
        rw [css hHC.out, hst, HS2]
      · simpa using hf
      · rw [cso (by omega), ← hLL]
        exact hHX.out
      · exact ci_set hHI.out HCI.out.2 _
      · exact hHB.out.setCell (p := ⟨w2.heap.size, 0, none⟩) (Nat.le_of_lt hwl) _
    case done =>
      clear hbx0 hbx1 hn0c hn0f hci0 hbe0
      rintro D ys W hD hS ⟨⟨⟨hc, hf⟩, hbx, hci⟩, hB⟩ hK
      subst hS
      rw [HFV.out] at hc
      have HB2 := Lib.hid hB
      have HK := Lib.hid hK
      clear hbx hci hB hK
      gi_wp2
      refine ⟨by simp, .inl ⟨_, _, rfl, run_takeDeferred HK.out, ?_⟩⟩
      exact ⟨_, results_tmp2 rfl _ _ _, by rw [HE.out]; rfl, HB2.out.trans (belowK_b (w := w) (Nat.le_refl _) W D _ _ (by omega) HK.out rfl rfl)⟩
    case stop =>
      rintro D c pre W _ _ h _
      exact h.elim
  · have hz00 : ((R[0].toNat : Int) == 0) = false := beq_eq_false_iff_ne.2 (by omega)
    gi_wp2_with (refine ⟨trivial, ?_⟩; gi_at_call 34; refine (callsIn_wide.2 (backOf_any va k vc _)).mono ?_; rintro e w' ⟨rfl, rfl⟩)
    all_goals (first | (exact absurd (by assumption) no_undef) | (exfalso; omega) | skip)
    clear hzi
    have hbx0 : ((w2.alloc (.cells #[.int .i64 (R[0].toNat : Int)] 3)).alloc (.cells #[.slice va k vc] 46)).cell? ⟨w2.heap.size + 1, 0, none⟩ = some (.slice va k vc) := by
      have h := (Boxed.new (w2.alloc (.cells #[.int .i64 (R[0].toNat : Int)] 3)) 46 (.slice va k vc)).cell
      rw [World.size_alloc] at h
      exact h
    have hn0 := (Boxed.new w2 3 (.int .i64 (R[0].toNat : Int))).alloc (.cells #[.slice va k vc] 46)
    have hn0c := hn0.cell
    have hn0f := hn0.frozen
    have hci0 : CI ((w2.alloc (.cells #[.int .i64 (R[0].toNat : Int)] 3)).alloc (.cells #[.slice va k vc] 46)) va (groups s.data.toList k) := ci_below HCI.out (((Below.refl _ _).alloc (Nat.le_refl _) _).alloc (by simp) _)
    have hbe0 : Below w.heap.size w ((w2.alloc (.cells #[.int .i64 (R[0].toNat : Int)] 3)).alloc (.cells #[.slice va k vc] 46)) := (HB.out.alloc HB.out.size _).alloc (by have := HB.out.size; simp; omega) _
    have hws : ((w2.alloc (.cells #[.int .i64 (R[0].toNat : Int)] 3)).alloc (.cells #[.slice va k vc] 46)).heap.size = w2.heap.size + 2 := by simp
    clear hn0
    generalize (w2.alloc (.cells #[.int .i64 (R[0].toNat : Int)] 3)).alloc (.cells #[.slice va k vc] 46) = W0 at *
    have hbx1 : W0.cell? ⟨w2.heap.size + 1, 0, none⟩ = some (.slice va (groups s.data.toList k).length vc) := by rw [hLL]; exact hbx0
    have hgN : (groups s.data.toList k).length ≤ 8 := by omega
    refine wpIn_rangeFunc_ownF rfl (by omega) (gf := 40) (lb := #[.pointer (some ⟨w2.heap.size + 1, 0, none⟩)]) rfl trivial (enters_of Try.func40 (by kernel_rfl) rfl)
      (back_stops (3 - 1) (by omega) (w2.heap.size + 1) va vc (groups s.data.toList k) hgN W0 hbx1 hci0 (by omega)) (fun h k e => k (h e))
      (fun W l o o' hl ho hc _ e => ⟨cell_kept e.1 (grownBy_putObj' W l o') (fun r er => by cases er; exact ⟨o, ho, hc⟩), fun j hj => by
        obtain ⟨g, eg, hcg⟩ := e.2 j hj
        exact ⟨g, eg, cell_kept hcg (grownBy_putObj' W l o') (fun r er => by cases er; exact ⟨o, ho, hc⟩)⟩⟩) (Below.refl _ _) (fun _ => rfl)
      (fun pre W => ((W.cell? ⟨w2.heap.size, 0, none⟩ = some (.int .i64 ((fv R[0].toNat pre : Nat) : Int)) ∧ W.frozen? ⟨w2.heap.size, 0, none⟩ = false) ∧ (W.cell? ⟨w2.heap.size + 1, 0, none⟩ = some (.slice va (groups s.data.toList k).length vc) ∧ CI W va (groups s.data.toList k))) ∧ Below w.heap.size w W)
      (fun _ _ _ => False)
      (OwnFrom.and (fun pre A B row hs hg hr => ⟨⟨cell_kept hs.1.1 hg (fun r e => (hr r e).2), (frozen_kept hs.1.1 hg (fun r e => (hr r e).2)).trans hs.1.2⟩, cell_kept hs.2.1 hg (fun r e => (hr r e).2), fun j hj => by
        obtain ⟨g, eg, hcg⟩ := hs.2.2 j hj
        exact ⟨g, eg, cell_kept hcg hg (fun r e => (hr r e).2)⟩⟩) (ownFrom_below (Nat.le_refl _) (by omega)))
      (fun _ _ _ _ _ hs _ _ => hs)
      ⟨⟨⟨hn0c, hn0f⟩, hbx1, hci0⟩, hbe0⟩
      (fun x => { tmps := #[.string s, undef, .int .i64 0, .int .i64 0, .pointer (some ⟨w.heap.size, 0, none⟩), .slice va k vc, .pointer (some ⟨w2.heap.size, 0, none⟩), undef, .int .i64 ((x.2.1 : Nat) : Int), .string s, .agg #[.string s, .func (.func 32) #[] #[]], .slice va k vc, .pointer (some ⟨w.heap.size, 0, none⟩), .string R, .bool false, .bool false, .pointer (some ⟨w.heap.size, 0, none⟩), .string R, .int .u8 (R[0].toNat : Int), .bool (decide ((128 : Int) ≤ (R[0].toNat : Int))), .bool (decide ((128 : Int) ≤ (R[0].toNat : Int))), .bool (decide ((128 : Int) ≤ (R[0].toNat : Int))), .pointer (some ⟨w.heap.size, 0, none⟩), .string R, .int .u8 (R[0].toNat : Int), .bool false, .bool false, undef, undef, undef, .bool false, .bool (decide ((128 : Int) ≤ (R[0].toNat : Int))), .pointer (some ⟨w.heap.size, 0, none⟩), .string R, .int .u8 (R[0].toNat : Int), .int .i64 (R[0].toNat : Int), .slice va k vc, .func (.func 40) #[] #[.pointer (some ⟨w2.heap.size + 1, 0, none⟩)], .int .i64 ((x.1 : Nat) : Int), .int .i64 ((x.2.1 : Nat) : Int), undef, undef, undef, undef, undef, undef, undef, undef], defers := [] }) ?assign ?body ?done ?stop
    case assign =>
      intro l x W K hK
      gi_wp2
      exact hK
    case body =>
      clear hbx0 hbx1 hn0c hn0f hci0 hbe0
      rintro l pre ⟨i, g, hg⟩ W ⟨⟨⟨hc, hf⟩, hbx, hci⟩, hB⟩ hlen
      have hfl := fv_lt (b := R[0].toNat) (by omega) pre
      have HS := Lib.hid (fv_snoc R[0].toNat pre (i, ⟨g, hg⟩))
      have hfl8 : fv R[0].toNat pre < 72057594037927936 := Nat.lt_of_lt_of_le hfl (pow_le8 (show 1 + pre.length ≤ 8 by omega))
      have hHC := Lib.hid hc
      have hHB := Lib.hid hB
      have hHX := Lib.hid hbx
      have hHI := Lib.hid hci
      clear hfl hbx hci hB
      generalize hv : fv R[0].toNat pre = n at *
      gi_wp2
      have hst : bits .or .i64 ((n : Int) * 128) (g : Int) = ((n * 128 + g : Nat) : Int) := or_seven n g hfl8 hg
      refine ⟨KeepsOthers.setCell _ _ _, ?_, ⟨⟨?_, ?_⟩, ?_, ?_⟩, ?_⟩
      · exact fun e => ⟨by rw [cso (by omega)]; exact e.1, ci_set e.2 HCI.out.2 _⟩
      · have HS2 := HS.out
        rw [css hHC.out, hst, HS2]
      · simpa using hf
      · rw [cso (by omega), ← hLL]
        exact hHX.out
      · exact ci_set hHI.out HCI.out.2 _
      · exact hHB.out.setCell (p := ⟨w2.heap.size, 0, none⟩) (Nat.le_of_lt hwl) _
    case done =>
      clear hbx0 hbx1 hn0c hn0f hci0 hbe0
      rintro D ys W hD hS ⟨⟨⟨hc, hf⟩, hbx, hci⟩, hB⟩ hK
      subst hS
      rw [HFV.out] at hc
      have HB2 := Lib.hid hB
      have HK := Lib.hid hK
      clear hbx hci hB hK
      gi_wp2
      refine ⟨by simp, .inl ⟨_, _, rfl, run_takeDeferred HK.out, ?_⟩⟩
      exact ⟨_, results_tmp2 rfl _ _ _, by rw [HE.out]; rfl, HB2.out.trans (belowK_b (w := w) (Nat.le_refl _) W D _ _ (by omega) HK.out rfl rfl)⟩
    case stop =>
      rintro D c pre W _ _ h _
      exact h.elim
end Go.Proofs.Ythbijeicdjpbeaa
