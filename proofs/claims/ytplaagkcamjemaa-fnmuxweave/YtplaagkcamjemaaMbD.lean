/- Three builders: written to, read, asked for their length, laid anew. -/
import Derived.Test.YtplaagkcamjemaaMbC
import Derived.RegionTactic
namespace Go.Proofs.Ytplaagkcamjemaa
open Go.ChangeShapes Go.WideShapes Go.ChangeAt Go.RowKit
theorem grownBy_freeze (w : World) (g n : Nat) : w.grownBy (w.freeze ⟨g, 0, none⟩ n) (some g) := by
  unfold World.freeze
  split
  · exact ⟨rfl, rfl, rfl, Nat.le_refl _, fun _ _ _ => rfl⟩
  · exact ⟨rfl, rfl, rfl, by simp, fun k hk hne => by
      simp only [Array.getElem?_modify]
      rw [if_neg (fun e => hne (by rw [← e]))]⟩
section
variable {w : World} {B g : Nat} {L : Nat → List UInt8} {live : Nat → Prop} {p v : Nat → Value}
/-- behind a freeze of one row the others are as they were -/
theorem MBs.frozen (h : MBs w B g L live p v) {i : Nat} (hi : i < 3) {w2 : World} (hg : w.grownBy w2 (v i).ownBlock) : MBs w2 B g L (fun j => live j ∧ j ≠ i) p v where
  lo := h.lo
  bk := h.bk.grown hg (fun e => (h.own i hi g e).2.2 rfl)
  po := h.po
  rb := fun j hj hl => (h.rb j hj hl.1).kept hg (h.ap j i hj hi (fun e => hl.2 e.symm))
  own := fun j hj k hk => by have := h.own j hj k hk; have := hg.size; exact ⟨by omega, by omega, by omega⟩
  ap := h.ap
theorem MBs.reset (h : MBs w B g L live p v) {i : Nat} (hi : i < 3) : MBs ((w.setCell ⟨g, i * 2, none⟩ (.pointer none)).setCell ⟨g, i * 2 + 1, none⟩ (.slice none 0 0)) B g (upd L i []) (fun j => live j ∨ j = i) (upd p i (.pointer none)) (upd v i (.slice none 0 0)) where
  lo := h.lo
  bk := by have := (h.bk.set (i * 2) (.pointer none)).set (i * 2 + 1) (.slice none 0 0); rwa [cellsM_setp p v hi, cellsM_setv _ _ hi] at this
  po := fun j hj => by
    by_cases e : j = i
    · subst e; rw [upd_same]; exact .inl rfl
    · rw [upd_other p e]; exact h.po j hj
  rb := fun j hj hl => by
    by_cases e : j = i
    · subst e; rw [upd_same, upd_same]; exact ⟨World.ownsRow_nil _ _ _ _, fun _ => rfl⟩
    · rw [upd_other v e, upd_other L e]
      have hne : ¬ (v j).ownBlock = some g := fun e => (h.own j hj g e).2.2 rfl
      exact ((h.rb j hj (hl.resolve_right e)).setCell_far hne).setCell_far hne
  own := fun j hj k hk => by
    by_cases e : j = i
    · subst e; rw [upd_same] at hk; simp [Value.ownBlock] at hk
    · rw [upd_other v e] at hk
      have := h.own j hj k hk; simpa using this
  ap := fun j j' hj hj' hne => by
    by_cases e : j = i
    · subst e; rw [upd_same]; exact .inl rfl
    · rw [upd_other v e]
      by_cases e' : j' = i
      · subst e'
        rw [upd_same]
        cases h2 : (v j).ownBlock with
        | none => exact .inl rfl
        | some k => right; intro hk; simp [Value.ownBlock] at hk
      · rw [upd_other v e']; exact h.ap j j' hj hj' hne
theorem MBs.live' (h : MBs w B g L live p v) {live' : Nat → Prop} (hl : ∀ i, i < 3 → live' i → live i) : MBs w B g L live' p v := ⟨h.lo, h.bk, h.po, fun i hi hli => h.rb i hi (hl i hi hli), h.own, h.ap⟩
theorem MBs.same (h : MBs w B g L live p v) {L' : Nat → List UInt8} (hl : ∀ i, i < 3 → L' i = L i) : MBs w B g L' live p v := ⟨h.lo, h.bk, h.po, fun i hi hli => by rw [hl i hi]; exact h.rb i hi hli, h.own, h.ap⟩
end
theorem mLen_any (B g : Nat) (L : Nat → List UInt8) (live : Nat → Prop) (p v : Nat → Value) (i : Nat) (w : World) (h : MBs w B g L live p v) (hi : i < 3) (hl : live i) :
    Calls Try.prog 61 #[.pointer (some ⟨g, i * 2, none⟩)] w fun e w' => e = .returned (.int .i64 ((L i).length : Nat)) ∧ w = w' := by
  have h2 := bk_two h.bk hi
  obtain ⟨a, cap, hv, _⟩ := (h.rb i hi hl).ob.shape
  rw [hv] at h2
  exact bLen_any g (i * 2) (p i) a _ cap w h2
theorem mReset_any (B g : Nat) (L : Nat → List UInt8) (live : Nat → Prop) (p v : Nat → Value) (i : Nat) (w : World) (h : MBs w B g L live p v) (hi : i < 3) :
    Calls Try.prog 62 #[.pointer (some ⟨g, i * 2, none⟩)] w fun e w' => e = .returned (.tuple #[]) ∧ (∃ p' v', MBs w' B g (upd L i []) (fun j => live j ∨ j = i) p' v') ∧ Below B w w' ∧ NB g w w' := by
  refine (bReset_any g (i * 2) _ _ w (bk_two h.bk hi)).mono ?_
  rintro e w' ⟨rfl, rfl⟩
  exact ⟨rfl, ⟨_, _, h.reset hi⟩, ((Below.refl _ _).setCell h.lo _).setCell h.lo _, ((NB.refl _ _).setCell _ _).setCell _ _⟩
set_option maxRecDepth 100000 in
theorem mWrite_any (B g : Nat) (L : Nat → List UInt8) (live : Nat → Prop) (p v : Nat → Value) (i : Nat) (s : ByteArray) (w : World) (h : MBs w B g L live p v) (hi : i < 3) (hl : live i) (hlen : (L i).length + s.size ≤ 140737488355328) :
    Calls Try.prog 63 #[.pointer (some ⟨g, i * 2, none⟩), .string s] w fun e w' => e = .returned (.tuple #[.int .i64 s.size, .nilIface]) ∧ (∃ p' v', MBs w' B g (upd L i (L i ++ s.data.toList)) live p' v') ∧ Below B w w' ∧ NB g w w' := by
  obtain ⟨i0, hi0, hz0, hz1, hz2⟩ := info_parts info_u8
  have HI := Lib.hid hi0
  have HZ0 := Lib.hid hz0
  have HZ1 := Lib.hid hz1
  have HZ2 := Lib.hid hz2
  have H := Lib.hid h
  have HSL := Lib.hid (show s.data.toList.length = s.size by simp)
  have HBw := Lib.hid (show B ≤ w.heap.size by have := h.lo; have := h.bk.lt; omega)
  clear hi0 hz0 hz1 hz2 h
  go_enter Try.func63, Try.ntmps63
  go_wp2_with fail
  refine (cc_any B g L live p v i w H.out hi).mono ?_
  rintro e w1 ⟨rfl, hm, hbel, hnb⟩
  have HM := Lib.hid hm
  have c1 : w1.cell? ⟨g, i * 2 + 1, none⟩ = some (v i) := (bk_two hm.bk hi).c1
  have hgl : g < w1.heap.size := hm.bk.lt
  have hrb := hm.rb i hi hl
  have HR := Lib.hid hrb
  have HBel := Lib.hid hbel
  have HNB := Lib.hid hnb
  have hB1 : B ≤ w1.heap.size := by have := hm.lo; omega
  obtain ⟨l, hle⟩ : ∃ l, L i = l := ⟨_, rfl⟩
  have HL := Lib.hid hle
  rw [hle] at hlen
  clear hm hbel hnb hrb hle
  generalize (upd p i (.pointer (some ⟨g, i * 2, none⟩))) = p1 at *
  obtain ⟨vi, hvi⟩ : ∃ vi, v i = vi := ⟨_, rfl⟩
  rw [hvi] at c1
  have HV := Lib.hid hvi
  have HR2 := Lib.hid (show RB w1 B vi l by rw [← HV.out, ← HL.out]; exact HR.out)
  clear hvi
  go_wp2_with (at_builtin; refine wpList_app_str _ rfl _ _ 22 9 rfl B 5 i0 Try.underlying22 Try.underlying9 HI.out HZ0.out HZ1.out HZ2.out _ l.length (l.map byteV) rfl HR2.out.1 s rfl (by unfold maxLen; omega) hlen (by omega) ?_; intro v2 w2 hown2 hg2 hnil2 hnew2; have hrb2 : RB w2 B v2 (l ++ s.data.toList) := (⟨by rw [List.length_append, List.map_append, HSL.out]; exact hown2, fun h => (by
    rw [List.append_eq_nil_iff] at h
    exact hnil2.2 ⟨HR2.out.2 h.1, by rw [← HSL.out, h.2]; rfl⟩)⟩); have hsh := hrb2.ob.shape; obtain ⟨a2, cap2, hv2, _⟩ := hsh; rw [List.length_append, HSL.out] at hv2; rw [hv2] at hrb2 hnew2 ⊢; have HG2 := Lib.hid hg2; have HS := Lib.hid (HM.out.grow hi (l2 := l ++ s.data.toList) (by rw [HV.out]; exact hg2) hrb2 (by rw [HV.out]; exact hnew2)); have c2 : w2.cell? ⟨g, i * 2 + 1, none⟩ = some vi := (by rw [← HV.out]; exact HS.out.1.cell (cellsM_v p1 v hi)); have f2 : w2.frozen? ⟨g, i * 2 + 1, none⟩ = false := HS.out.1.free _; clear hown2 hnil2 hv2 hrb2 hnew2 hg2)
  go_ret2
  refine ⟨rfl, ?_, ?_, ?_⟩
  · rw [HL.out]; exact ⟨_, _, HS.out.2⟩
  · exact (HBel.out.grown HG2.out (by omega) (fun k hk => (HR2.out.ob.lt k hk).1)).setCell HM.out.lo _
  · exact (HNB.out.grown HR2.out.ob HG2.out).setCell _ _
set_option maxRecDepth 100000 in
set_option maxHeartbeats 400000 in
theorem mString_any (B g : Nat) (L : Nat → List UInt8) (live : Nat → Prop) (p v : Nat → Value) (i : Nat) (w : World) (h : MBs w B g L live p v) (hi : i < 3) (hl : live i) (hlen : (L i).length ≤ 140737488355328) :
    Calls Try.prog 64 #[.pointer (some ⟨g, i * 2, none⟩)] w fun e w' => e = .returned (.string ⟨(L i).toArray⟩) ∧ MBs w' B g L (fun j => live j ∧ j ≠ i) p v ∧ Below B w w' ∧ NB g w w' := by
  have h2 := bk_two h.bk hi
  have hrb := h.rb i hi hl
  have HM := Lib.hid h
  have c1 := h2.c1
  obtain ⟨l, hle⟩ : ∃ l, L i = l := ⟨_, rfl⟩
  obtain ⟨vi, hvi⟩ : ∃ vi, v i = vi := ⟨_, rfl⟩
  rw [hle] at hlen hrb ⊢
  rw [hvi] at c1 hrb
  have HV := Lib.hid hvi
  clear hle hvi h2 h
  cases l with
  | nil =>
    have hv := hrb.2 rfl
    subst hv
    have h1 : ∀ (ts : Array TypeId) (ty : TypeId) (u : World), (Builtin.unsafeSliceData_ ts ty #[.slice none 0 0]).run Try.prog u = .ok (.pointer none) u := fun ts ty u => Lib.run_unsafeSliceData_nil (P := Try.prog) u ts ty 0 0
    have h2 : ∀ (ty : TypeId) (u : World), (Builtin.unsafeString_ #[93, 3] ty #[.pointer none, .int .i64 0]).run Try.prog u = .ok (.string .empty) u := fun ty u => Lib.run_unsafeString_none (P := Try.prog) u _ _ ty none
    clear hrb
    go_enter Try.func64, Try.ntmps64
    go_wp2
    go_region
    all_goals go_wp2
    all_goals go_ret
    all_goals exact ⟨rfl, HM.out.drew.live' (fun i _ h => h.1), (Below.refl _ _).drew, (NB.refl _ _).drew⟩
  | cons x l =>
    obtain ⟨r, cap, rfl, hcap, hcapm, hbg, hgl⟩ := hrb.ob.pos (by simp)
    have hcap0 : cap ≠ 0 := by simp at hcap; omega
    obtain ⟨cur, hcur, hcs⟩ : ∃ cur, w.heap[r]? = some (.cells cur 5 (0, 0)) ∧ (x :: l).length ≤ cur.size := by
      obtain ⟨⟨_, h2⟩, _⟩ := hrb
      rcases h2 with ⟨h, _⟩ | ⟨g', cap', cur, h, _, hgg, hnc, _, hcs, _⟩
      · simp at h
      · have : r = g' := by injection h with h; injection h with h; injection h
        subst this
        exact ⟨cur, hgg, by omega⟩
    have h1 : ∀ (ts : Array TypeId) (ty : TypeId) (u : World), (Builtin.unsafeSliceData_ ts ty #[.slice (some ⟨r, 0, none⟩) (x :: l).length cap]).run Try.prog u = .ok (.pointer (some ⟨r, 0, none⟩)) u := fun ts ty u => Lib.run_unsafeSliceData_row (P := Try.prog) u ts ty ⟨r, 0, none⟩ _ cap hcap0
    have h2 : ∀ (ty : TypeId), (Builtin.unsafeString_ #[93, 3] ty #[.pointer (some ⟨r, 0, none⟩), .int .i64 ((x :: l).length : Int)]).run Try.prog w.drew = .ok (.string ⟨(x :: l).toArray⟩) (w.drew.freeze ⟨r, 0, none⟩ (x :: l).length) := fun ty =>
      Lib.run_unsafeString_row (P := Try.prog) w.drew 93 3 ty 5 Try.underlying93 cellsOf_u8 r cur.size (by simp [World.shape?, World.drew, -World.drew_eq, hcur]) (x :: l) (by simp) hcs (by omega)
        (fun j y hy => by
          have hc := hrb.ob.cells (g := r) rfl j (byteV y) (by rw [List.getElem?_map, hy]; rfl)
          exact hc)
    obtain ⟨M, hM⟩ : ∃ M, (x :: l) = M := ⟨_, rfl⟩
    rw [hM] at h1 h2 c1 hlen hrb ⊢
    have HRB := Lib.hid hrb
    obtain ⟨n, hn⟩ : ∃ n, M.length = n := ⟨_, rfl⟩
    rw [hn] at h1 h2 c1
    have HN := Lib.hid hn
    clear hrb hcur hcs hM hn
    have HG := Lib.hid (show w.grownBy (w.drew.freeze ⟨r, 0, none⟩ n) (v i).ownBlock by rw [HV.out]; have hf := grownBy_freeze w.drew r n; exact ⟨hf.os, hf.tape, hf.output, hf.size, hf.block⟩)
    have HFM := Lib.hid (show MBs (w.drew.freeze ⟨r, 0, none⟩ n) B g L (fun j => live j ∧ j ≠ i) p v from HM.out.frozen hi HG.out)
    have HFB := Lib.hid (show Below B w (w.drew.freeze ⟨r, 0, none⟩ n) from Lib.below_freeze ((Below.refl _ _).drew) (by simpa using hbg) _)
    have HFN := Lib.hid (show NB g w (w.drew.freeze ⟨r, 0, none⟩ n) from (NB.refl g w).grown HRB.out.ob (by have := HG.out; rw [HV.out] at this; exact this))
    go_enter Try.func64, Try.ntmps64
    go_wp2
    go_region
    all_goals go_wp2
    all_goals go_ret
    all_goals exact ⟨rfl, HFM.out, HFB.out, HFN.out⟩
end Go.Proofs.Ytplaagkcamjemaa
