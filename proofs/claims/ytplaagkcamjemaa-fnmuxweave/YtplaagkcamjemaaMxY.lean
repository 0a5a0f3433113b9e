/- A Mux and a piece that are drawn. -/
import Derived.Test.YtplaagkcamjemaaMxU
namespace Go.Proofs.Ytplaagkcamjemaa
open Go.ChangeShapes Go.WideShapes Go.ChangeAt Go.RowKit
theorem RP.frame {X X' : World} {lo : Nat} {v : Value} {ss : List ByteArray} (h : RP X X.heap.size v ss) (hlo : ∀ a n c, v = .slice (some a) n c → lo ≤ a.block) (hs : X.heap.size ≤ X'.heap.size) (hk : ∀ k, lo ≤ k → k < X.heap.size → X'.heap[k]? = X.heap[k]?) : RP X' X'.heap.size v ss := by
  obtain ⟨⟨a, cap, rfl, hc, h2⟩, h3⟩ := h
  refine ⟨⟨a, cap, rfl, hc, fun h0 => ?_⟩, h3⟩
  obtain ⟨x, rfl, hB, hcs⟩ := h2 h0
  refine ⟨x, rfl, by omega, fun j hj => ?_⟩
  rw [← hcs j hj]
  exact World.cell?_of_block (by rw [add_block]; exact hk _ (hlo x _ _ rfl) hB)
/-- what is held while a piece is drawn -/
structure DS (wA X : World) (B g N mb r0 : Nat) (v : Value) (ss : List ByteArray) : Prop where
  rw : RW wA X B g N
  rp : RP X X.heap.size v ss
  lo : ∀ a n c, v = .slice (some a) n c → wA.heap.size ≤ a.block
  kb : BK X mb #[v] 35
  kr : BK X r0 #[.slice none 0 0] 35
  lm : wA.heap.size ≤ mb
  lr : r0 < wA.heap.size ∧ r0 ≠ g
section
variable {wA X X' : World} {B g N N' mb r0 : Nat} {v : Value} {ss : List ByteArray}
theorem DS.alloc (h : DS wA X B g N mb r0 v ss) (o : Obj) : DS wA (X.alloc o) B g N mb r0 v ss := ⟨h.rw.alloc o, h.rp.frame h.lo (by simp) (fun k _ hk => Below.heap_alloc X o k hk), h.lo, h.kb.alloc o, h.kr.alloc o, h.lm, h.lr⟩
theorem DS.drew (h : DS wA X B g N mb r0 v ss) : DS wA X.drew B g N mb r0 v ss := ⟨h.rw.drew, h.rp, h.lo, h.kb.drew, h.kr.drew, h.lm, h.lr⟩
theorem DS.next (h : DS wA X B g N mb r0 v ss) (hr : Rd X' B g N') (hg : X.grownBy X' (some g)) : DS wA X' B g N' mb r0 v ss :=
  ⟨h.rw.next hr hg, h.rp.frame h.lo hg.size (fun k hl hk => hg.block k hk (fun e => by have := h.rw.2.2; injection e with e; omega)), h.lo, h.kb.next hg (by have := h.rw.2.2; have := h.lm; omega), h.kr.grown hg (by have := h.lr.2; simp; omega), h.lm, h.lr⟩
theorem DS.mono (h : DS wA X B g N mb r0 v ss) (hN : N ≤ N') : DS wA X B g N' mb r0 v ss := ⟨h.rw.mono hN, h.rp, h.lo, h.kb, h.kr, h.lm, h.lr⟩
end
theorem byte_one {x : Int} (h : x ∈ ([0, 1, 2, 128, 129, 130, 3, 131, 255] : List Int)) : ∃ b : UInt8, x = (b.toNat : Int) := by
  have h2 : 0 ≤ x ∧ x < 256 := by simp at h; omega
  obtain ⟨n, rfl⟩ := Int.eq_ofNat_of_zero_le h2.1
  exact ⟨UInt8.ofNat n, by rw [UInt8.toNat_ofNat']; omega⟩
def DrawTakePost (w : World) (e : Ending) (w' : World) : Prop := ∃ a c ss t, e = .returned (.tuple #[.agg #[.slice a ss.length c], .string t]) ∧ RP w' w'.heap.size (.slice a ss.length c) ss ∧ ss.length ≤ 3 ∧ (∀ s ∈ ss, s.size ≤ 600) ∧ t.size ≤ 8 ∧ Below w.heap.size w w'
set_option maxRecDepth 100000 in
set_option maxHeartbeats 800000 in
theorem drawMuxTake_any {w : World} (a : Option Addr) (len cap : Nat) (zs : List Int) (h : IsRow .u8 w a len cap zs) :
    Calls Try.prog 15 #[.slice a len cap] w (DrawTakePost w) := by
  have hzm := zero_mux
  have hb0 : Below w.heap.size w (w.alloc (.cells #[.slice none 0 0] 35)) := (Below.refl _ w).alloc (Nat.le_refl _) _
  have HH := Lib.hid (h.keep hb0)
  have HB0 := Lib.hid hb0
  have K0 := Lib.hid (BK.new w #[.slice none 0 0] 35)
  clear h hb0
  go_enter Try.func15, Try.ntmps15
  go_wp2_with fail
  refine (open_any a len cap zs HH.out).mono ?_
  rintro e w1 ⟨rfl, hr1, hb1, h4⟩
  have HR1 := Lib.hid hr1
  have HB1 := Lib.hid (HB0.out.trans (hb1.mono (by simp)))
  have HK1 := Lib.hid (K0.out.from hb1)
  have H4 := Lib.hid h4
  obtain ⟨g, hg⟩ : ∃ g, g = (w.alloc (.cells #[.slice none 0 0] 35)).heap.size := ⟨_, rfl⟩
  have hgv : g = w.heap.size + 1 := by rw [hg]; simp
  rw [World.size_alloc] at HR1 ⊢
  rw [← hgv] at HR1 ⊢
  have HGV := Lib.hid hgv
  have hw1 : g < w1.heap.size := HR1.out.lt
  clear hr1 hb1 h4 hg hgv
  go_wp2_with fail
  refine (l20Mux_any HR1.out (by omega)).mono ?_
  rintro e w2 ⟨ma, mc, ss, rfl, hrw, hrp, hl3, hs6, hlo⟩
  have hkr : BK w2 w.heap.size #[.slice none 0 0] 35 := HK1.out.grown hrw.2.1 (by have := HGV.out; simp; omega)
  have HB2 := Lib.hid (HB1.out.trans (grown_below hrw.2.1 HB1.out.size (by have := HGV.out; omega)))
  have hq : DS w1 (w2.alloc (.cells #[.slice ma ss.length mc] 35)) g g 102 w2.heap.size w.heap.size (.slice ma ss.length mc) ss :=
    ⟨(hrw.mono (by omega)).alloc _, (hrp.frame (lo := w1.heap.size) (fun x n c hx => by injection hx with e1 e2 e3; exact hlo x e1) (by simp) (fun k _ hk => Below.heap_alloc w2 _ k hk)), fun x n c hx => by injection hx with e1 e2 e3; exact hlo x e1, BK.new w2 _ _, hkr.alloc _, hrw.size, by have := HGV.out; omega, by have := HGV.out; omega⟩
  have HQ := Lib.hid hq
  have HS6 := Lib.hid hs6
  clear hrw hrp hs6 hlo hkr
  go_upto_region 3 with fail
  go_cut [6] from 11 to 20 (fun s6 wx => ∃ T, s6 = .string T ∧ T.size ≤ 8 ∧ DS w1 wx g g 200 w2.heap.size w.heap.size (.slice ma ss.length mc) ss)
  case first =>
    have hS : True := trivial
    refine wp_region_held_drew (S := (fun _ => True)) (by kernel_rfl) hS (fun hHeld => ?_)
    refine wpAnyH_take (i := 0) (v := ?_) rfl (by kernel_rfl) (by kernel_rfl) (by kernel_rfl) (fun _ _ _ h => h) (Or.inl ⟨by rfl, ?_⟩) (by assumption) ?_
    rotate_left
    · intro wq hSw
      (try dsimp only at hSw)
      (try simp only [List.getElem_toArray, List.getElem_cons_zero])
      go_simp
      (try with_reducible rfl)
    simp only [Act.put, List.getElem_toArray, List.getElem_cons_zero, List.setIfInBounds_toArray, List.set_cons_zero, List.set_cons_succ]
    refine wpAnyH_take (i := 6) (v := ?_) rfl (by kernel_rfl) (by kernel_rfl) (by kernel_rfl) (fun _ _ _ h => h) (Or.inl ⟨by rfl, ?_⟩) (by assumption) ?_
    rotate_left
    · intro wq hSw
      (try dsimp only at hSw)
      (try simp only [List.getElem_toArray, List.getElem_cons_succ, List.getElem_cons_zero])
      go_simp
      (try with_reducible rfl)
    simp only [Act.put, List.getElem_toArray, List.getElem_cons_succ, List.getElem_cons_zero, List.setIfInBounds_toArray, List.set_cons_zero, List.set_cons_succ]
    refine wpAnyH_ready (rs := [1]) (by kernel_rfl) (by simp) ?_
    refine AllReadyH.cons rfl ?_ AllReadyH.nil
    intro K hK
    (try simp only [List.getElem_toArray, List.getElem_cons_succ, List.getElem_cons_zero])
    go_simp
    have hq := (hq.alloc (.cells #[.int .i64 0, .int .i64 1, .int .i64 2, .int .i64 128, .int .i64 129, .int .i64 130, .int .i64 3, .int .i64 131, .int .i64 255] 3)).drew
    have hli : ((w2.alloc (.cells #[.slice ma ss.length mc] 35)).alloc (.cells #[.int .i64 0, .int .i64 1, .int .i64 2, .int .i64 128, .int .i64 129, .int .i64 130, .int .i64 3, .int .i64 131, .int .i64 255] 3)).drew.heap[w2.heap.size + 1]? = some (.cells ((([0, 1, 2, 128, 129, 130, 3, 131, 255] : List Int).map intV).toArray) 3 (0, 0)) := by have h := list_row (w2.alloc (.cells #[.slice ma ss.length mc] 35)) #[.int .i64 0, .int .i64 1, .int .i64 2, .int .i64 128, .int .i64 129, .int .i64 130, .int .i64 3, .int .i64 131, .int .i64 255] 3 [0, 1, 2, 128, 129, 130, 3, 131, 255] rfl; rw [World.size_alloc] at h; exact h
    obtain ⟨m, hm⟩ : ∃ m, m = w2.heap.size + 1 := ⟨_, rfl⟩
    have hmg : ¬ m = g := by have := HQ.out.rw.2.2; have := HQ.out.lm; omega
    rw [← hm] at hli ⊢
    generalize ((w2.alloc (.cells #[.slice ma ss.length mc] 35)).alloc (.cells #[.int .i64 0, .int .i64 1, .int .i64 2, .int .i64 128, .int .i64 129, .int .i64 130, .int .i64 3, .int .i64 131, .int .i64 255] 3)).drew = XA at hq hli ⊢
    refine hK.out _ _ hS (fun hHeld => ?_)
    clear hK K
    clear hm
    refine wpAnyH_ready (rs := [2]) (by kernel_rfl) (by simp) ?_
    refine AllReadyH.cons rfl ?_ AllReadyH.nil
    intro K hK
    (try simp only [List.getElem_toArray, List.getElem_cons_succ, List.getElem_cons_zero])
    go_simp
    go_at_call 42
    refine (one_any [0, 1, 2, 128, 129, 130, 3, 131, 255] 3 hq.rw.1 (by omega) (by simp) (by simp) hmg hli).mono ?_
    rintro e X1 ⟨x, hx, rfl, hr, hg⟩
    obtain ⟨b, rfl⟩ := byte_one hx
    have hq := hq.next hr hg
    have hbl := UInt8.toNat_lt b
    refine hK.out _ _ hS (fun hHeld => ?_)
    clear hK K
    clear hr hg hx
    refine wpAnyH_take (i := 3) (v := ?_) rfl (by kernel_rfl) (by kernel_rfl) (by kernel_rfl) (fun _ _ _ h => h) (Or.inl ⟨by rfl, ?_⟩) (by assumption) ?_
    rotate_left
    · intro wq hSw
      (try dsimp only at hSw)
      (try simp only [List.getElem_toArray, List.getElem_cons_succ, List.getElem_cons_zero])
      go_simp
      (try with_reducible rfl)
    simp only [Act.put, List.getElem_toArray, List.getElem_cons_succ, List.getElem_cons_zero, List.setIfInBounds_toArray, List.set_cons_zero, List.set_cons_succ]
    rw [wrap_byte b]
    refine wpAnyH_ready (rs := [4, 7]) (by kernel_rfl) (by simp) ?_
    refine AllReadyH.cons rfl ?_ (AllReadyH.cons rfl ?_ AllReadyH.nil)
    · intro K hK
      (try simp only [List.getElem_toArray, List.getElem_cons_succ, List.getElem_cons_zero])
      go_simp
      have hsl := BK.new X1 #[.int .u8 (b.toNat : Int)] 5
      obtain ⟨sb, hsbe⟩ : ∃ sb, sb = X1.heap.size := ⟨_, rfl⟩
      rw [← hsbe] at hsl
      have hsbw : w1.heap.size ≤ sb := by have := hq.rw.size; omega
      have hq := hq.alloc (.cells #[.int .u8 (b.toNat : Int)] 5)
      (try simp only [World.size_alloc] at hsbe)
      rw [← hsbe]
      refine hK.out _ _ hS (fun hHeld => ?_)
      clear hK K
      clear hsbe
      refine wpAnyH_ready (rs := [5, 7]) (by kernel_rfl) (by simp) ?_
      refine AllReadyH.cons rfl ?_ (AllReadyH.cons rfl ?_ AllReadyH.nil)
      · intro K hK
        (try simp only [List.getElem_toArray, List.getElem_cons_succ, List.getElem_cons_zero])
        have hcv := run_string_blk hsl
        go_simp
        refine hK.out _ _ hS (fun hHeld => ?_)
        clear hK K
        clear hcv
        refine wpAnyH_ready (rs := [7]) (by kernel_rfl) (by simp) ?_
        refine AllReadyH.cons rfl ?_ AllReadyH.nil
        intro K hK
        (try simp only [List.getElem_toArray, List.getElem_cons_succ, List.getElem_cons_zero])
        go_simp
        go_at_call 43
        refine (bytes_any 6 hq.rw.1 (by omega) (by omega)).mono ?_
        rintro e X2 ⟨s, rfl, hs5, hr, hg⟩
        have hsl := hsl.next hg (by have := hq.rw.2.2; omega)
        have hq := hq.next hr hg
        obtain ⟨T, hTs, hadd⟩ := add_one b s (by omega)
        refine hK.out _ _ hS (fun hHeld => ?_)
        clear hK K
        clear hr hg
        refine wpAnyH_take (i := 8) (v := ?_) rfl (by kernel_rfl) (by kernel_rfl) (by kernel_rfl) (fun _ _ _ h => h) (Or.inl ⟨by rfl, ?_⟩) (by assumption) ?_
        rotate_left
        · intro wq hSw
          (try dsimp only at hSw)
          (try simp only [List.getElem_toArray, List.getElem_cons_succ, List.getElem_cons_zero])
          go_simp
          (try with_reducible rfl)
        simp only [Act.put, List.getElem_toArray, List.getElem_cons_succ, List.getElem_cons_zero, List.setIfInBounds_toArray, List.set_cons_zero, List.set_cons_succ]
        refine wpAnyH_take (i := 9) (v := ?_) rfl (by kernel_rfl) (by kernel_rfl) (by kernel_rfl) (fun _ _ _ h => h) (Or.inl ⟨by rfl, ?_⟩) (by assumption) ?_
        rotate_left
        · intro wq hSw
          (try dsimp only at hSw)
          (try simp only [List.getElem_toArray, List.getElem_cons_succ, List.getElem_cons_zero])
          go_simp
          (try with_reducible rfl)
        simp only [Act.put, List.getElem_toArray, List.getElem_cons_succ, List.getElem_cons_zero, List.setIfInBounds_toArray, List.set_cons_zero, List.set_cons_succ]
        refine wpAnyH_done (by kernel_rfl) ?_ _
        go_wp2
        go_meet
        exact ⟨T, rfl, by omega, hq.mono (by omega)⟩
      · intro K hK
        (try simp only [List.getElem_toArray, List.getElem_cons_succ, List.getElem_cons_zero])
        go_simp
        go_at_call 43
        refine (bytes_any 6 hq.rw.1 (by omega) (by omega)).mono ?_
        rintro e X2 ⟨s, rfl, hs5, hr, hg⟩
        have hsl := hsl.next hg (by have := hq.rw.2.2; omega)
        have hq := hq.next hr hg
        obtain ⟨T, hTs, hadd⟩ := add_one b s (by omega)
        refine hK.out _ _ hS (fun hHeld => ?_)
        clear hK K
        clear hr hg
        refine wpAnyH_ready (rs := [5]) (by kernel_rfl) (by simp) ?_
        refine AllReadyH.cons rfl ?_ AllReadyH.nil
        intro K hK
        (try simp only [List.getElem_toArray, List.getElem_cons_succ, List.getElem_cons_zero])
        have hcv := run_string_blk hsl
        go_simp
        refine hK.out _ _ hS (fun hHeld => ?_)
        clear hK K
        clear hcv
        refine wpAnyH_take (i := 8) (v := ?_) rfl (by kernel_rfl) (by kernel_rfl) (by kernel_rfl) (fun _ _ _ h => h) (Or.inl ⟨by rfl, ?_⟩) (by assumption) ?_
        rotate_left
        · intro wq hSw
          (try dsimp only at hSw)
          (try simp only [List.getElem_toArray, List.getElem_cons_succ, List.getElem_cons_zero])
          go_simp
          (try with_reducible rfl)
        simp only [Act.put, List.getElem_toArray, List.getElem_cons_succ, List.getElem_cons_zero, List.setIfInBounds_toArray, List.set_cons_zero, List.set_cons_succ]
        refine wpAnyH_take (i := 9) (v := ?_) rfl (by kernel_rfl) (by kernel_rfl) (by kernel_rfl) (fun _ _ _ h => h) (Or.inl ⟨by rfl, ?_⟩) (by assumption) ?_
        rotate_left
        · intro wq hSw
          (try dsimp only at hSw)
          (try simp only [List.getElem_toArray, List.getElem_cons_succ, List.getElem_cons_zero])
          go_simp
          (try with_reducible rfl)
        simp only [Act.put, List.getElem_toArray, List.getElem_cons_succ, List.getElem_cons_zero, List.setIfInBounds_toArray, List.set_cons_zero, List.set_cons_succ]
        refine wpAnyH_done (by kernel_rfl) ?_ _
        go_wp2
        go_meet
        exact ⟨T, rfl, by omega, hq.mono (by omega)⟩
    · intro K hK
      (try simp only [List.getElem_toArray, List.getElem_cons_succ, List.getElem_cons_zero])
      go_simp
      go_at_call 43
      refine (bytes_any 6 hq.rw.1 (by omega) (by omega)).mono ?_
      rintro e X2 ⟨s, rfl, hs5, hr, hg⟩
      have hq := hq.next hr hg
      obtain ⟨T, hTs, hadd⟩ := add_one b s (by omega)
      refine hK.out _ _ hS (fun hHeld => ?_)
      clear hK K
      clear hr hg
      refine wpAnyH_ready (rs := [4]) (by kernel_rfl) (by simp) ?_
      refine AllReadyH.cons rfl ?_ AllReadyH.nil
      intro K hK
      (try simp only [List.getElem_toArray, List.getElem_cons_succ, List.getElem_cons_zero])
      go_simp
      have hsl := BK.new X2 #[.int .u8 (b.toNat : Int)] 5
      obtain ⟨sb, hsbe⟩ : ∃ sb, sb = X2.heap.size := ⟨_, rfl⟩
      rw [← hsbe] at hsl
      have hsbw : w1.heap.size ≤ sb := by have := hq.rw.size; omega
      have hq := hq.alloc (.cells #[.int .u8 (b.toNat : Int)] 5)
      (try simp only [World.size_alloc] at hsbe)
      rw [← hsbe]
      refine hK.out _ _ hS (fun hHeld => ?_)
      clear hK K
      clear hsbe
      refine wpAnyH_ready (rs := [5]) (by kernel_rfl) (by simp) ?_
      refine AllReadyH.cons rfl ?_ AllReadyH.nil
      intro K hK
      (try simp only [List.getElem_toArray, List.getElem_cons_succ, List.getElem_cons_zero])
      have hcv := run_string_blk hsl
      go_simp
      refine hK.out _ _ hS (fun hHeld => ?_)
      clear hK K
      clear hcv
      refine wpAnyH_take (i := 8) (v := ?_) rfl (by kernel_rfl) (by kernel_rfl) (by kernel_rfl) (fun _ _ _ h => h) (Or.inl ⟨by rfl, ?_⟩) (by assumption) ?_
      rotate_left
      · intro wq hSw
        (try dsimp only at hSw)
        (try simp only [List.getElem_toArray, List.getElem_cons_succ, List.getElem_cons_zero])
        go_simp
        (try with_reducible rfl)
      simp only [Act.put, List.getElem_toArray, List.getElem_cons_succ, List.getElem_cons_zero, List.setIfInBounds_toArray, List.set_cons_zero, List.set_cons_succ]
      refine wpAnyH_take (i := 9) (v := ?_) rfl (by kernel_rfl) (by kernel_rfl) (by kernel_rfl) (fun _ _ _ h => h) (Or.inl ⟨by rfl, ?_⟩) (by assumption) ?_
      rotate_left
      · intro wq hSw
        (try dsimp only at hSw)
        (try simp only [List.getElem_toArray, List.getElem_cons_succ, List.getElem_cons_zero])
        go_simp
        (try with_reducible rfl)
      simp only [Act.put, List.getElem_toArray, List.getElem_cons_succ, List.getElem_cons_zero, List.setIfInBounds_toArray, List.set_cons_zero, List.set_cons_succ]
      refine wpAnyH_done (by kernel_rfl) ?_ _
      go_wp2
      go_meet
      exact ⟨T, rfl, by omega, hq.mono (by omega)⟩
  case rest =>
    clear hq
    obtain ⟨T, rfl, hT, hq⟩ := hcut
    have HQ2 := Lib.hid hq
    clear hq
    go_wp2_with fail
    refine (pick_any _ HQ2.out.rw.1 (by omega)).mono ?_
    rintro e w5 ⟨⟨y, rfl, _, _⟩, hr, hg⟩
    have hq5 := HQ2.out.next hr hg
    have d1 := hq5.kb.cell (i := 0) rfl
    have d2 := hq5.kr.cell (i := 0) rfl
    have e2 := hq5.kr.free 0
    have HK := Lib.hid (hq5.kr.set 0 (.slice ma ss.length mc))
    have HP := Lib.hid (show RP (w5.setCell ⟨w.heap.size, 0, none⟩ (.slice ma ss.length mc)) (w5.setCell ⟨w.heap.size, 0, none⟩ (.slice ma ss.length mc)).heap.size (.slice ma ss.length mc) ss from hq5.rp.frame hq5.lo (by simp) (fun k hl _ => Below.heap_setCell _ _ _ _ (by have := HQ.out.lr.1; simp; omega)))
    have HBF := Lib.hid (show Below w.heap.size w (w5.setCell ⟨w.heap.size, 0, none⟩ (.slice ma ss.length mc)) from ((HB1.out.trans (grown_below hq5.rw.2.1 HB1.out.size (by have := HGV.out; omega)))).setCell (p := ⟨w.heap.size, 0, none⟩) (Nat.le_refl _) _)
    clear hr hg hq5
    by_cases hy : y = 0
    · subst hy
      go_wp2
      exact mux_ret2 rfl HK.out rfl rfl rfl ⟨ma, mc, ss, ⟨#[]⟩, rfl, HP.out, hl3, HS6.out, by simp [ByteArray.size], HBF.out⟩
    · have hy2 : (y == 0) = false := beq_eq_false_iff_ne.2 hy
      go_wp2
      exact mux_ret2 rfl HK.out rfl rfl rfl ⟨ma, mc, ss, T, rfl, HP.out, hl3, HS6.out, hT, HBF.out⟩
end Go.Proofs.Ytplaagkcamjemaa
