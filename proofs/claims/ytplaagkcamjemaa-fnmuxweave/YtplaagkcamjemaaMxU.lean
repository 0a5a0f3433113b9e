/- A Mux that is drawn; a Mux and a piece that are drawn. -/
import Derived.Test.YtplaagkcamjemaaMxQ
import Derived.Test.YtplaagkcamjemaaRg
import Derived.Test.YtplaagkcamjemaaMxT
import Derived.Deep.CutRange
import Derived.Deep.RegionHeld3
namespace Go.Proofs.Ytplaagkcamjemaa
open Go.ChangeShapes Go.WideShapes Go.ChangeAt Go.RowKit
/-- what is held while a Mux is drawn -/
structure QS (w X : World) (B g N mb r0 : Nat) (v : Value) (ss : List ByteArray) : Prop where
  rw : RW w X B g N
  os : OS X w.heap.size v ss
  kb : BK X mb #[v] 35
  kr : BK X r0 #[.slice none 0 0] 35
  lm : w.heap.size ≤ mb
  lr : w.heap.size ≤ r0
  ne : mb ≠ r0
section
variable {w X X' : World} {B g N N' mb r0 : Nat} {v : Value} {ss : List ByteArray}
theorem QS.alloc (h : QS w X B g N mb r0 v ss) (o : Obj) : QS w (X.alloc o) B g N mb r0 v ss := ⟨h.rw.alloc o, h.os.alloc o, h.kb.alloc o, h.kr.alloc o, h.lm, h.lr, h.ne⟩
theorem QS.drew (h : QS w X B g N mb r0 v ss) : QS w X.drew B g N mb r0 v ss := ⟨h.rw.drew, h.os.drew, h.kb.drew, h.kr.drew, h.lm, h.lr, h.ne⟩
theorem QS.next (h : QS w X B g N mb r0 v ss) (hr : Rd X' B g N') (hg : X.grownBy X' (some g)) : QS w X' B g N' mb r0 v ss :=
  ⟨h.rw.next hr hg, os_keptg h.os hg h.rw.2.2, h.kb.next hg (by have := h.rw.2.2; have := h.lm; omega), h.kr.next hg (by have := h.rw.2.2; have := h.lr; omega), h.lm, h.lr, h.ne⟩
theorem QS.from (h : QS w X B g N mb r0 v ss) (hb : Below X.heap.size X X') : QS w X' B g N mb r0 v ss := ⟨h.rw.from hb, h.os.below hb, h.kb.from hb, h.kr.from hb, h.lm, h.lr, h.ne⟩
theorem QS.cell (h : QS w X B g N mb r0 v ss) : X.cell? ⟨mb, 0, none⟩ = some v := h.kb.cell (i := 0) rfl
theorem QS.box (h : QS w X B g N mb r0 v ss) {b : Nat} (hb : w.heap.size ≤ b) (h1 : b ≠ mb) (h2 : b ≠ r0) {t : TypeId} {cs : Array Value} (hk : BK X b cs t) (ht : ¬ t = 9) (x : Value) : QS w (X.setCell ⟨b, 0, none⟩ x) B g N mb r0 v ss :=
  ⟨h.rw.set hb x, h.os.far (h.os.not_box hk ht) 0 x, h.kb.far h1 x, h.kr.far h2 x, h.lm, h.lr, h.ne⟩
theorem QS.mono (h : QS w X B g N mb r0 v ss) (hN : N ≤ N') : QS w X B g N' mb r0 v ss := ⟨h.rw.mono hN, h.os, h.kb, h.kr, h.lm, h.lr, h.ne⟩
theorem QS.ms (h : QS w X B g N mb r0 v ss) : mb < X.heap.size := h.kb.lt
theorem QS.rs (h : QS w X B g N mb r0 v ss) : r0 < X.heap.size := h.kr.lt
theorem QS.sz (h : QS w X B g N mb r0 v ss) : w.heap.size ≤ X.heap.size := h.rw.size
end
theorem run_string_blk {u : World} {sb : Nat} {b : UInt8} (h : BK u sb #[.int .u8 (b.toNat : Int)] 5) : (convert 22 9 (.slice (some ⟨sb, 0, none⟩) 1 1)).run Try.prog u = .ok (.string ⟨#[b]⟩) u :=
  run_string_of_OB (P := Try.prog) u 22 9 5 0 (.slice (some ⟨sb, 0, none⟩) 1 1) [b] Try.underlying22 Try.underlying5 Try.underlying9
    (.inr ⟨sb, 1, _, (0, 0), rfl, Nat.zero_le _, h, .inl rfl, Nat.le_refl _, by simp [maxLen], rfl, rfl⟩)
theorem byte_of {x : Int} (h : 0 ≤ x ∧ x < 4) : ∃ b : UInt8, x = (b.toNat : Int) := by
  obtain ⟨n, rfl⟩ := Int.eq_ofNat_of_zero_le h.1
  exact ⟨UInt8.ofNat n, by rw [UInt8.toNat_ofNat']; omega⟩
theorem wrap_byte (b : UInt8) : IntKind.u8.wrap (b.toNat : Int) = (b.toNat : Int) := by
  have := UInt8.toNat_lt b
  show (b.toNat : Int) % 256 = _
  omega
theorem add_one (b : UInt8) (s : ByteArray) (h : s.size ≤ 6) : ∃ T : ByteArray, T.size ≤ 7 ∧ ∀ u : World, (Op.stringOp .add ⟨#[b]⟩ s).run Try.prog u = .ok (.string T) u := by
  have h1 : (⟨#[b]⟩ : ByteArray).size = 1 := rfl
  exact ⟨⟨#[b]⟩ ++ s, by rw [ByteArray.size_append]; omega, fun u => run_string_add_sum u _ _ (by omega)⟩
theorem sliced_block {x y : Addr} {n c n' c' : Nat} (h : sliced (some x) 1 n c 1 = .slice (some y) n' c') : y.block = x.block := by
  unfold sliced at h
  injection h with h1 _ _
  split at h1
  · cases h1; rfl
  · simp at h1; rw [← h1, add_block]
def NewQ (w X : World) (B g N mb r0 : Nat) (v : Value) (ss : List ByteArray) (b : Nat) : Prop :=
  QS w X B g N mb r0 v ss ∧ w.heap.size ≤ b ∧ b ≠ mb ∧ b ≠ r0 ∧ ∃ a c NN, BK X b #[.slice a NN.length c] 35 ∧ OS X w.heap.size (.slice a NN.length c) NN ∧ muxSB NN = true
def MuxDPost (w : World) (B g N : Nat) (e : Ending) (w' : World) : Prop :=
  ∃ a c ss, e = .returned (.agg #[.slice a ss.length c]) ∧ RW w w' B g N ∧ RP w' w'.heap.size (.slice a ss.length c) ss ∧ ss.length ≤ 3 ∧ (∀ s ∈ ss, s.size ≤ 600) ∧ ∀ x, a = some x → w.heap.size ≤ x.block
set_option maxRecDepth 100000 in
set_option maxHeartbeats 1600000 in
theorem l20Mux_any {w : World} {B g N : Nat} (h : Rd w B g N) (hN : N + 200 ≤ 1000000000) :
    Calls Try.prog 48 #[.pointer (some ⟨g, 0, none⟩)] w (MuxDPost w B g (N + 102)) := by
  have hzm := zero_mux
  have HR0 := Lib.hid ((RW.start h).alloc (.cells #[.slice none 0 0] 35))
  have K0 := Lib.hid (BK.new w #[.slice none 0 0] 35)
  clear h
  go_enter Try.func48, Try.ntmps48
  go_wp2_with fail
  refine (specNew_any _).mono ?_
  rintro e w1 ⟨⟨v1, rfl, ho⟩, hb⟩
  obtain ⟨a1, c1, rfl⟩ := ho.reads.shape
  have hsz1 : w.heap.size < w1.heap.size := by have := hb.size; simp at this; omega
  have hq : QS w (w1.alloc (.cells #[.slice a1 (strs mux0).length c1] 35)) B g N w1.heap.size w.heap.size (.slice a1 (strs mux0).length c1) (strs mux0) :=
    ⟨(HR0.out.from hb).alloc _, (ho.mono (by simp)).alloc _, BK.new w1 _ _, (K0.out.from hb).alloc _, by omega, Nat.le_refl _, by omega⟩
  have HQ := Lib.hid hq
  clear ho hb hq
  go_wp2_with fail
  refine (pick_any _ HQ.out.rw.1 (by omega)).mono ?_
  rintro e w2 ⟨⟨x, rfl, hx, _⟩, hr, hg⟩
  obtain ⟨hx0, hx1⟩ := hx (by omega)
  obtain ⟨n0, rfl⟩ := Int.eq_ofNat_of_zero_le hx0
  have hn0 : n0 ≤ 4 := by omega
  have HQ2 := Lib.hid (HQ.out.next hr hg)
  clear hr hg hx hx0 hx1
  go_upto_region 3 with fail
  go_loopw [4] (fun n wr => ∃ (k : Nat) (a : Option Addr) (c : Nat) (ss : List ByteArray), k ≤ n0 ∧ n = .int .i64 k ∧ muxSB ss = true ∧ QS w wr B g (N + 1 + 20 * (n0 - k)) w1.heap.size w.heap.size (.slice a ss.length c) ss) (fun n _ => (intOf n).toNat)
  case atStart => exact ⟨n0, a1, c1, strs mux0, Nat.le_refl _, rfl, by rfl, by rw [Nat.sub_self]; exact HQ2.out⟩
  case round =>
    obtain ⟨k, a, c, ss, hk, rfl, hok, hq⟩ := hrel
    have HOK := Lib.hid hok
    have HQr := Lib.hid hq
    obtain ⟨M, hM⟩ : ∃ M, M = N + 1 + 20 * (n0 - k) := ⟨_, rfl⟩
    rw [← hM] at HQr hq
    have hM2 : M ≤ N + 81 := by omega
    have HMM := Lib.hid hM
    clear hM hok
    by_cases hk0 : 0 < k
    · have hk0i : (0 : Int) < (k : Int) := by omega
      go_upto_region 5 with fail
      go_cut [5, 6] from 10 to 27 (fun s5 _ wx => ∃ b, s5 = .pointer (some ⟨b, 0, none⟩) ∧ NewQ w wx B g (M + 20) w1.heap.size w.heap.size (.slice a ss.length c) ss b)
      case first =>
        have hq := hq.drew
        have hS := hq.cell
        refine wp_region_held_drew (S := (fun wx => wx.cell? ⟨w1.heap.size, 0, none⟩ = some (.slice a ss.length c))) (by kernel_rfl) hS (fun hHeld => ?_)
        refine wpAnyH_take (i := 0) (v := ?_) rfl (by kernel_rfl) (by kernel_rfl) (by kernel_rfl) (fun _ _ _ h => h) (Or.inl ⟨by rfl, ?_⟩) (by assumption) ?_
        rotate_left
        · intro wq hSw
          (try dsimp only at hSw)
          (try simp only [List.getElem_toArray, List.getElem_cons_zero])
          go_simp
          (try with_reducible rfl)
        simp only [Act.put, List.getElem_toArray, List.getElem_cons_zero, List.setIfInBounds_toArray, List.set_cons_zero, List.set_cons_succ]
        refine wpAnyH_take (i := 1) (v := ?_) rfl (by kernel_rfl) (by kernel_rfl) (by kernel_rfl) (fun _ _ _ h => h) (Or.inl ⟨by rfl, ?_⟩) (by assumption) ?_
        rotate_left
        · intro wq hSw
          (try dsimp only at hSw)
          (try simp only [List.getElem_toArray, List.getElem_cons_succ, List.getElem_cons_zero])
          go_simp
          (try with_reducible rfl)
        simp only [Act.put, List.getElem_toArray, List.getElem_cons_succ, List.getElem_cons_zero, List.setIfInBounds_toArray, List.set_cons_zero, List.set_cons_succ]
        refine wpAnyH_take (i := 6) (v := ?_) rfl (by kernel_rfl) (by kernel_rfl) (by kernel_rfl) (fun _ _ _ h => h) (Or.inl ⟨by rfl, ?_⟩) (by assumption) ?_
        rotate_left
        · intro wq hSw
          (try dsimp only at hSw)
          (try simp only [List.getElem_toArray, List.getElem_cons_succ, List.getElem_cons_zero])
          go_simp
          (try with_reducible rfl)
        simp only [Act.put, List.getElem_toArray, List.getElem_cons_succ, List.getElem_cons_zero, List.setIfInBounds_toArray, List.set_cons_zero, List.set_cons_succ]
        refine wpAnyH_ready (rs := [2, 13]) (by kernel_rfl) (by simp) ?_
        refine AllReadyH.cons rfl ?_ (AllReadyH.cons rfl ?_ AllReadyH.nil)
        · intro K hK
          (try simp only [List.getElem_toArray, List.getElem_cons_succ, List.getElem_cons_zero])
          go_simp
          go_at_call 49
          refine (pick_any _ hq.rw.1 (by omega)).mono ?_
          rintro e X1 ⟨⟨x, rfl, hx, _⟩, hr, hg⟩
          obtain ⟨b, rfl⟩ := byte_of (hx (by omega))
          have hq := hq.next hr hg
          have hS := hq.cell
          have hbl := UInt8.toNat_lt b
          refine hK.out _ _ hS (fun hHeld => ?_)
          clear hK K
          clear hr hg hx
          refine wpAnyH_take (i := 3) (v := ?_) rfl (by kernel_rfl) (by kernel_rfl) (by kernel_rfl) (fun _ _ _ h => h) (Or.inl ⟨by rfl, ?_⟩) (by assumption) ?_
          rotate_left
          · intro wq hSw
            (try dsimp only at hSw)
            (try simp only [List.getElem_toArray, List.getElem_cons_succ, List.getElem_cons_zero])
            go_simp
            (try with_reducible rfl)
          simp only [Act.put, List.getElem_toArray, List.getElem_cons_succ, List.getElem_cons_zero, List.setIfInBounds_toArray, List.set_cons_zero, List.set_cons_succ]
          rw [wrap_byte b]
          refine wpAnyH_ready (rs := [4, 7, 13]) (by kernel_rfl) (by simp) ?_
          refine AllReadyH.cons rfl ?_ (AllReadyH.cons rfl ?_ (AllReadyH.cons rfl ?_ AllReadyH.nil))
          · intro K hK
            (try simp only [List.getElem_toArray, List.getElem_cons_succ, List.getElem_cons_zero])
            go_simp
            have hsl := BK.new X1 #[.int .u8 (b.toNat : Int)] 5
            obtain ⟨sb, hsbe⟩ : ∃ sb, sb = X1.heap.size := ⟨_, rfl⟩
            rw [← hsbe] at hsl
            have hsbw : w.heap.size ≤ sb := by have := hq.sz; omega
            have hq := hq.alloc (.cells #[.int .u8 (b.toNat : Int)] 5)
            have hS := hq.cell
            (try simp only [World.size_alloc] at hsbe)
            rw [← hsbe]
            refine hK.out _ _ hS (fun hHeld => ?_)
            clear hK K
            clear hsbe
            refine wpAnyH_ready (rs := [5, 7, 13]) (by kernel_rfl) (by simp) ?_
            refine AllReadyH.cons rfl ?_ (AllReadyH.cons rfl ?_ (AllReadyH.cons rfl ?_ AllReadyH.nil))
            · intro K hK
              (try simp only [List.getElem_toArray, List.getElem_cons_succ, List.getElem_cons_zero])
              have hcv := run_string_blk hsl
              go_simp
              refine hK.out _ _ hS (fun hHeld => ?_)
              clear hK K
              clear hcv
              refine wpAnyH_ready (rs := [7, 13]) (by kernel_rfl) (by simp) ?_
              refine AllReadyH.cons rfl ?_ (AllReadyH.cons rfl ?_ AllReadyH.nil)
              · intro K hK
                (try simp only [List.getElem_toArray, List.getElem_cons_succ, List.getElem_cons_zero])
                go_simp
                go_at_call 43
                refine (bytes_any 5 hq.rw.1 (by omega) (by omega)).mono ?_
                rintro e X2 ⟨s, rfl, hs5, hr, hg⟩
                have hsl := hsl.next hg (by have := hq.rw.2.2; omega)
                have hq := hq.next hr hg
                have hS := hq.cell
                obtain ⟨T, hTs, hadd⟩ := add_one b s (by omega)
                refine hK.out _ _ hS (fun hHeld => ?_)
                clear hK K
                clear hr hg
                refine wpAnyH_take (i := 8) (v := ?_) rfl (by kernel_rfl) (by kernel_rfl) (by kernel_rfl) (fun _ _ _ h => h) (Or.inl ⟨by rfl, ?_⟩) (by assumption) ?_
                rotate_left
                · intro wq hSw
                  (try dsimp only at hSw)
                  (try simp only [List.getElem_toArray, List.getElem_cons_succ, List.getElem_cons_zero])
                  go_simp
                  (try with_reducible rfl)
                simp only [Act.put, List.getElem_toArray, List.getElem_cons_succ, List.getElem_cons_zero, List.setIfInBounds_toArray, List.set_cons_zero, List.set_cons_succ]
                refine wpAnyH_ready (rs := [9, 13]) (by kernel_rfl) (by simp) ?_
                refine AllReadyH.cons rfl ?_ (AllReadyH.cons rfl ?_ AllReadyH.nil)
                · intro K hK
                  (try simp only [List.getElem_toArray, List.getElem_cons_succ, List.getElem_cons_zero])
                  go_simp
                  go_at_call 17
                  refine (specTake_any _ ss T _ _ hq.os.reads (Nat.le_refl _) HOK.out (by omega)).mono ?_
                  rintro e X3 ⟨v3, u3, rfl, ho, _, hb3⟩
                  obtain ⟨xa, xc, rfl⟩ := ho.reads.shape
                  have ho := ho.mono (base' := w.heap.size) hq.sz
                  have hok3 := muxSB_strs (takeOpen_ok (show muxOkB (txts ss) = true by rw [muxSB_txts]; exact HOK.out) T.data.toList)
                  generalize strs (takeOpen (txts ss) T.data.toList) = NN at ho hok3 ⊢
                  have hq := hq.from hb3
                  have hS := hq.cell
                  refine hK.out _ _ hS (fun hHeld => ?_)
                  clear hK K
                  clear hb3
                  refine wpAnyH_take (i := 10) (v := ?_) rfl (by kernel_rfl) (by kernel_rfl) (by kernel_rfl) (fun _ _ _ h => h) (Or.inl ⟨by rfl, ?_⟩) (by assumption) ?_
                  rotate_left
                  · intro wq hSw
                    (try dsimp only at hSw)
                    (try simp only [List.getElem_toArray, List.getElem_cons_succ, List.getElem_cons_zero])
                    go_simp
                    (try with_reducible rfl)
                  simp only [Act.put, List.getElem_toArray, List.getElem_cons_succ, List.getElem_cons_zero, List.setIfInBounds_toArray, List.set_cons_zero, List.set_cons_succ]
                  refine wpAnyH_take (i := 11) (v := ?_) rfl (by kernel_rfl) (by kernel_rfl) (by kernel_rfl) (fun _ _ _ h => h) (Or.inl ⟨by rfl, ?_⟩) (by assumption) ?_
                  rotate_left
                  · intro wq hSw
                    (try dsimp only at hSw)
                    (try simp only [List.getElem_toArray, List.getElem_cons_succ, List.getElem_cons_zero])
                    go_simp
                    (try with_reducible rfl)
                  simp only [Act.put, List.getElem_toArray, List.getElem_cons_succ, List.getElem_cons_zero, List.setIfInBounds_toArray, List.set_cons_zero, List.set_cons_succ]
                  refine wpAnyH_take (i := 12) (v := ?_) rfl (by kernel_rfl) (by kernel_rfl) (by kernel_rfl) (fun _ _ _ h => h) (Or.inl ⟨by rfl, ?_⟩) (by assumption) ?_
                  rotate_left
                  · intro wq hSw
                    (try dsimp only at hSw)
                    (try simp only [List.getElem_toArray, List.getElem_cons_succ, List.getElem_cons_zero])
                    go_simp
                    (try with_reducible rfl)
                  simp only [Act.put, List.getElem_toArray, List.getElem_cons_succ, List.getElem_cons_zero, List.setIfInBounds_toArray, List.set_cons_zero, List.set_cons_succ]
                  refine wpAnyH_ready (rs := [13]) (by kernel_rfl) (by simp) ?_
                  refine AllReadyH.cons rfl ?_ AllReadyH.nil
                  intro K hK
                  (try simp only [List.getElem_toArray, List.getElem_cons_succ, List.getElem_cons_zero])
                  go_simp
                  have hbx := BK.new X3 #[.slice none 0 0] 35
                  obtain ⟨bx, hbxe⟩ : ∃ bx, bx = X3.heap.size := ⟨_, rfl⟩
                  rw [← hbxe] at hbx
                  have hbw : w.heap.size ≤ bx ∧ bx ≠ w1.heap.size ∧ bx ≠ w.heap.size := by have := hq.sz; have := hq.ms; have := hq.rs; omega
                  have hsl := hsl.alloc (.cells #[.slice none 0 0] 35)
                  have ho := ho.alloc (.cells #[.slice none 0 0] 35)
                  have hq := hq.alloc (.cells #[.slice none 0 0] 35)
                  have hS := hq.cell
                  (try simp only [World.size_alloc] at hbxe)
                  rw [← hbxe]
                  refine hK.out _ _ hS (fun hHeld => ?_)
                  clear hK K
                  clear hbxe
                  refine wpAnyH_ready (rs := [14]) (by kernel_rfl) (by simp) ?_
                  refine AllReadyH.cons rfl ?_ AllReadyH.nil
                  intro K hK
                  (try simp only [List.getElem_toArray, List.getElem_cons_succ, List.getElem_cons_zero])
                  have d0 := hbx.cell (i := 0) rfl
                  have e0 := hbx.free 0
                  go_simp
                  have hfin := hq.box hbw.1 hbw.2.1 hbw.2.2 hbx (by decide) (.slice xa NN.length xc)
                  have hS := hfin.cell
                  refine hK.out _ _ hS (fun hHeld => ?_)
                  clear hK K
                  refine wpAnyH_take (i := 15) (v := ?_) rfl (by kernel_rfl) (by kernel_rfl) (by kernel_rfl) (fun _ _ _ h => h) (Or.inl ⟨by rfl, ?_⟩) (by assumption) ?_
                  rotate_left
                  · intro wq hSw
                    (try dsimp only at hSw)
                    (try simp only [List.getElem_toArray, List.getElem_cons_succ, List.getElem_cons_zero])
                    go_simp
                    (try with_reducible rfl)
                  simp only [Act.put, List.getElem_toArray, List.getElem_cons_succ, List.getElem_cons_zero, List.setIfInBounds_toArray, List.set_cons_zero, List.set_cons_succ]
                  refine wpAnyH_done (by kernel_rfl) ?_ _
                  go_wp2
                  go_meet
                  exact ⟨bx, rfl, hfin.mono (by omega), hbw.1, hbw.2.1, hbw.2.2, xa, xc, NN, hbx.set 0 _, ho.far (ho.not_box hbx (by decide)) 0 _, hok3⟩
                · intro K hK
                  (try simp only [List.getElem_toArray, List.getElem_cons_succ, List.getElem_cons_zero])
                  go_simp
                  have hbx := BK.new X2 #[.slice none 0 0] 35
                  obtain ⟨bx, hbxe⟩ : ∃ bx, bx = X2.heap.size := ⟨_, rfl⟩
                  rw [← hbxe] at hbx
                  have hbw : w.heap.size ≤ bx ∧ bx ≠ w1.heap.size ∧ bx ≠ w.heap.size := by have := hq.sz; have := hq.ms; have := hq.rs; omega
                  have hsl := hsl.alloc (.cells #[.slice none 0 0] 35)
                  have hq := hq.alloc (.cells #[.slice none 0 0] 35)
                  have hS := hq.cell
                  (try simp only [World.size_alloc] at hbxe)
                  rw [← hbxe]
                  refine hK.out _ _ hS (fun hHeld => ?_)
                  clear hK K
                  clear hbxe
                  refine wpAnyH_ready (rs := [9]) (by kernel_rfl) (by simp) ?_
                  refine AllReadyH.cons rfl ?_ AllReadyH.nil
                  intro K hK
                  (try simp only [List.getElem_toArray, List.getElem_cons_succ, List.getElem_cons_zero])
                  go_simp
                  go_at_call 17
                  refine (specTake_any _ ss T _ _ hq.os.reads (Nat.le_refl _) HOK.out (by omega)).mono ?_
                  rintro e X3 ⟨v3, u3, rfl, ho, _, hb3⟩
                  obtain ⟨xa, xc, rfl⟩ := ho.reads.shape
                  have ho := ho.mono (base' := w.heap.size) hq.sz
                  have hok3 := muxSB_strs (takeOpen_ok (show muxOkB (txts ss) = true by rw [muxSB_txts]; exact HOK.out) T.data.toList)
                  generalize strs (takeOpen (txts ss) T.data.toList) = NN at ho hok3 ⊢
                  have hbx := hbx.from hb3
                  have hq := hq.from hb3
                  have hS := hq.cell
                  refine hK.out _ _ hS (fun hHeld => ?_)
                  clear hK K
                  clear hb3
                  refine wpAnyH_take (i := 10) (v := ?_) rfl (by kernel_rfl) (by kernel_rfl) (by kernel_rfl) (fun _ _ _ h => h) (Or.inl ⟨by rfl, ?_⟩) (by assumption) ?_
                  rotate_left
                  · intro wq hSw
                    (try dsimp only at hSw)
                    (try simp only [List.getElem_toArray, List.getElem_cons_succ, List.getElem_cons_zero])
                    go_simp
                    (try with_reducible rfl)
                  simp only [Act.put, List.getElem_toArray, List.getElem_cons_succ, List.getElem_cons_zero, List.setIfInBounds_toArray, List.set_cons_zero, List.set_cons_succ]
                  refine wpAnyH_take (i := 11) (v := ?_) rfl (by kernel_rfl) (by kernel_rfl) (by kernel_rfl) (fun _ _ _ h => h) (Or.inl ⟨by rfl, ?_⟩) (by assumption) ?_
                  rotate_left
                  · intro wq hSw
                    (try dsimp only at hSw)
                    (try simp only [List.getElem_toArray, List.getElem_cons_succ, List.getElem_cons_zero])
                    go_simp
                    (try with_reducible rfl)
                  simp only [Act.put, List.getElem_toArray, List.getElem_cons_succ, List.getElem_cons_zero, List.setIfInBounds_toArray, List.set_cons_zero, List.set_cons_succ]
                  refine wpAnyH_take (i := 12) (v := ?_) rfl (by kernel_rfl) (by kernel_rfl) (by kernel_rfl) (fun _ _ _ h => h) (Or.inl ⟨by rfl, ?_⟩) (by assumption) ?_
                  rotate_left
                  · intro wq hSw
                    (try dsimp only at hSw)
                    (try simp only [List.getElem_toArray, List.getElem_cons_succ, List.getElem_cons_zero])
                    go_simp
                    (try with_reducible rfl)
                  simp only [Act.put, List.getElem_toArray, List.getElem_cons_succ, List.getElem_cons_zero, List.setIfInBounds_toArray, List.set_cons_zero, List.set_cons_succ]
                  refine wpAnyH_ready (rs := [14]) (by kernel_rfl) (by simp) ?_
                  refine AllReadyH.cons rfl ?_ AllReadyH.nil
                  intro K hK
                  (try simp only [List.getElem_toArray, List.getElem_cons_succ, List.getElem_cons_zero])
                  have d0 := hbx.cell (i := 0) rfl
                  have e0 := hbx.free 0
                  go_simp
                  have hfin := hq.box hbw.1 hbw.2.1 hbw.2.2 hbx (by decide) (.slice xa NN.length xc)
                  have hS := hfin.cell
                  refine hK.out _ _ hS (fun hHeld => ?_)
                  clear hK K
                  refine wpAnyH_take (i := 15) (v := ?_) rfl (by kernel_rfl) (by kernel_rfl) (by kernel_rfl) (fun _ _ _ h => h) (Or.inl ⟨by rfl, ?_⟩) (by assumption) ?_
                  rotate_left
                  · intro wq hSw
                    (try dsimp only at hSw)
                    (try simp only [List.getElem_toArray, List.getElem_cons_succ, List.getElem_cons_zero])
                    go_simp
                    (try with_reducible rfl)
                  simp only [Act.put, List.getElem_toArray, List.getElem_cons_succ, List.getElem_cons_zero, List.setIfInBounds_toArray, List.set_cons_zero, List.set_cons_succ]
                  refine wpAnyH_done (by kernel_rfl) ?_ _
                  go_wp2
                  go_meet
                  exact ⟨bx, rfl, hfin.mono (by omega), hbw.1, hbw.2.1, hbw.2.2, xa, xc, NN, hbx.set 0 _, ho.far (ho.not_box hbx (by decide)) 0 _, hok3⟩
              · intro K hK
                (try simp only [List.getElem_toArray, List.getElem_cons_succ, List.getElem_cons_zero])
                go_simp
                have hbx := BK.new (X1.alloc (.cells #[.int .u8 (b.toNat : Int)] 5)) #[.slice none 0 0] 35
                obtain ⟨bx, hbxe⟩ : ∃ bx, bx = (X1.alloc (.cells #[.int .u8 (b.toNat : Int)] 5)).heap.size := ⟨_, rfl⟩
                rw [← hbxe] at hbx
                have hbw : w.heap.size ≤ bx ∧ bx ≠ w1.heap.size ∧ bx ≠ w.heap.size := by have := hq.sz; have := hq.ms; have := hq.rs; omega
                have hsl := hsl.alloc (.cells #[.slice none 0 0] 35)
                have hq := hq.alloc (.cells #[.slice none 0 0] 35)
                have hS := hq.cell
                (try simp only [World.size_alloc] at hbxe)
                rw [← hbxe]
                refine hK.out _ _ hS (fun hHeld => ?_)
                clear hK K
                clear hbxe
                refine wpAnyH_ready (rs := [7]) (by kernel_rfl) (by simp) ?_
                refine AllReadyH.cons rfl ?_ AllReadyH.nil
                intro K hK
                (try simp only [List.getElem_toArray, List.getElem_cons_succ, List.getElem_cons_zero])
                go_simp
                go_at_call 43
                refine (bytes_any 5 hq.rw.1 (by omega) (by omega)).mono ?_
                rintro e X2 ⟨s, rfl, hs5, hr, hg⟩
                have hbx := hbx.next hg (by have := hq.rw.2.2; omega)
                have hsl := hsl.next hg (by have := hq.rw.2.2; omega)
                have hq := hq.next hr hg
                have hS := hq.cell
                obtain ⟨T, hTs, hadd⟩ := add_one b s (by omega)
                refine hK.out _ _ hS (fun hHeld => ?_)
                clear hK K
                clear hr hg
                refine wpAnyH_take (i := 8) (v := ?_) rfl (by kernel_rfl) (by kernel_rfl) (by kernel_rfl) (fun _ _ _ h => h) (Or.inl ⟨by rfl, ?_⟩) (by assumption) ?_
                rotate_left
                · intro wq hSw
                  (try dsimp only at hSw)
                  (try simp only [List.getElem_toArray, List.getElem_cons_succ, List.getElem_cons_zero])
                  go_simp
                  (try with_reducible rfl)
                simp only [Act.put, List.getElem_toArray, List.getElem_cons_succ, List.getElem_cons_zero, List.setIfInBounds_toArray, List.set_cons_zero, List.set_cons_succ]
                refine wpAnyH_ready (rs := [9]) (by kernel_rfl) (by simp) ?_
                refine AllReadyH.cons rfl ?_ AllReadyH.nil
                intro K hK
                (try simp only [List.getElem_toArray, List.getElem_cons_succ, List.getElem_cons_zero])
                go_simp
                go_at_call 17
                refine (specTake_any _ ss T _ _ hq.os.reads (Nat.le_refl _) HOK.out (by omega)).mono ?_
                rintro e X3 ⟨v3, u3, rfl, ho, _, hb3⟩
                obtain ⟨xa, xc, rfl⟩ := ho.reads.shape
                have ho := ho.mono (base' := w.heap.size) hq.sz
                have hok3 := muxSB_strs (takeOpen_ok (show muxOkB (txts ss) = true by rw [muxSB_txts]; exact HOK.out) T.data.toList)
                generalize strs (takeOpen (txts ss) T.data.toList) = NN at ho hok3 ⊢
                have hbx := hbx.from hb3
                have hq := hq.from hb3
                have hS := hq.cell
                refine hK.out _ _ hS (fun hHeld => ?_)
                clear hK K
                clear hb3
                refine wpAnyH_take (i := 10) (v := ?_) rfl (by kernel_rfl) (by kernel_rfl) (by kernel_rfl) (fun _ _ _ h => h) (Or.inl ⟨by rfl, ?_⟩) (by assumption) ?_
                rotate_left
                · intro wq hSw
                  (try dsimp only at hSw)
                  (try simp only [List.getElem_toArray, List.getElem_cons_succ, List.getElem_cons_zero])
                  go_simp
                  (try with_reducible rfl)
                simp only [Act.put, List.getElem_toArray, List.getElem_cons_succ, List.getElem_cons_zero, List.setIfInBounds_toArray, List.set_cons_zero, List.set_cons_succ]
                refine wpAnyH_take (i := 11) (v := ?_) rfl (by kernel_rfl) (by kernel_rfl) (by kernel_rfl) (fun _ _ _ h => h) (Or.inl ⟨by rfl, ?_⟩) (by assumption) ?_
                rotate_left
                · intro wq hSw
                  (try dsimp only at hSw)
                  (try simp only [List.getElem_toArray, List.getElem_cons_succ, List.getElem_cons_zero])
                  go_simp
                  (try with_reducible rfl)
                simp only [Act.put, List.getElem_toArray, List.getElem_cons_succ, List.getElem_cons_zero, List.setIfInBounds_toArray, List.set_cons_zero, List.set_cons_succ]
                refine wpAnyH_take (i := 12) (v := ?_) rfl (by kernel_rfl) (by kernel_rfl) (by kernel_rfl) (fun _ _ _ h => h) (Or.inl ⟨by rfl, ?_⟩) (by assumption) ?_
                rotate_left
                · intro wq hSw
                  (try dsimp only at hSw)
                  (try simp only [List.getElem_toArray, List.getElem_cons_succ, List.getElem_cons_zero])
                  go_simp
                  (try with_reducible rfl)
                simp only [Act.put, List.getElem_toArray, List.getElem_cons_succ, List.getElem_cons_zero, List.setIfInBounds_toArray, List.set_cons_zero, List.set_cons_succ]
                refine wpAnyH_ready (rs := [14]) (by kernel_rfl) (by simp) ?_
                refine AllReadyH.cons rfl ?_ AllReadyH.nil
                intro K hK
                (try simp only [List.getElem_toArray, List.getElem_cons_succ, List.getElem_cons_zero])
                have d0 := hbx.cell (i := 0) rfl
                have e0 := hbx.free 0
                go_simp
                have hfin := hq.box hbw.1 hbw.2.1 hbw.2.2 hbx (by decide) (.slice xa NN.length xc)
                have hS := hfin.cell
                refine hK.out _ _ hS (fun hHeld => ?_)
                clear hK K
                refine wpAnyH_take (i := 15) (v := ?_) rfl (by kernel_rfl) (by kernel_rfl) (by kernel_rfl) (fun _ _ _ h => h) (Or.inl ⟨by rfl, ?_⟩) (by assumption) ?_
                rotate_left
                · intro wq hSw
                  (try dsimp only at hSw)
                  (try simp only [List.getElem_toArray, List.getElem_cons_succ, List.getElem_cons_zero])
                  go_simp
                  (try with_reducible rfl)
                simp only [Act.put, List.getElem_toArray, List.getElem_cons_succ, List.getElem_cons_zero, List.setIfInBounds_toArray, List.set_cons_zero, List.set_cons_succ]
                refine wpAnyH_done (by kernel_rfl) ?_ _
                go_wp2
                go_meet
                exact ⟨bx, rfl, hfin.mono (by omega), hbw.1, hbw.2.1, hbw.2.2, xa, xc, NN, hbx.set 0 _, ho.far (ho.not_box hbx (by decide)) 0 _, hok3⟩
            · intro K hK
              (try simp only [List.getElem_toArray, List.getElem_cons_succ, List.getElem_cons_zero])
              go_simp
              go_at_call 43
              refine (bytes_any 5 hq.rw.1 (by omega) (by omega)).mono ?_
              rintro e X2 ⟨s, rfl, hs5, hr, hg⟩
              have hsl := hsl.next hg (by have := hq.rw.2.2; omega)
              have hq := hq.next hr hg
              have hS := hq.cell
              obtain ⟨T, hTs, hadd⟩ := add_one b s (by omega)
              refine hK.out _ _ hS (fun hHeld => ?_)
              clear hK K
              clear hr hg
              refine wpAnyH_ready (rs := [5, 13]) (by kernel_rfl) (by simp) ?_
              refine AllReadyH.cons rfl ?_ (AllReadyH.cons rfl ?_ AllReadyH.nil)
              · intro K hK
                (try simp only [List.getElem_toArray, List.getElem_cons_succ, List.getElem_cons_zero])
                have hcv := run_string_blk hsl
                go_simp
                refine hK.out _ _ hS (fun hHeld => ?_)
                clear hK K
                clear hcv
                refine wpAnyH_take (i := 8) (v := ?_) rfl (by kernel_rfl) (by kernel_rfl) (by kernel_rfl) (fun _ _ _ h => h) (Or.inl ⟨by rfl, ?_⟩) (by assumption) ?_
                rotate_left
                · intro wq hSw
                  (try dsimp only at hSw)
                  (try simp only [List.getElem_toArray, List.getElem_cons_succ, List.getElem_cons_zero])
                  go_simp
                  (try with_reducible rfl)
                simp only [Act.put, List.getElem_toArray, List.getElem_cons_succ, List.getElem_cons_zero, List.setIfInBounds_toArray, List.set_cons_zero, List.set_cons_succ]
                refine wpAnyH_ready (rs := [9, 13]) (by kernel_rfl) (by simp) ?_
                refine AllReadyH.cons rfl ?_ (AllReadyH.cons rfl ?_ AllReadyH.nil)
                · intro K hK
                  (try simp only [List.getElem_toArray, List.getElem_cons_succ, List.getElem_cons_zero])
                  go_simp
                  go_at_call 17
                  refine (specTake_any _ ss T _ _ hq.os.reads (Nat.le_refl _) HOK.out (by omega)).mono ?_
                  rintro e X3 ⟨v3, u3, rfl, ho, _, hb3⟩
                  obtain ⟨xa, xc, rfl⟩ := ho.reads.shape
                  have ho := ho.mono (base' := w.heap.size) hq.sz
                  have hok3 := muxSB_strs (takeOpen_ok (show muxOkB (txts ss) = true by rw [muxSB_txts]; exact HOK.out) T.data.toList)
                  generalize strs (takeOpen (txts ss) T.data.toList) = NN at ho hok3 ⊢
                  have hq := hq.from hb3
                  have hS := hq.cell
                  refine hK.out _ _ hS (fun hHeld => ?_)
                  clear hK K
                  clear hb3
                  refine wpAnyH_take (i := 10) (v := ?_) rfl (by kernel_rfl) (by kernel_rfl) (by kernel_rfl) (fun _ _ _ h => h) (Or.inl ⟨by rfl, ?_⟩) (by assumption) ?_
                  rotate_left
                  · intro wq hSw
                    (try dsimp only at hSw)
                    (try simp only [List.getElem_toArray, List.getElem_cons_succ, List.getElem_cons_zero])
                    go_simp
                    (try with_reducible rfl)
                  simp only [Act.put, List.getElem_toArray, List.getElem_cons_succ, List.getElem_cons_zero, List.setIfInBounds_toArray, List.set_cons_zero, List.set_cons_succ]
                  refine wpAnyH_take (i := 11) (v := ?_) rfl (by kernel_rfl) (by kernel_rfl) (by kernel_rfl) (fun _ _ _ h => h) (Or.inl ⟨by rfl, ?_⟩) (by assumption) ?_
                  rotate_left
                  · intro wq hSw
                    (try dsimp only at hSw)
                    (try simp only [List.getElem_toArray, List.getElem_cons_succ, List.getElem_cons_zero])
                    go_simp
                    (try with_reducible rfl)
                  simp only [Act.put, List.getElem_toArray, List.getElem_cons_succ, List.getElem_cons_zero, List.setIfInBounds_toArray, List.set_cons_zero, List.set_cons_succ]
                  refine wpAnyH_take (i := 12) (v := ?_) rfl (by kernel_rfl) (by kernel_rfl) (by kernel_rfl) (fun _ _ _ h => h) (Or.inl ⟨by rfl, ?_⟩) (by assumption) ?_
                  rotate_left
                  · intro wq hSw
                    (try dsimp only at hSw)
                    (try simp only [List.getElem_toArray, List.getElem_cons_succ, List.getElem_cons_zero])
                    go_simp
                    (try with_reducible rfl)
                  simp only [Act.put, List.getElem_toArray, List.getElem_cons_succ, List.getElem_cons_zero, List.setIfInBounds_toArray, List.set_cons_zero, List.set_cons_succ]
                  refine wpAnyH_ready (rs := [13]) (by kernel_rfl) (by simp) ?_
                  refine AllReadyH.cons rfl ?_ AllReadyH.nil
                  intro K hK
                  (try simp only [List.getElem_toArray, List.getElem_cons_succ, List.getElem_cons_zero])
                  go_simp
                  have hbx := BK.new X3 #[.slice none 0 0] 35
                  obtain ⟨bx, hbxe⟩ : ∃ bx, bx = X3.heap.size := ⟨_, rfl⟩
                  rw [← hbxe] at hbx
                  have hbw : w.heap.size ≤ bx ∧ bx ≠ w1.heap.size ∧ bx ≠ w.heap.size := by have := hq.sz; have := hq.ms; have := hq.rs; omega
                  have hsl := hsl.alloc (.cells #[.slice none 0 0] 35)
                  have ho := ho.alloc (.cells #[.slice none 0 0] 35)
                  have hq := hq.alloc (.cells #[.slice none 0 0] 35)
                  have hS := hq.cell
                  (try simp only [World.size_alloc] at hbxe)
                  rw [← hbxe]
                  refine hK.out _ _ hS (fun hHeld => ?_)
                  clear hK K
                  clear hbxe
                  refine wpAnyH_ready (rs := [14]) (by kernel_rfl) (by simp) ?_
                  refine AllReadyH.cons rfl ?_ AllReadyH.nil
                  intro K hK
                  (try simp only [List.getElem_toArray, List.getElem_cons_succ, List.getElem_cons_zero])
                  have d0 := hbx.cell (i := 0) rfl
                  have e0 := hbx.free 0
                  go_simp
                  have hfin := hq.box hbw.1 hbw.2.1 hbw.2.2 hbx (by decide) (.slice xa NN.length xc)
                  have hS := hfin.cell
                  refine hK.out _ _ hS (fun hHeld => ?_)
                  clear hK K
                  refine wpAnyH_take (i := 15) (v := ?_) rfl (by kernel_rfl) (by kernel_rfl) (by kernel_rfl) (fun _ _ _ h => h) (Or.inl ⟨by rfl, ?_⟩) (by assumption) ?_
                  rotate_left
                  · intro wq hSw
                    (try dsimp only at hSw)
                    (try simp only [List.getElem_toArray, List.getElem_cons_succ, List.getElem_cons_zero])
                    go_simp
                    (try with_reducible rfl)
                  simp only [Act.put, List.getElem_toArray, List.getElem_cons_succ, List.getElem_cons_zero, List.setIfInBounds_toArray, List.set_cons_zero, List.set_cons_succ]
                  refine wpAnyH_done (by kernel_rfl) ?_ _
                  go_wp2
                  go_meet
                  exact ⟨bx, rfl, hfin.mono (by omega), hbw.1, hbw.2.1, hbw.2.2, xa, xc, NN, hbx.set 0 _, ho.far (ho.not_box hbx (by decide)) 0 _, hok3⟩
                · intro K hK
                  (try simp only [List.getElem_toArray, List.getElem_cons_succ, List.getElem_cons_zero])
                  go_simp
                  have hbx := BK.new X2 #[.slice none 0 0] 35
                  obtain ⟨bx, hbxe⟩ : ∃ bx, bx = X2.heap.size := ⟨_, rfl⟩
                  rw [← hbxe] at hbx
                  have hbw : w.heap.size ≤ bx ∧ bx ≠ w1.heap.size ∧ bx ≠ w.heap.size := by have := hq.sz; have := hq.ms; have := hq.rs; omega
                  have hsl := hsl.alloc (.cells #[.slice none 0 0] 35)
                  have hq := hq.alloc (.cells #[.slice none 0 0] 35)
                  have hS := hq.cell
                  (try simp only [World.size_alloc] at hbxe)
                  rw [← hbxe]
                  refine hK.out _ _ hS (fun hHeld => ?_)
                  clear hK K
                  clear hbxe
                  refine wpAnyH_ready (rs := [9]) (by kernel_rfl) (by simp) ?_
                  refine AllReadyH.cons rfl ?_ AllReadyH.nil
                  intro K hK
                  (try simp only [List.getElem_toArray, List.getElem_cons_succ, List.getElem_cons_zero])
                  go_simp
                  go_at_call 17
                  refine (specTake_any _ ss T _ _ hq.os.reads (Nat.le_refl _) HOK.out (by omega)).mono ?_
                  rintro e X3 ⟨v3, u3, rfl, ho, _, hb3⟩
                  obtain ⟨xa, xc, rfl⟩ := ho.reads.shape
                  have ho := ho.mono (base' := w.heap.size) hq.sz
                  have hok3 := muxSB_strs (takeOpen_ok (show muxOkB (txts ss) = true by rw [muxSB_txts]; exact HOK.out) T.data.toList)
                  generalize strs (takeOpen (txts ss) T.data.toList) = NN at ho hok3 ⊢
                  have hbx := hbx.from hb3
                  have hq := hq.from hb3
                  have hS := hq.cell
                  refine hK.out _ _ hS (fun hHeld => ?_)
                  clear hK K
                  clear hb3
                  refine wpAnyH_take (i := 10) (v := ?_) rfl (by kernel_rfl) (by kernel_rfl) (by kernel_rfl) (fun _ _ _ h => h) (Or.inl ⟨by rfl, ?_⟩) (by assumption) ?_
                  rotate_left
                  · intro wq hSw
                    (try dsimp only at hSw)
                    (try simp only [List.getElem_toArray, List.getElem_cons_succ, List.getElem_cons_zero])
                    go_simp
                    (try with_reducible rfl)
                  simp only [Act.put, List.getElem_toArray, List.getElem_cons_succ, List.getElem_cons_zero, List.setIfInBounds_toArray, List.set_cons_zero, List.set_cons_succ]
                  refine wpAnyH_take (i := 11) (v := ?_) rfl (by kernel_rfl) (by kernel_rfl) (by kernel_rfl) (fun _ _ _ h => h) (Or.inl ⟨by rfl, ?_⟩) (by assumption) ?_
                  rotate_left
                  · intro wq hSw
                    (try dsimp only at hSw)
                    (try simp only [List.getElem_toArray, List.getElem_cons_succ, List.getElem_cons_zero])
                    go_simp
                    (try with_reducible rfl)
                  simp only [Act.put, List.getElem_toArray, List.getElem_cons_succ, List.getElem_cons_zero, List.setIfInBounds_toArray, List.set_cons_zero, List.set_cons_succ]
                  refine wpAnyH_take (i := 12) (v := ?_) rfl (by kernel_rfl) (by kernel_rfl) (by kernel_rfl) (fun _ _ _ h => h) (Or.inl ⟨by rfl, ?_⟩) (by assumption) ?_
                  rotate_left
                  · intro wq hSw
                    (try dsimp only at hSw)
                    (try simp only [List.getElem_toArray, List.getElem_cons_succ, List.getElem_cons_zero])
                    go_simp
                    (try with_reducible rfl)
                  simp only [Act.put, List.getElem_toArray, List.getElem_cons_succ, List.getElem_cons_zero, List.setIfInBounds_toArray, List.set_cons_zero, List.set_cons_succ]
                  refine wpAnyH_ready (rs := [14]) (by kernel_rfl) (by simp) ?_
                  refine AllReadyH.cons rfl ?_ AllReadyH.nil
                  intro K hK
                  (try simp only [List.getElem_toArray, List.getElem_cons_succ, List.getElem_cons_zero])
                  have d0 := hbx.cell (i := 0) rfl
                  have e0 := hbx.free 0
                  go_simp
                  have hfin := hq.box hbw.1 hbw.2.1 hbw.2.2 hbx (by decide) (.slice xa NN.length xc)
                  have hS := hfin.cell
                  refine hK.out _ _ hS (fun hHeld => ?_)
                  clear hK K
                  refine wpAnyH_take (i := 15) (v := ?_) rfl (by kernel_rfl) (by kernel_rfl) (by kernel_rfl) (fun _ _ _ h => h) (Or.inl ⟨by rfl, ?_⟩) (by assumption) ?_
                  rotate_left
                  · intro wq hSw
                    (try dsimp only at hSw)
                    (try simp only [List.getElem_toArray, List.getElem_cons_succ, List.getElem_cons_zero])
                    go_simp
                    (try with_reducible rfl)
                  simp only [Act.put, List.getElem_toArray, List.getElem_cons_succ, List.getElem_cons_zero, List.setIfInBounds_toArray, List.set_cons_zero, List.set_cons_succ]
                  refine wpAnyH_done (by kernel_rfl) ?_ _
                  go_wp2
                  go_meet
                  exact ⟨bx, rfl, hfin.mono (by omega), hbw.1, hbw.2.1, hbw.2.2, xa, xc, NN, hbx.set 0 _, ho.far (ho.not_box hbx (by decide)) 0 _, hok3⟩
              · intro K hK
                (try simp only [List.getElem_toArray, List.getElem_cons_succ, List.getElem_cons_zero])
                go_simp
                have hbx := BK.new X2 #[.slice none 0 0] 35
                obtain ⟨bx, hbxe⟩ : ∃ bx, bx = X2.heap.size := ⟨_, rfl⟩
                rw [← hbxe] at hbx
                have hbw : w.heap.size ≤ bx ∧ bx ≠ w1.heap.size ∧ bx ≠ w.heap.size := by have := hq.sz; have := hq.ms; have := hq.rs; omega
                have hsl := hsl.alloc (.cells #[.slice none 0 0] 35)
                have hq := hq.alloc (.cells #[.slice none 0 0] 35)
                have hS := hq.cell
                (try simp only [World.size_alloc] at hbxe)
                rw [← hbxe]
                refine hK.out _ _ hS (fun hHeld => ?_)
                clear hK K
                clear hbxe
                refine wpAnyH_ready (rs := [5]) (by kernel_rfl) (by simp) ?_
                refine AllReadyH.cons rfl ?_ AllReadyH.nil
                intro K hK
                (try simp only [List.getElem_toArray, List.getElem_cons_succ, List.getElem_cons_zero])
                have hcv := run_string_blk hsl
                go_simp
                refine hK.out _ _ hS (fun hHeld => ?_)
                clear hK K
                clear hcv
                refine wpAnyH_take (i := 8) (v := ?_) rfl (by kernel_rfl) (by kernel_rfl) (by kernel_rfl) (fun _ _ _ h => h) (Or.inl ⟨by rfl, ?_⟩) (by assumption) ?_
                rotate_left
                · intro wq hSw
                  (try dsimp only at hSw)
                  (try simp only [List.getElem_toArray, List.getElem_cons_succ, List.getElem_cons_zero])
                  go_simp
                  (try with_reducible rfl)
                simp only [Act.put, List.getElem_toArray, List.getElem_cons_succ, List.getElem_cons_zero, List.setIfInBounds_toArray, List.set_cons_zero, List.set_cons_succ]
                refine wpAnyH_ready (rs := [9]) (by kernel_rfl) (by simp) ?_
                refine AllReadyH.cons rfl ?_ AllReadyH.nil
                intro K hK
                (try simp only [List.getElem_toArray, List.getElem_cons_succ, List.getElem_cons_zero])
                go_simp
                go_at_call 17
                refine (specTake_any _ ss T _ _ hq.os.reads (Nat.le_refl _) HOK.out (by omega)).mono ?_
                rintro e X3 ⟨v3, u3, rfl, ho, _, hb3⟩
                obtain ⟨xa, xc, rfl⟩ := ho.reads.shape
                have ho := ho.mono (base' := w.heap.size) hq.sz
                have hok3 := muxSB_strs (takeOpen_ok (show muxOkB (txts ss) = true by rw [muxSB_txts]; exact HOK.out) T.data.toList)
                generalize strs (takeOpen (txts ss) T.data.toList) = NN at ho hok3 ⊢
                have hbx := hbx.from hb3
                have hq := hq.from hb3
                have hS := hq.cell
                refine hK.out _ _ hS (fun hHeld => ?_)
                clear hK K
                clear hb3
                refine wpAnyH_take (i := 10) (v := ?_) rfl (by kernel_rfl) (by kernel_rfl) (by kernel_rfl) (fun _ _ _ h => h) (Or.inl ⟨by rfl, ?_⟩) (by assumption) ?_
                rotate_left
                · intro wq hSw
                  (try dsimp only at hSw)
                  (try simp only [List.getElem_toArray, List.getElem_cons_succ, List.getElem_cons_zero])
                  go_simp
                  (try with_reducible rfl)
                simp only [Act.put, List.getElem_toArray, List.getElem_cons_succ, List.getElem_cons_zero, List.setIfInBounds_toArray, List.set_cons_zero, List.set_cons_succ]
                refine wpAnyH_take (i := 11) (v := ?_) rfl (by kernel_rfl) (by kernel_rfl) (by kernel_rfl) (fun _ _ _ h => h) (Or.inl ⟨by rfl, ?_⟩) (by assumption) ?_
                rotate_left
                · intro wq hSw
                  (try dsimp only at hSw)
                  (try simp only [List.getElem_toArray, List.getElem_cons_succ, List.getElem_cons_zero])
                  go_simp
                  (try with_reducible rfl)
                simp only [Act.put, List.getElem_toArray, List.getElem_cons_succ, List.getElem_cons_zero, List.setIfInBounds_toArray, List.set_cons_zero, List.set_cons_succ]
                refine wpAnyH_take (i := 12) (v := ?_) rfl (by kernel_rfl) (by kernel_rfl) (by kernel_rfl) (fun _ _ _ h => h) (Or.inl ⟨by rfl, ?_⟩) (by assumption) ?_
                rotate_left
                · intro wq hSw
                  (try dsimp only at hSw)
                  (try simp only [List.getElem_toArray, List.getElem_cons_succ, List.getElem_cons_zero])
                  go_simp
                  (try with_reducible rfl)
                simp only [Act.put, List.getElem_toArray, List.getElem_cons_succ, List.getElem_cons_zero, List.setIfInBounds_toArray, List.set_cons_zero, List.set_cons_succ]
                refine wpAnyH_ready (rs := [14]) (by kernel_rfl) (by simp) ?_
                refine AllReadyH.cons rfl ?_ AllReadyH.nil
                intro K hK
                (try simp only [List.getElem_toArray, List.getElem_cons_succ, List.getElem_cons_zero])
                have d0 := hbx.cell (i := 0) rfl
                have e0 := hbx.free 0
                go_simp
                have hfin := hq.box hbw.1 hbw.2.1 hbw.2.2 hbx (by decide) (.slice xa NN.length xc)
                have hS := hfin.cell
                refine hK.out _ _ hS (fun hHeld => ?_)
                clear hK K
                refine wpAnyH_take (i := 15) (v := ?_) rfl (by kernel_rfl) (by kernel_rfl) (by kernel_rfl) (fun _ _ _ h => h) (Or.inl ⟨by rfl, ?_⟩) (by assumption) ?_
                rotate_left
                · intro wq hSw
                  (try dsimp only at hSw)
                  (try simp only [List.getElem_toArray, List.getElem_cons_succ, List.getElem_cons_zero])
                  go_simp
                  (try with_reducible rfl)
                simp only [Act.put, List.getElem_toArray, List.getElem_cons_succ, List.getElem_cons_zero, List.setIfInBounds_toArray, List.set_cons_zero, List.set_cons_succ]
                refine wpAnyH_done (by kernel_rfl) ?_ _
                go_wp2
                go_meet
                exact ⟨bx, rfl, hfin.mono (by omega), hbw.1, hbw.2.1, hbw.2.2, xa, xc, NN, hbx.set 0 _, ho.far (ho.not_box hbx (by decide)) 0 _, hok3⟩
            · intro K hK
              (try simp only [List.getElem_toArray, List.getElem_cons_succ, List.getElem_cons_zero])
              go_simp
              have hbx := BK.new (X1.alloc (.cells #[.int .u8 (b.toNat : Int)] 5)) #[.slice none 0 0] 35
              obtain ⟨bx, hbxe⟩ : ∃ bx, bx = (X1.alloc (.cells #[.int .u8 (b.toNat : Int)] 5)).heap.size := ⟨_, rfl⟩
              rw [← hbxe] at hbx
              have hbw : w.heap.size ≤ bx ∧ bx ≠ w1.heap.size ∧ bx ≠ w.heap.size := by have := hq.sz; have := hq.ms; have := hq.rs; omega
              have hsl := hsl.alloc (.cells #[.slice none 0 0] 35)
              have hq := hq.alloc (.cells #[.slice none 0 0] 35)
              have hS := hq.cell
              (try simp only [World.size_alloc] at hbxe)
              rw [← hbxe]
              refine hK.out _ _ hS (fun hHeld => ?_)
              clear hK K
              clear hbxe
              refine wpAnyH_ready (rs := [5, 7]) (by kernel_rfl) (by simp) ?_
              refine AllReadyH.cons rfl ?_ (AllReadyH.cons rfl ?_ AllReadyH.nil)
              · intro K hK
                (try simp only [List.getElem_toArray, List.getElem_cons_succ, List.getElem_cons_zero])
                have hcv := run_string_blk hsl
                go_simp
                refine hK.out _ _ hS (fun hHeld => ?_)
                clear hK K
                clear hcv
                refine wpAnyH_ready (rs := [7]) (by kernel_rfl) (by simp) ?_
                refine AllReadyH.cons rfl ?_ AllReadyH.nil
                intro K hK
                (try simp only [List.getElem_toArray, List.getElem_cons_succ, List.getElem_cons_zero])
                go_simp
                go_at_call 43
                refine (bytes_any 5 hq.rw.1 (by omega) (by omega)).mono ?_
                rintro e X2 ⟨s, rfl, hs5, hr, hg⟩
                have hbx := hbx.next hg (by have := hq.rw.2.2; omega)
                have hsl := hsl.next hg (by have := hq.rw.2.2; omega)
                have hq := hq.next hr hg
                have hS := hq.cell
                obtain ⟨T, hTs, hadd⟩ := add_one b s (by omega)
                refine hK.out _ _ hS (fun hHeld => ?_)
                clear hK K
                clear hr hg
                refine wpAnyH_take (i := 8) (v := ?_) rfl (by kernel_rfl) (by kernel_rfl) (by kernel_rfl) (fun _ _ _ h => h) (Or.inl ⟨by rfl, ?_⟩) (by assumption) ?_
                rotate_left
                · intro wq hSw
                  (try dsimp only at hSw)
                  (try simp only [List.getElem_toArray, List.getElem_cons_succ, List.getElem_cons_zero])
                  go_simp
                  (try with_reducible rfl)
                simp only [Act.put, List.getElem_toArray, List.getElem_cons_succ, List.getElem_cons_zero, List.setIfInBounds_toArray, List.set_cons_zero, List.set_cons_succ]
                refine wpAnyH_ready (rs := [9]) (by kernel_rfl) (by simp) ?_
                refine AllReadyH.cons rfl ?_ AllReadyH.nil
                intro K hK
                (try simp only [List.getElem_toArray, List.getElem_cons_succ, List.getElem_cons_zero])
                go_simp
                go_at_call 17
                refine (specTake_any _ ss T _ _ hq.os.reads (Nat.le_refl _) HOK.out (by omega)).mono ?_
                rintro e X3 ⟨v3, u3, rfl, ho, _, hb3⟩
                obtain ⟨xa, xc, rfl⟩ := ho.reads.shape
                have ho := ho.mono (base' := w.heap.size) hq.sz
                have hok3 := muxSB_strs (takeOpen_ok (show muxOkB (txts ss) = true by rw [muxSB_txts]; exact HOK.out) T.data.toList)
                generalize strs (takeOpen (txts ss) T.data.toList) = NN at ho hok3 ⊢
                have hbx := hbx.from hb3
                have hq := hq.from hb3
                have hS := hq.cell
                refine hK.out _ _ hS (fun hHeld => ?_)
                clear hK K
                clear hb3
                refine wpAnyH_take (i := 10) (v := ?_) rfl (by kernel_rfl) (by kernel_rfl) (by kernel_rfl) (fun _ _ _ h => h) (Or.inl ⟨by rfl, ?_⟩) (by assumption) ?_
                rotate_left
                · intro wq hSw
                  (try dsimp only at hSw)
                  (try simp only [List.getElem_toArray, List.getElem_cons_succ, List.getElem_cons_zero])
                  go_simp
                  (try with_reducible rfl)
                simp only [Act.put, List.getElem_toArray, List.getElem_cons_succ, List.getElem_cons_zero, List.setIfInBounds_toArray, List.set_cons_zero, List.set_cons_succ]
                refine wpAnyH_take (i := 11) (v := ?_) rfl (by kernel_rfl) (by kernel_rfl) (by kernel_rfl) (fun _ _ _ h => h) (Or.inl ⟨by rfl, ?_⟩) (by assumption) ?_
                rotate_left
                · intro wq hSw
                  (try dsimp only at hSw)
                  (try simp only [List.getElem_toArray, List.getElem_cons_succ, List.getElem_cons_zero])
                  go_simp
                  (try with_reducible rfl)
                simp only [Act.put, List.getElem_toArray, List.getElem_cons_succ, List.getElem_cons_zero, List.setIfInBounds_toArray, List.set_cons_zero, List.set_cons_succ]
                refine wpAnyH_take (i := 12) (v := ?_) rfl (by kernel_rfl) (by kernel_rfl) (by kernel_rfl) (fun _ _ _ h => h) (Or.inl ⟨by rfl, ?_⟩) (by assumption) ?_
                rotate_left
                · intro wq hSw
                  (try dsimp only at hSw)
                  (try simp only [List.getElem_toArray, List.getElem_cons_succ, List.getElem_cons_zero])
                  go_simp
                  (try with_reducible rfl)
                simp only [Act.put, List.getElem_toArray, List.getElem_cons_succ, List.getElem_cons_zero, List.setIfInBounds_toArray, List.set_cons_zero, List.set_cons_succ]
                refine wpAnyH_ready (rs := [14]) (by kernel_rfl) (by simp) ?_
                refine AllReadyH.cons rfl ?_ AllReadyH.nil
                intro K hK
                (try simp only [List.getElem_toArray, List.getElem_cons_succ, List.getElem_cons_zero])
                have d0 := hbx.cell (i := 0) rfl
                have e0 := hbx.free 0
                go_simp
                have hfin := hq.box hbw.1 hbw.2.1 hbw.2.2 hbx (by decide) (.slice xa NN.length xc)
                have hS := hfin.cell
                refine hK.out _ _ hS (fun hHeld => ?_)
                clear hK K
                refine wpAnyH_take (i := 15) (v := ?_) rfl (by kernel_rfl) (by kernel_rfl) (by kernel_rfl) (fun _ _ _ h => h) (Or.inl ⟨by rfl, ?_⟩) (by assumption) ?_
                rotate_left
                · intro wq hSw
                  (try dsimp only at hSw)
                  (try simp only [List.getElem_toArray, List.getElem_cons_succ, List.getElem_cons_zero])
                  go_simp
                  (try with_reducible rfl)
                simp only [Act.put, List.getElem_toArray, List.getElem_cons_succ, List.getElem_cons_zero, List.setIfInBounds_toArray, List.set_cons_zero, List.set_cons_succ]
                refine wpAnyH_done (by kernel_rfl) ?_ _
                go_wp2
                go_meet
                exact ⟨bx, rfl, hfin.mono (by omega), hbw.1, hbw.2.1, hbw.2.2, xa, xc, NN, hbx.set 0 _, ho.far (ho.not_box hbx (by decide)) 0 _, hok3⟩
              · intro K hK
                (try simp only [List.getElem_toArray, List.getElem_cons_succ, List.getElem_cons_zero])
                go_simp
                go_at_call 43
                refine (bytes_any 5 hq.rw.1 (by omega) (by omega)).mono ?_
                rintro e X2 ⟨s, rfl, hs5, hr, hg⟩
                have hbx := hbx.next hg (by have := hq.rw.2.2; omega)
                have hsl := hsl.next hg (by have := hq.rw.2.2; omega)
                have hq := hq.next hr hg
                have hS := hq.cell
                obtain ⟨T, hTs, hadd⟩ := add_one b s (by omega)
                refine hK.out _ _ hS (fun hHeld => ?_)
                clear hK K
                clear hr hg
                refine wpAnyH_ready (rs := [5]) (by kernel_rfl) (by simp) ?_
                refine AllReadyH.cons rfl ?_ AllReadyH.nil
                intro K hK
                (try simp only [List.getElem_toArray, List.getElem_cons_succ, List.getElem_cons_zero])
                have hcv := run_string_blk hsl
                go_simp
                refine hK.out _ _ hS (fun hHeld => ?_)
                clear hK K
                clear hcv
                refine wpAnyH_take (i := 8) (v := ?_) rfl (by kernel_rfl) (by kernel_rfl) (by kernel_rfl) (fun _ _ _ h => h) (Or.inl ⟨by rfl, ?_⟩) (by assumption) ?_
                rotate_left
                · intro wq hSw
                  (try dsimp only at hSw)
                  (try simp only [List.getElem_toArray, List.getElem_cons_succ, List.getElem_cons_zero])
                  go_simp
                  (try with_reducible rfl)
                simp only [Act.put, List.getElem_toArray, List.getElem_cons_succ, List.getElem_cons_zero, List.setIfInBounds_toArray, List.set_cons_zero, List.set_cons_succ]
                refine wpAnyH_ready (rs := [9]) (by kernel_rfl) (by simp) ?_
                refine AllReadyH.cons rfl ?_ AllReadyH.nil
                intro K hK
                (try simp only [List.getElem_toArray, List.getElem_cons_succ, List.getElem_cons_zero])
                go_simp
                go_at_call 17
                refine (specTake_any _ ss T _ _ hq.os.reads (Nat.le_refl _) HOK.out (by omega)).mono ?_
                rintro e X3 ⟨v3, u3, rfl, ho, _, hb3⟩
                obtain ⟨xa, xc, rfl⟩ := ho.reads.shape
                have ho := ho.mono (base' := w.heap.size) hq.sz
                have hok3 := muxSB_strs (takeOpen_ok (show muxOkB (txts ss) = true by rw [muxSB_txts]; exact HOK.out) T.data.toList)
                generalize strs (takeOpen (txts ss) T.data.toList) = NN at ho hok3 ⊢
                have hbx := hbx.from hb3
                have hq := hq.from hb3
                have hS := hq.cell
                refine hK.out _ _ hS (fun hHeld => ?_)
                clear hK K
                clear hb3
                refine wpAnyH_take (i := 10) (v := ?_) rfl (by kernel_rfl) (by kernel_rfl) (by kernel_rfl) (fun _ _ _ h => h) (Or.inl ⟨by rfl, ?_⟩) (by assumption) ?_
                rotate_left
                · intro wq hSw
                  (try dsimp only at hSw)
                  (try simp only [List.getElem_toArray, List.getElem_cons_succ, List.getElem_cons_zero])
                  go_simp
                  (try with_reducible rfl)
                simp only [Act.put, List.getElem_toArray, List.getElem_cons_succ, List.getElem_cons_zero, List.setIfInBounds_toArray, List.set_cons_zero, List.set_cons_succ]
                refine wpAnyH_take (i := 11) (v := ?_) rfl (by kernel_rfl) (by kernel_rfl) (by kernel_rfl) (fun _ _ _ h => h) (Or.inl ⟨by rfl, ?_⟩) (by assumption) ?_
                rotate_left
                · intro wq hSw
                  (try dsimp only at hSw)
                  (try simp only [List.getElem_toArray, List.getElem_cons_succ, List.getElem_cons_zero])
                  go_simp
                  (try with_reducible rfl)
                simp only [Act.put, List.getElem_toArray, List.getElem_cons_succ, List.getElem_cons_zero, List.setIfInBounds_toArray, List.set_cons_zero, List.set_cons_succ]
                refine wpAnyH_take (i := 12) (v := ?_) rfl (by kernel_rfl) (by kernel_rfl) (by kernel_rfl) (fun _ _ _ h => h) (Or.inl ⟨by rfl, ?_⟩) (by assumption) ?_
                rotate_left
                · intro wq hSw
                  (try dsimp only at hSw)
                  (try simp only [List.getElem_toArray, List.getElem_cons_succ, List.getElem_cons_zero])
                  go_simp
                  (try with_reducible rfl)
                simp only [Act.put, List.getElem_toArray, List.getElem_cons_succ, List.getElem_cons_zero, List.setIfInBounds_toArray, List.set_cons_zero, List.set_cons_succ]
                refine wpAnyH_ready (rs := [14]) (by kernel_rfl) (by simp) ?_
                refine AllReadyH.cons rfl ?_ AllReadyH.nil
                intro K hK
                (try simp only [List.getElem_toArray, List.getElem_cons_succ, List.getElem_cons_zero])
                have d0 := hbx.cell (i := 0) rfl
                have e0 := hbx.free 0
                go_simp
                have hfin := hq.box hbw.1 hbw.2.1 hbw.2.2 hbx (by decide) (.slice xa NN.length xc)
                have hS := hfin.cell
                refine hK.out _ _ hS (fun hHeld => ?_)
                clear hK K
                refine wpAnyH_take (i := 15) (v := ?_) rfl (by kernel_rfl) (by kernel_rfl) (by kernel_rfl) (fun _ _ _ h => h) (Or.inl ⟨by rfl, ?_⟩) (by assumption) ?_
                rotate_left
                · intro wq hSw
                  (try dsimp only at hSw)
                  (try simp only [List.getElem_toArray, List.getElem_cons_succ, List.getElem_cons_zero])
                  go_simp
                  (try with_reducible rfl)
                simp only [Act.put, List.getElem_toArray, List.getElem_cons_succ, List.getElem_cons_zero, List.setIfInBounds_toArray, List.set_cons_zero, List.set_cons_succ]
                refine wpAnyH_done (by kernel_rfl) ?_ _
                go_wp2
                go_meet
                exact ⟨bx, rfl, hfin.mono (by omega), hbw.1, hbw.2.1, hbw.2.2, xa, xc, NN, hbx.set 0 _, ho.far (ho.not_box hbx (by decide)) 0 _, hok3⟩
          · intro K hK
            (try simp only [List.getElem_toArray, List.getElem_cons_succ, List.getElem_cons_zero])
            go_simp
            go_at_call 43
            refine (bytes_any 5 hq.rw.1 (by omega) (by omega)).mono ?_
            rintro e X2 ⟨s, rfl, hs5, hr, hg⟩
            have hq := hq.next hr hg
            have hS := hq.cell
            obtain ⟨T, hTs, hadd⟩ := add_one b s (by omega)
            refine hK.out _ _ hS (fun hHeld => ?_)
            clear hK K
            clear hr hg
            refine wpAnyH_ready (rs := [4, 13]) (by kernel_rfl) (by simp) ?_
            refine AllReadyH.cons rfl ?_ (AllReadyH.cons rfl ?_ AllReadyH.nil)
            · intro K hK
              (try simp only [List.getElem_toArray, List.getElem_cons_succ, List.getElem_cons_zero])
              go_simp
              have hsl := BK.new X2 #[.int .u8 (b.toNat : Int)] 5
              obtain ⟨sb, hsbe⟩ : ∃ sb, sb = X2.heap.size := ⟨_, rfl⟩
              rw [← hsbe] at hsl
              have hsbw : w.heap.size ≤ sb := by have := hq.sz; omega
              have hq := hq.alloc (.cells #[.int .u8 (b.toNat : Int)] 5)
              have hS := hq.cell
              (try simp only [World.size_alloc] at hsbe)
              rw [← hsbe]
              refine hK.out _ _ hS (fun hHeld => ?_)
              clear hK K
              clear hsbe
              refine wpAnyH_ready (rs := [5, 13]) (by kernel_rfl) (by simp) ?_
              refine AllReadyH.cons rfl ?_ (AllReadyH.cons rfl ?_ AllReadyH.nil)
              · intro K hK
                (try simp only [List.getElem_toArray, List.getElem_cons_succ, List.getElem_cons_zero])
                have hcv := run_string_blk hsl
                go_simp
                refine hK.out _ _ hS (fun hHeld => ?_)
                clear hK K
                clear hcv
                refine wpAnyH_take (i := 8) (v := ?_) rfl (by kernel_rfl) (by kernel_rfl) (by kernel_rfl) (fun _ _ _ h => h) (Or.inl ⟨by rfl, ?_⟩) (by assumption) ?_
                rotate_left
                · intro wq hSw
                  (try dsimp only at hSw)
                  (try simp only [List.getElem_toArray, List.getElem_cons_succ, List.getElem_cons_zero])
                  go_simp
                  (try with_reducible rfl)
                simp only [Act.put, List.getElem_toArray, List.getElem_cons_succ, List.getElem_cons_zero, List.setIfInBounds_toArray, List.set_cons_zero, List.set_cons_succ]
                refine wpAnyH_ready (rs := [9, 13]) (by kernel_rfl) (by simp) ?_
                refine AllReadyH.cons rfl ?_ (AllReadyH.cons rfl ?_ AllReadyH.nil)
                · intro K hK
                  (try simp only [List.getElem_toArray, List.getElem_cons_succ, List.getElem_cons_zero])
                  go_simp
                  go_at_call 17
                  refine (specTake_any _ ss T _ _ hq.os.reads (Nat.le_refl _) HOK.out (by omega)).mono ?_
                  rintro e X3 ⟨v3, u3, rfl, ho, _, hb3⟩
                  obtain ⟨xa, xc, rfl⟩ := ho.reads.shape
                  have ho := ho.mono (base' := w.heap.size) hq.sz
                  have hok3 := muxSB_strs (takeOpen_ok (show muxOkB (txts ss) = true by rw [muxSB_txts]; exact HOK.out) T.data.toList)
                  generalize strs (takeOpen (txts ss) T.data.toList) = NN at ho hok3 ⊢
                  have hq := hq.from hb3
                  have hS := hq.cell
                  refine hK.out _ _ hS (fun hHeld => ?_)
                  clear hK K
                  clear hb3
                  refine wpAnyH_take (i := 10) (v := ?_) rfl (by kernel_rfl) (by kernel_rfl) (by kernel_rfl) (fun _ _ _ h => h) (Or.inl ⟨by rfl, ?_⟩) (by assumption) ?_
                  rotate_left
                  · intro wq hSw
                    (try dsimp only at hSw)
                    (try simp only [List.getElem_toArray, List.getElem_cons_succ, List.getElem_cons_zero])
                    go_simp
                    (try with_reducible rfl)
                  simp only [Act.put, List.getElem_toArray, List.getElem_cons_succ, List.getElem_cons_zero, List.setIfInBounds_toArray, List.set_cons_zero, List.set_cons_succ]
                  refine wpAnyH_take (i := 11) (v := ?_) rfl (by kernel_rfl) (by kernel_rfl) (by kernel_rfl) (fun _ _ _ h => h) (Or.inl ⟨by rfl, ?_⟩) (by assumption) ?_
                  rotate_left
                  · intro wq hSw
                    (try dsimp only at hSw)
                    (try simp only [List.getElem_toArray, List.getElem_cons_succ, List.getElem_cons_zero])
                    go_simp
                    (try with_reducible rfl)
                  simp only [Act.put, List.getElem_toArray, List.getElem_cons_succ, List.getElem_cons_zero, List.setIfInBounds_toArray, List.set_cons_zero, List.set_cons_succ]
                  refine wpAnyH_take (i := 12) (v := ?_) rfl (by kernel_rfl) (by kernel_rfl) (by kernel_rfl) (fun _ _ _ h => h) (Or.inl ⟨by rfl, ?_⟩) (by assumption) ?_
                  rotate_left
                  · intro wq hSw
                    (try dsimp only at hSw)
                    (try simp only [List.getElem_toArray, List.getElem_cons_succ, List.getElem_cons_zero])
                    go_simp
                    (try with_reducible rfl)
                  simp only [Act.put, List.getElem_toArray, List.getElem_cons_succ, List.getElem_cons_zero, List.setIfInBounds_toArray, List.set_cons_zero, List.set_cons_succ]
                  refine wpAnyH_ready (rs := [13]) (by kernel_rfl) (by simp) ?_
                  refine AllReadyH.cons rfl ?_ AllReadyH.nil
                  intro K hK
                  (try simp only [List.getElem_toArray, List.getElem_cons_succ, List.getElem_cons_zero])
                  go_simp
                  have hbx := BK.new X3 #[.slice none 0 0] 35
                  obtain ⟨bx, hbxe⟩ : ∃ bx, bx = X3.heap.size := ⟨_, rfl⟩
                  rw [← hbxe] at hbx
                  have hbw : w.heap.size ≤ bx ∧ bx ≠ w1.heap.size ∧ bx ≠ w.heap.size := by have := hq.sz; have := hq.ms; have := hq.rs; omega
                  have hsl := hsl.alloc (.cells #[.slice none 0 0] 35)
                  have ho := ho.alloc (.cells #[.slice none 0 0] 35)
                  have hq := hq.alloc (.cells #[.slice none 0 0] 35)
                  have hS := hq.cell
                  (try simp only [World.size_alloc] at hbxe)
                  rw [← hbxe]
                  refine hK.out _ _ hS (fun hHeld => ?_)
                  clear hK K
                  clear hbxe
                  refine wpAnyH_ready (rs := [14]) (by kernel_rfl) (by simp) ?_
                  refine AllReadyH.cons rfl ?_ AllReadyH.nil
                  intro K hK
                  (try simp only [List.getElem_toArray, List.getElem_cons_succ, List.getElem_cons_zero])
                  have d0 := hbx.cell (i := 0) rfl
                  have e0 := hbx.free 0
                  go_simp
                  have hfin := hq.box hbw.1 hbw.2.1 hbw.2.2 hbx (by decide) (.slice xa NN.length xc)
                  have hS := hfin.cell
                  refine hK.out _ _ hS (fun hHeld => ?_)
                  clear hK K
                  refine wpAnyH_take (i := 15) (v := ?_) rfl (by kernel_rfl) (by kernel_rfl) (by kernel_rfl) (fun _ _ _ h => h) (Or.inl ⟨by rfl, ?_⟩) (by assumption) ?_
                  rotate_left
                  · intro wq hSw
                    (try dsimp only at hSw)
                    (try simp only [List.getElem_toArray, List.getElem_cons_succ, List.getElem_cons_zero])
                    go_simp
                    (try with_reducible rfl)
                  simp only [Act.put, List.getElem_toArray, List.getElem_cons_succ, List.getElem_cons_zero, List.setIfInBounds_toArray, List.set_cons_zero, List.set_cons_succ]
                  refine wpAnyH_done (by kernel_rfl) ?_ _
                  go_wp2
                  go_meet
                  exact ⟨bx, rfl, hfin.mono (by omega), hbw.1, hbw.2.1, hbw.2.2, xa, xc, NN, hbx.set 0 _, ho.far (ho.not_box hbx (by decide)) 0 _, hok3⟩
                · intro K hK
                  (try simp only [List.getElem_toArray, List.getElem_cons_succ, List.getElem_cons_zero])
                  go_simp
                  have hbx := BK.new (X2.alloc (.cells #[.int .u8 (b.toNat : Int)] 5)) #[.slice none 0 0] 35
                  obtain ⟨bx, hbxe⟩ : ∃ bx, bx = (X2.alloc (.cells #[.int .u8 (b.toNat : Int)] 5)).heap.size := ⟨_, rfl⟩
                  rw [← hbxe] at hbx
                  have hbw : w.heap.size ≤ bx ∧ bx ≠ w1.heap.size ∧ bx ≠ w.heap.size := by have := hq.sz; have := hq.ms; have := hq.rs; omega
                  have hsl := hsl.alloc (.cells #[.slice none 0 0] 35)
                  have hq := hq.alloc (.cells #[.slice none 0 0] 35)
                  have hS := hq.cell
                  (try simp only [World.size_alloc] at hbxe)
                  rw [← hbxe]
                  refine hK.out _ _ hS (fun hHeld => ?_)
                  clear hK K
                  clear hbxe
                  refine wpAnyH_ready (rs := [9]) (by kernel_rfl) (by simp) ?_
                  refine AllReadyH.cons rfl ?_ AllReadyH.nil
                  intro K hK
                  (try simp only [List.getElem_toArray, List.getElem_cons_succ, List.getElem_cons_zero])
                  go_simp
                  go_at_call 17
                  refine (specTake_any _ ss T _ _ hq.os.reads (Nat.le_refl _) HOK.out (by omega)).mono ?_
                  rintro e X3 ⟨v3, u3, rfl, ho, _, hb3⟩
                  obtain ⟨xa, xc, rfl⟩ := ho.reads.shape
                  have ho := ho.mono (base' := w.heap.size) hq.sz
                  have hok3 := muxSB_strs (takeOpen_ok (show muxOkB (txts ss) = true by rw [muxSB_txts]; exact HOK.out) T.data.toList)
                  generalize strs (takeOpen (txts ss) T.data.toList) = NN at ho hok3 ⊢
                  have hbx := hbx.from hb3
                  have hq := hq.from hb3
                  have hS := hq.cell
                  refine hK.out _ _ hS (fun hHeld => ?_)
                  clear hK K
                  clear hb3
                  refine wpAnyH_take (i := 10) (v := ?_) rfl (by kernel_rfl) (by kernel_rfl) (by kernel_rfl) (fun _ _ _ h => h) (Or.inl ⟨by rfl, ?_⟩) (by assumption) ?_
                  rotate_left
                  · intro wq hSw
                    (try dsimp only at hSw)
                    (try simp only [List.getElem_toArray, List.getElem_cons_succ, List.getElem_cons_zero])
                    go_simp
                    (try with_reducible rfl)
                  simp only [Act.put, List.getElem_toArray, List.getElem_cons_succ, List.getElem_cons_zero, List.setIfInBounds_toArray, List.set_cons_zero, List.set_cons_succ]
                  refine wpAnyH_take (i := 11) (v := ?_) rfl (by kernel_rfl) (by kernel_rfl) (by kernel_rfl) (fun _ _ _ h => h) (Or.inl ⟨by rfl, ?_⟩) (by assumption) ?_
                  rotate_left
                  · intro wq hSw
                    (try dsimp only at hSw)
                    (try simp only [List.getElem_toArray, List.getElem_cons_succ, List.getElem_cons_zero])
                    go_simp
                    (try with_reducible rfl)
                  simp only [Act.put, List.getElem_toArray, List.getElem_cons_succ, List.getElem_cons_zero, List.setIfInBounds_toArray, List.set_cons_zero, List.set_cons_succ]
                  refine wpAnyH_take (i := 12) (v := ?_) rfl (by kernel_rfl) (by kernel_rfl) (by kernel_rfl) (fun _ _ _ h => h) (Or.inl ⟨by rfl, ?_⟩) (by assumption) ?_
                  rotate_left
                  · intro wq hSw
                    (try dsimp only at hSw)
                    (try simp only [List.getElem_toArray, List.getElem_cons_succ, List.getElem_cons_zero])
                    go_simp
                    (try with_reducible rfl)
                  simp only [Act.put, List.getElem_toArray, List.getElem_cons_succ, List.getElem_cons_zero, List.setIfInBounds_toArray, List.set_cons_zero, List.set_cons_succ]
                  refine wpAnyH_ready (rs := [14]) (by kernel_rfl) (by simp) ?_
                  refine AllReadyH.cons rfl ?_ AllReadyH.nil
                  intro K hK
                  (try simp only [List.getElem_toArray, List.getElem_cons_succ, List.getElem_cons_zero])
                  have d0 := hbx.cell (i := 0) rfl
                  have e0 := hbx.free 0
                  go_simp
                  have hfin := hq.box hbw.1 hbw.2.1 hbw.2.2 hbx (by decide) (.slice xa NN.length xc)
                  have hS := hfin.cell
                  refine hK.out _ _ hS (fun hHeld => ?_)
                  clear hK K
                  refine wpAnyH_take (i := 15) (v := ?_) rfl (by kernel_rfl) (by kernel_rfl) (by kernel_rfl) (fun _ _ _ h => h) (Or.inl ⟨by rfl, ?_⟩) (by assumption) ?_
                  rotate_left
                  · intro wq hSw
                    (try dsimp only at hSw)
                    (try simp only [List.getElem_toArray, List.getElem_cons_succ, List.getElem_cons_zero])
                    go_simp
                    (try with_reducible rfl)
                  simp only [Act.put, List.getElem_toArray, List.getElem_cons_succ, List.getElem_cons_zero, List.setIfInBounds_toArray, List.set_cons_zero, List.set_cons_succ]
                  refine wpAnyH_done (by kernel_rfl) ?_ _
                  go_wp2
                  go_meet
                  exact ⟨bx, rfl, hfin.mono (by omega), hbw.1, hbw.2.1, hbw.2.2, xa, xc, NN, hbx.set 0 _, ho.far (ho.not_box hbx (by decide)) 0 _, hok3⟩
              · intro K hK
                (try simp only [List.getElem_toArray, List.getElem_cons_succ, List.getElem_cons_zero])
                go_simp
                have hbx := BK.new (X2.alloc (.cells #[.int .u8 (b.toNat : Int)] 5)) #[.slice none 0 0] 35
                obtain ⟨bx, hbxe⟩ : ∃ bx, bx = (X2.alloc (.cells #[.int .u8 (b.toNat : Int)] 5)).heap.size := ⟨_, rfl⟩
                rw [← hbxe] at hbx
                have hbw : w.heap.size ≤ bx ∧ bx ≠ w1.heap.size ∧ bx ≠ w.heap.size := by have := hq.sz; have := hq.ms; have := hq.rs; omega
                have hsl := hsl.alloc (.cells #[.slice none 0 0] 35)
                have hq := hq.alloc (.cells #[.slice none 0 0] 35)
                have hS := hq.cell
                (try simp only [World.size_alloc] at hbxe)
                rw [← hbxe]
                refine hK.out _ _ hS (fun hHeld => ?_)
                clear hK K
                clear hbxe
                refine wpAnyH_ready (rs := [5]) (by kernel_rfl) (by simp) ?_
                refine AllReadyH.cons rfl ?_ AllReadyH.nil
                intro K hK
                (try simp only [List.getElem_toArray, List.getElem_cons_succ, List.getElem_cons_zero])
                have hcv := run_string_blk hsl
                go_simp
                refine hK.out _ _ hS (fun hHeld => ?_)
                clear hK K
                clear hcv
                refine wpAnyH_take (i := 8) (v := ?_) rfl (by kernel_rfl) (by kernel_rfl) (by kernel_rfl) (fun _ _ _ h => h) (Or.inl ⟨by rfl, ?_⟩) (by assumption) ?_
                rotate_left
                · intro wq hSw
                  (try dsimp only at hSw)
                  (try simp only [List.getElem_toArray, List.getElem_cons_succ, List.getElem_cons_zero])
                  go_simp
                  (try with_reducible rfl)
                simp only [Act.put, List.getElem_toArray, List.getElem_cons_succ, List.getElem_cons_zero, List.setIfInBounds_toArray, List.set_cons_zero, List.set_cons_succ]
                refine wpAnyH_ready (rs := [9]) (by kernel_rfl) (by simp) ?_
                refine AllReadyH.cons rfl ?_ AllReadyH.nil
                intro K hK
                (try simp only [List.getElem_toArray, List.getElem_cons_succ, List.getElem_cons_zero])
                go_simp
                go_at_call 17
                refine (specTake_any _ ss T _ _ hq.os.reads (Nat.le_refl _) HOK.out (by omega)).mono ?_
                rintro e X3 ⟨v3, u3, rfl, ho, _, hb3⟩
                obtain ⟨xa, xc, rfl⟩ := ho.reads.shape
                have ho := ho.mono (base' := w.heap.size) hq.sz
                have hok3 := muxSB_strs (takeOpen_ok (show muxOkB (txts ss) = true by rw [muxSB_txts]; exact HOK.out) T.data.toList)
                generalize strs (takeOpen (txts ss) T.data.toList) = NN at ho hok3 ⊢
                have hbx := hbx.from hb3
                have hq := hq.from hb3
                have hS := hq.cell
                refine hK.out _ _ hS (fun hHeld => ?_)
                clear hK K
                clear hb3
                refine wpAnyH_take (i := 10) (v := ?_) rfl (by kernel_rfl) (by kernel_rfl) (by kernel_rfl) (fun _ _ _ h => h) (Or.inl ⟨by rfl, ?_⟩) (by assumption) ?_
                rotate_left
                · intro wq hSw
                  (try dsimp only at hSw)
                  (try simp only [List.getElem_toArray, List.getElem_cons_succ, List.getElem_cons_zero])
                  go_simp
                  (try with_reducible rfl)
                simp only [Act.put, List.getElem_toArray, List.getElem_cons_succ, List.getElem_cons_zero, List.setIfInBounds_toArray, List.set_cons_zero, List.set_cons_succ]
                refine wpAnyH_take (i := 11) (v := ?_) rfl (by kernel_rfl) (by kernel_rfl) (by kernel_rfl) (fun _ _ _ h => h) (Or.inl ⟨by rfl, ?_⟩) (by assumption) ?_
                rotate_left
                · intro wq hSw
                  (try dsimp only at hSw)
                  (try simp only [List.getElem_toArray, List.getElem_cons_succ, List.getElem_cons_zero])
                  go_simp
                  (try with_reducible rfl)
                simp only [Act.put, List.getElem_toArray, List.getElem_cons_succ, List.getElem_cons_zero, List.setIfInBounds_toArray, List.set_cons_zero, List.set_cons_succ]
                refine wpAnyH_take (i := 12) (v := ?_) rfl (by kernel_rfl) (by kernel_rfl) (by kernel_rfl) (fun _ _ _ h => h) (Or.inl ⟨by rfl, ?_⟩) (by assumption) ?_
                rotate_left
                · intro wq hSw
                  (try dsimp only at hSw)
                  (try simp only [List.getElem_toArray, List.getElem_cons_succ, List.getElem_cons_zero])
                  go_simp
                  (try with_reducible rfl)
                simp only [Act.put, List.getElem_toArray, List.getElem_cons_succ, List.getElem_cons_zero, List.setIfInBounds_toArray, List.set_cons_zero, List.set_cons_succ]
                refine wpAnyH_ready (rs := [14]) (by kernel_rfl) (by simp) ?_
                refine AllReadyH.cons rfl ?_ AllReadyH.nil
                intro K hK
                (try simp only [List.getElem_toArray, List.getElem_cons_succ, List.getElem_cons_zero])
                have d0 := hbx.cell (i := 0) rfl
                have e0 := hbx.free 0
                go_simp
                have hfin := hq.box hbw.1 hbw.2.1 hbw.2.2 hbx (by decide) (.slice xa NN.length xc)
                have hS := hfin.cell
                refine hK.out _ _ hS (fun hHeld => ?_)
                clear hK K
                refine wpAnyH_take (i := 15) (v := ?_) rfl (by kernel_rfl) (by kernel_rfl) (by kernel_rfl) (fun _ _ _ h => h) (Or.inl ⟨by rfl, ?_⟩) (by assumption) ?_
                rotate_left
                · intro wq hSw
                  (try dsimp only at hSw)
                  (try simp only [List.getElem_toArray, List.getElem_cons_succ, List.getElem_cons_zero])
                  go_simp
                  (try with_reducible rfl)
                simp only [Act.put, List.getElem_toArray, List.getElem_cons_succ, List.getElem_cons_zero, List.setIfInBounds_toArray, List.set_cons_zero, List.set_cons_succ]
                refine wpAnyH_done (by kernel_rfl) ?_ _
                go_wp2
                go_meet
                exact ⟨bx, rfl, hfin.mono (by omega), hbw.1, hbw.2.1, hbw.2.2, xa, xc, NN, hbx.set 0 _, ho.far (ho.not_box hbx (by decide)) 0 _, hok3⟩
            · intro K hK
              (try simp only [List.getElem_toArray, List.getElem_cons_succ, List.getElem_cons_zero])
              go_simp
              have hbx := BK.new X2 #[.slice none 0 0] 35
              obtain ⟨bx, hbxe⟩ : ∃ bx, bx = X2.heap.size := ⟨_, rfl⟩
              rw [← hbxe] at hbx
              have hbw : w.heap.size ≤ bx ∧ bx ≠ w1.heap.size ∧ bx ≠ w.heap.size := by have := hq.sz; have := hq.ms; have := hq.rs; omega
              have hq := hq.alloc (.cells #[.slice none 0 0] 35)
              have hS := hq.cell
              (try simp only [World.size_alloc] at hbxe)
              rw [← hbxe]
              refine hK.out _ _ hS (fun hHeld => ?_)
              clear hK K
              clear hbxe
              refine wpAnyH_ready (rs := [4]) (by kernel_rfl) (by simp) ?_
              refine AllReadyH.cons rfl ?_ AllReadyH.nil
              intro K hK
              (try simp only [List.getElem_toArray, List.getElem_cons_succ, List.getElem_cons_zero])
              go_simp
              have hsl := BK.new (X2.alloc (.cells #[.slice none 0 0] 35)) #[.int .u8 (b.toNat : Int)] 5
              obtain ⟨sb, hsbe⟩ : ∃ sb, sb = (X2.alloc (.cells #[.slice none 0 0] 35)).heap.size := ⟨_, rfl⟩
              rw [← hsbe] at hsl
              have hbx := hbx.alloc (.cells #[.int .u8 (b.toNat : Int)] 5)
              have hsbw : w.heap.size ≤ sb := by have := hq.sz; omega
              have hq := hq.alloc (.cells #[.int .u8 (b.toNat : Int)] 5)
              have hS := hq.cell
              (try simp only [World.size_alloc] at hsbe)
              rw [← hsbe]
              refine hK.out _ _ hS (fun hHeld => ?_)
              clear hK K
              clear hsbe
              refine wpAnyH_ready (rs := [5]) (by kernel_rfl) (by simp) ?_
              refine AllReadyH.cons rfl ?_ AllReadyH.nil
              intro K hK
              (try simp only [List.getElem_toArray, List.getElem_cons_succ, List.getElem_cons_zero])
              have hcv := run_string_blk hsl
              go_simp
              refine hK.out _ _ hS (fun hHeld => ?_)
              clear hK K
              clear hcv
              refine wpAnyH_take (i := 8) (v := ?_) rfl (by kernel_rfl) (by kernel_rfl) (by kernel_rfl) (fun _ _ _ h => h) (Or.inl ⟨by rfl, ?_⟩) (by assumption) ?_
              rotate_left
              · intro wq hSw
                (try dsimp only at hSw)
                (try simp only [List.getElem_toArray, List.getElem_cons_succ, List.getElem_cons_zero])
                go_simp
                (try with_reducible rfl)
              simp only [Act.put, List.getElem_toArray, List.getElem_cons_succ, List.getElem_cons_zero, List.setIfInBounds_toArray, List.set_cons_zero, List.set_cons_succ]
              refine wpAnyH_ready (rs := [9]) (by kernel_rfl) (by simp) ?_
              refine AllReadyH.cons rfl ?_ AllReadyH.nil
              intro K hK
              (try simp only [List.getElem_toArray, List.getElem_cons_succ, List.getElem_cons_zero])
              go_simp
              go_at_call 17
              refine (specTake_any _ ss T _ _ hq.os.reads (Nat.le_refl _) HOK.out (by omega)).mono ?_
              rintro e X3 ⟨v3, u3, rfl, ho, _, hb3⟩
              obtain ⟨xa, xc, rfl⟩ := ho.reads.shape
              have ho := ho.mono (base' := w.heap.size) hq.sz
              have hok3 := muxSB_strs (takeOpen_ok (show muxOkB (txts ss) = true by rw [muxSB_txts]; exact HOK.out) T.data.toList)
              generalize strs (takeOpen (txts ss) T.data.toList) = NN at ho hok3 ⊢
              have hbx := hbx.from hb3
              have hq := hq.from hb3
              have hS := hq.cell
              refine hK.out _ _ hS (fun hHeld => ?_)
              clear hK K
              clear hb3
              refine wpAnyH_take (i := 10) (v := ?_) rfl (by kernel_rfl) (by kernel_rfl) (by kernel_rfl) (fun _ _ _ h => h) (Or.inl ⟨by rfl, ?_⟩) (by assumption) ?_
              rotate_left
              · intro wq hSw
                (try dsimp only at hSw)
                (try simp only [List.getElem_toArray, List.getElem_cons_succ, List.getElem_cons_zero])
                go_simp
                (try with_reducible rfl)
              simp only [Act.put, List.getElem_toArray, List.getElem_cons_succ, List.getElem_cons_zero, List.setIfInBounds_toArray, List.set_cons_zero, List.set_cons_succ]
              refine wpAnyH_take (i := 11) (v := ?_) rfl (by kernel_rfl) (by kernel_rfl) (by kernel_rfl) (fun _ _ _ h => h) (Or.inl ⟨by rfl, ?_⟩) (by assumption) ?_
              rotate_left
              · intro wq hSw
                (try dsimp only at hSw)
                (try simp only [List.getElem_toArray, List.getElem_cons_succ, List.getElem_cons_zero])
                go_simp
                (try with_reducible rfl)
              simp only [Act.put, List.getElem_toArray, List.getElem_cons_succ, List.getElem_cons_zero, List.setIfInBounds_toArray, List.set_cons_zero, List.set_cons_succ]
              refine wpAnyH_take (i := 12) (v := ?_) rfl (by kernel_rfl) (by kernel_rfl) (by kernel_rfl) (fun _ _ _ h => h) (Or.inl ⟨by rfl, ?_⟩) (by assumption) ?_
              rotate_left
              · intro wq hSw
                (try dsimp only at hSw)
                (try simp only [List.getElem_toArray, List.getElem_cons_succ, List.getElem_cons_zero])
                go_simp
                (try with_reducible rfl)
              simp only [Act.put, List.getElem_toArray, List.getElem_cons_succ, List.getElem_cons_zero, List.setIfInBounds_toArray, List.set_cons_zero, List.set_cons_succ]
              refine wpAnyH_ready (rs := [14]) (by kernel_rfl) (by simp) ?_
              refine AllReadyH.cons rfl ?_ AllReadyH.nil
              intro K hK
              (try simp only [List.getElem_toArray, List.getElem_cons_succ, List.getElem_cons_zero])
              have d0 := hbx.cell (i := 0) rfl
              have e0 := hbx.free 0
              go_simp
              have hfin := hq.box hbw.1 hbw.2.1 hbw.2.2 hbx (by decide) (.slice xa NN.length xc)
              have hS := hfin.cell
              refine hK.out _ _ hS (fun hHeld => ?_)
              clear hK K
              refine wpAnyH_take (i := 15) (v := ?_) rfl (by kernel_rfl) (by kernel_rfl) (by kernel_rfl) (fun _ _ _ h => h) (Or.inl ⟨by rfl, ?_⟩) (by assumption) ?_
              rotate_left
              · intro wq hSw
                (try dsimp only at hSw)
                (try simp only [List.getElem_toArray, List.getElem_cons_succ, List.getElem_cons_zero])
                go_simp
                (try with_reducible rfl)
              simp only [Act.put, List.getElem_toArray, List.getElem_cons_succ, List.getElem_cons_zero, List.setIfInBounds_toArray, List.set_cons_zero, List.set_cons_succ]
              refine wpAnyH_done (by kernel_rfl) ?_ _
              go_wp2
              go_meet
              exact ⟨bx, rfl, hfin.mono (by omega), hbw.1, hbw.2.1, hbw.2.2, xa, xc, NN, hbx.set 0 _, ho.far (ho.not_box hbx (by decide)) 0 _, hok3⟩
          · intro K hK
            (try simp only [List.getElem_toArray, List.getElem_cons_succ, List.getElem_cons_zero])
            go_simp
            have hbx := BK.new X1 #[.slice none 0 0] 35
            obtain ⟨bx, hbxe⟩ : ∃ bx, bx = X1.heap.size := ⟨_, rfl⟩
            rw [← hbxe] at hbx
            have hbw : w.heap.size ≤ bx ∧ bx ≠ w1.heap.size ∧ bx ≠ w.heap.size := by have := hq.sz; have := hq.ms; have := hq.rs; omega
            have hq := hq.alloc (.cells #[.slice none 0 0] 35)
            have hS := hq.cell
            (try simp only [World.size_alloc] at hbxe)
            rw [← hbxe]
            refine hK.out _ _ hS (fun hHeld => ?_)
            clear hK K
            clear hbxe
            refine wpAnyH_ready (rs := [4, 7]) (by kernel_rfl) (by simp) ?_
            refine AllReadyH.cons rfl ?_ (AllReadyH.cons rfl ?_ AllReadyH.nil)
            · intro K hK
              (try simp only [List.getElem_toArray, List.getElem_cons_succ, List.getElem_cons_zero])
              go_simp
              have hsl := BK.new (X1.alloc (.cells #[.slice none 0 0] 35)) #[.int .u8 (b.toNat : Int)] 5
              obtain ⟨sb, hsbe⟩ : ∃ sb, sb = (X1.alloc (.cells #[.slice none 0 0] 35)).heap.size := ⟨_, rfl⟩
              rw [← hsbe] at hsl
              have hbx := hbx.alloc (.cells #[.int .u8 (b.toNat : Int)] 5)
              have hsbw : w.heap.size ≤ sb := by have := hq.sz; omega
              have hq := hq.alloc (.cells #[.int .u8 (b.toNat : Int)] 5)
              have hS := hq.cell
              (try simp only [World.size_alloc] at hsbe)
              rw [← hsbe]
              refine hK.out _ _ hS (fun hHeld => ?_)
              clear hK K
              clear hsbe
              refine wpAnyH_ready (rs := [5, 7]) (by kernel_rfl) (by simp) ?_
              refine AllReadyH.cons rfl ?_ (AllReadyH.cons rfl ?_ AllReadyH.nil)
              · intro K hK
                (try simp only [List.getElem_toArray, List.getElem_cons_succ, List.getElem_cons_zero])
                have hcv := run_string_blk hsl
                go_simp
                refine hK.out _ _ hS (fun hHeld => ?_)
                clear hK K
                clear hcv
                refine wpAnyH_ready (rs := [7]) (by kernel_rfl) (by simp) ?_
                refine AllReadyH.cons rfl ?_ AllReadyH.nil
                intro K hK
                (try simp only [List.getElem_toArray, List.getElem_cons_succ, List.getElem_cons_zero])
                go_simp
                go_at_call 43
                refine (bytes_any 5 hq.rw.1 (by omega) (by omega)).mono ?_
                rintro e X2 ⟨s, rfl, hs5, hr, hg⟩
                have hbx := hbx.next hg (by have := hq.rw.2.2; omega)
                have hsl := hsl.next hg (by have := hq.rw.2.2; omega)
                have hq := hq.next hr hg
                have hS := hq.cell
                obtain ⟨T, hTs, hadd⟩ := add_one b s (by omega)
                refine hK.out _ _ hS (fun hHeld => ?_)
                clear hK K
                clear hr hg
                refine wpAnyH_take (i := 8) (v := ?_) rfl (by kernel_rfl) (by kernel_rfl) (by kernel_rfl) (fun _ _ _ h => h) (Or.inl ⟨by rfl, ?_⟩) (by assumption) ?_
                rotate_left
                · intro wq hSw
                  (try dsimp only at hSw)
                  (try simp only [List.getElem_toArray, List.getElem_cons_succ, List.getElem_cons_zero])
                  go_simp
                  (try with_reducible rfl)
                simp only [Act.put, List.getElem_toArray, List.getElem_cons_succ, List.getElem_cons_zero, List.setIfInBounds_toArray, List.set_cons_zero, List.set_cons_succ]
                refine wpAnyH_ready (rs := [9]) (by kernel_rfl) (by simp) ?_
                refine AllReadyH.cons rfl ?_ AllReadyH.nil
                intro K hK
                (try simp only [List.getElem_toArray, List.getElem_cons_succ, List.getElem_cons_zero])
                go_simp
                go_at_call 17
                refine (specTake_any _ ss T _ _ hq.os.reads (Nat.le_refl _) HOK.out (by omega)).mono ?_
                rintro e X3 ⟨v3, u3, rfl, ho, _, hb3⟩
                obtain ⟨xa, xc, rfl⟩ := ho.reads.shape
                have ho := ho.mono (base' := w.heap.size) hq.sz
                have hok3 := muxSB_strs (takeOpen_ok (show muxOkB (txts ss) = true by rw [muxSB_txts]; exact HOK.out) T.data.toList)
                generalize strs (takeOpen (txts ss) T.data.toList) = NN at ho hok3 ⊢
                have hbx := hbx.from hb3
                have hq := hq.from hb3
                have hS := hq.cell
                refine hK.out _ _ hS (fun hHeld => ?_)
                clear hK K
                clear hb3
                refine wpAnyH_take (i := 10) (v := ?_) rfl (by kernel_rfl) (by kernel_rfl) (by kernel_rfl) (fun _ _ _ h => h) (Or.inl ⟨by rfl, ?_⟩) (by assumption) ?_
                rotate_left
                · intro wq hSw
                  (try dsimp only at hSw)
                  (try simp only [List.getElem_toArray, List.getElem_cons_succ, List.getElem_cons_zero])
                  go_simp
                  (try with_reducible rfl)
                simp only [Act.put, List.getElem_toArray, List.getElem_cons_succ, List.getElem_cons_zero, List.setIfInBounds_toArray, List.set_cons_zero, List.set_cons_succ]
                refine wpAnyH_take (i := 11) (v := ?_) rfl (by kernel_rfl) (by kernel_rfl) (by kernel_rfl) (fun _ _ _ h => h) (Or.inl ⟨by rfl, ?_⟩) (by assumption) ?_
                rotate_left
                · intro wq hSw
                  (try dsimp only at hSw)
                  (try simp only [List.getElem_toArray, List.getElem_cons_succ, List.getElem_cons_zero])
                  go_simp
                  (try with_reducible rfl)
                simp only [Act.put, List.getElem_toArray, List.getElem_cons_succ, List.getElem_cons_zero, List.setIfInBounds_toArray, List.set_cons_zero, List.set_cons_succ]
                refine wpAnyH_take (i := 12) (v := ?_) rfl (by kernel_rfl) (by kernel_rfl) (by kernel_rfl) (fun _ _ _ h => h) (Or.inl ⟨by rfl, ?_⟩) (by assumption) ?_
                rotate_left
                · intro wq hSw
                  (try dsimp only at hSw)
                  (try simp only [List.getElem_toArray, List.getElem_cons_succ, List.getElem_cons_zero])
                  go_simp
                  (try with_reducible rfl)
                simp only [Act.put, List.getElem_toArray, List.getElem_cons_succ, List.getElem_cons_zero, List.setIfInBounds_toArray, List.set_cons_zero, List.set_cons_succ]
                refine wpAnyH_ready (rs := [14]) (by kernel_rfl) (by simp) ?_
                refine AllReadyH.cons rfl ?_ AllReadyH.nil
                intro K hK
                (try simp only [List.getElem_toArray, List.getElem_cons_succ, List.getElem_cons_zero])
                have d0 := hbx.cell (i := 0) rfl
                have e0 := hbx.free 0
                go_simp
                have hfin := hq.box hbw.1 hbw.2.1 hbw.2.2 hbx (by decide) (.slice xa NN.length xc)
                have hS := hfin.cell
                refine hK.out _ _ hS (fun hHeld => ?_)
                clear hK K
                refine wpAnyH_take (i := 15) (v := ?_) rfl (by kernel_rfl) (by kernel_rfl) (by kernel_rfl) (fun _ _ _ h => h) (Or.inl ⟨by rfl, ?_⟩) (by assumption) ?_
                rotate_left
                · intro wq hSw
                  (try dsimp only at hSw)
                  (try simp only [List.getElem_toArray, List.getElem_cons_succ, List.getElem_cons_zero])
                  go_simp
                  (try with_reducible rfl)
                simp only [Act.put, List.getElem_toArray, List.getElem_cons_succ, List.getElem_cons_zero, List.setIfInBounds_toArray, List.set_cons_zero, List.set_cons_succ]
                refine wpAnyH_done (by kernel_rfl) ?_ _
                go_wp2
                go_meet
                exact ⟨bx, rfl, hfin.mono (by omega), hbw.1, hbw.2.1, hbw.2.2, xa, xc, NN, hbx.set 0 _, ho.far (ho.not_box hbx (by decide)) 0 _, hok3⟩
              · intro K hK
                (try simp only [List.getElem_toArray, List.getElem_cons_succ, List.getElem_cons_zero])
                go_simp
                go_at_call 43
                refine (bytes_any 5 hq.rw.1 (by omega) (by omega)).mono ?_
                rintro e X2 ⟨s, rfl, hs5, hr, hg⟩
                have hbx := hbx.next hg (by have := hq.rw.2.2; omega)
                have hsl := hsl.next hg (by have := hq.rw.2.2; omega)
                have hq := hq.next hr hg
                have hS := hq.cell
                obtain ⟨T, hTs, hadd⟩ := add_one b s (by omega)
                refine hK.out _ _ hS (fun hHeld => ?_)
                clear hK K
                clear hr hg
                refine wpAnyH_ready (rs := [5]) (by kernel_rfl) (by simp) ?_
                refine AllReadyH.cons rfl ?_ AllReadyH.nil
                intro K hK
                (try simp only [List.getElem_toArray, List.getElem_cons_succ, List.getElem_cons_zero])
                have hcv := run_string_blk hsl
                go_simp
                refine hK.out _ _ hS (fun hHeld => ?_)
                clear hK K
                clear hcv
                refine wpAnyH_take (i := 8) (v := ?_) rfl (by kernel_rfl) (by kernel_rfl) (by kernel_rfl) (fun _ _ _ h => h) (Or.inl ⟨by rfl, ?_⟩) (by assumption) ?_
                rotate_left
                · intro wq hSw
                  (try dsimp only at hSw)
                  (try simp only [List.getElem_toArray, List.getElem_cons_succ, List.getElem_cons_zero])
                  go_simp
                  (try with_reducible rfl)
                simp only [Act.put, List.getElem_toArray, List.getElem_cons_succ, List.getElem_cons_zero, List.setIfInBounds_toArray, List.set_cons_zero, List.set_cons_succ]
                refine wpAnyH_ready (rs := [9]) (by kernel_rfl) (by simp) ?_
                refine AllReadyH.cons rfl ?_ AllReadyH.nil
                intro K hK
                (try simp only [List.getElem_toArray, List.getElem_cons_succ, List.getElem_cons_zero])
                go_simp
                go_at_call 17
                refine (specTake_any _ ss T _ _ hq.os.reads (Nat.le_refl _) HOK.out (by omega)).mono ?_
                rintro e X3 ⟨v3, u3, rfl, ho, _, hb3⟩
                obtain ⟨xa, xc, rfl⟩ := ho.reads.shape
                have ho := ho.mono (base' := w.heap.size) hq.sz
                have hok3 := muxSB_strs (takeOpen_ok (show muxOkB (txts ss) = true by rw [muxSB_txts]; exact HOK.out) T.data.toList)
                generalize strs (takeOpen (txts ss) T.data.toList) = NN at ho hok3 ⊢
                have hbx := hbx.from hb3
                have hq := hq.from hb3
                have hS := hq.cell
                refine hK.out _ _ hS (fun hHeld => ?_)
                clear hK K
                clear hb3
                refine wpAnyH_take (i := 10) (v := ?_) rfl (by kernel_rfl) (by kernel_rfl) (by kernel_rfl) (fun _ _ _ h => h) (Or.inl ⟨by rfl, ?_⟩) (by assumption) ?_
                rotate_left
                · intro wq hSw
                  (try dsimp only at hSw)
                  (try simp only [List.getElem_toArray, List.getElem_cons_succ, List.getElem_cons_zero])
                  go_simp
                  (try with_reducible rfl)
                simp only [Act.put, List.getElem_toArray, List.getElem_cons_succ, List.getElem_cons_zero, List.setIfInBounds_toArray, List.set_cons_zero, List.set_cons_succ]
                refine wpAnyH_take (i := 11) (v := ?_) rfl (by kernel_rfl) (by kernel_rfl) (by kernel_rfl) (fun _ _ _ h => h) (Or.inl ⟨by rfl, ?_⟩) (by assumption) ?_
                rotate_left
                · intro wq hSw
                  (try dsimp only at hSw)
                  (try simp only [List.getElem_toArray, List.getElem_cons_succ, List.getElem_cons_zero])
                  go_simp
                  (try with_reducible rfl)
                simp only [Act.put, List.getElem_toArray, List.getElem_cons_succ, List.getElem_cons_zero, List.setIfInBounds_toArray, List.set_cons_zero, List.set_cons_succ]
                refine wpAnyH_take (i := 12) (v := ?_) rfl (by kernel_rfl) (by kernel_rfl) (by kernel_rfl) (fun _ _ _ h => h) (Or.inl ⟨by rfl, ?_⟩) (by assumption) ?_
                rotate_left
                · intro wq hSw
                  (try dsimp only at hSw)
                  (try simp only [List.getElem_toArray, List.getElem_cons_succ, List.getElem_cons_zero])
                  go_simp
                  (try with_reducible rfl)
                simp only [Act.put, List.getElem_toArray, List.getElem_cons_succ, List.getElem_cons_zero, List.setIfInBounds_toArray, List.set_cons_zero, List.set_cons_succ]
                refine wpAnyH_ready (rs := [14]) (by kernel_rfl) (by simp) ?_
                refine AllReadyH.cons rfl ?_ AllReadyH.nil
                intro K hK
                (try simp only [List.getElem_toArray, List.getElem_cons_succ, List.getElem_cons_zero])
                have d0 := hbx.cell (i := 0) rfl
                have e0 := hbx.free 0
                go_simp
                have hfin := hq.box hbw.1 hbw.2.1 hbw.2.2 hbx (by decide) (.slice xa NN.length xc)
                have hS := hfin.cell
                refine hK.out _ _ hS (fun hHeld => ?_)
                clear hK K
                refine wpAnyH_take (i := 15) (v := ?_) rfl (by kernel_rfl) (by kernel_rfl) (by kernel_rfl) (fun _ _ _ h => h) (Or.inl ⟨by rfl, ?_⟩) (by assumption) ?_
                rotate_left
                · intro wq hSw
                  (try dsimp only at hSw)
                  (try simp only [List.getElem_toArray, List.getElem_cons_succ, List.getElem_cons_zero])
                  go_simp
                  (try with_reducible rfl)
                simp only [Act.put, List.getElem_toArray, List.getElem_cons_succ, List.getElem_cons_zero, List.setIfInBounds_toArray, List.set_cons_zero, List.set_cons_succ]
                refine wpAnyH_done (by kernel_rfl) ?_ _
                go_wp2
                go_meet
                exact ⟨bx, rfl, hfin.mono (by omega), hbw.1, hbw.2.1, hbw.2.2, xa, xc, NN, hbx.set 0 _, ho.far (ho.not_box hbx (by decide)) 0 _, hok3⟩
            · intro K hK
              (try simp only [List.getElem_toArray, List.getElem_cons_succ, List.getElem_cons_zero])
              go_simp
              go_at_call 43
              refine (bytes_any 5 hq.rw.1 (by omega) (by omega)).mono ?_
              rintro e X2 ⟨s, rfl, hs5, hr, hg⟩
              have hbx := hbx.next hg (by have := hq.rw.2.2; omega)
              have hq := hq.next hr hg
              have hS := hq.cell
              obtain ⟨T, hTs, hadd⟩ := add_one b s (by omega)
              refine hK.out _ _ hS (fun hHeld => ?_)
              clear hK K
              clear hr hg
              refine wpAnyH_ready (rs := [4]) (by kernel_rfl) (by simp) ?_
              refine AllReadyH.cons rfl ?_ AllReadyH.nil
              intro K hK
              (try simp only [List.getElem_toArray, List.getElem_cons_succ, List.getElem_cons_zero])
              go_simp
              have hsl := BK.new X2 #[.int .u8 (b.toNat : Int)] 5
              obtain ⟨sb, hsbe⟩ : ∃ sb, sb = X2.heap.size := ⟨_, rfl⟩
              rw [← hsbe] at hsl
              have hbx := hbx.alloc (.cells #[.int .u8 (b.toNat : Int)] 5)
              have hsbw : w.heap.size ≤ sb := by have := hq.sz; omega
              have hq := hq.alloc (.cells #[.int .u8 (b.toNat : Int)] 5)
              have hS := hq.cell
              (try simp only [World.size_alloc] at hsbe)
              rw [← hsbe]
              refine hK.out _ _ hS (fun hHeld => ?_)
              clear hK K
              clear hsbe
              refine wpAnyH_ready (rs := [5]) (by kernel_rfl) (by simp) ?_
              refine AllReadyH.cons rfl ?_ AllReadyH.nil
              intro K hK
              (try simp only [List.getElem_toArray, List.getElem_cons_succ, List.getElem_cons_zero])
              have hcv := run_string_blk hsl
              go_simp
              refine hK.out _ _ hS (fun hHeld => ?_)
              clear hK K
              clear hcv
              refine wpAnyH_take (i := 8) (v := ?_) rfl (by kernel_rfl) (by kernel_rfl) (by kernel_rfl) (fun _ _ _ h => h) (Or.inl ⟨by rfl, ?_⟩) (by assumption) ?_
              rotate_left
              · intro wq hSw
                (try dsimp only at hSw)
                (try simp only [List.getElem_toArray, List.getElem_cons_succ, List.getElem_cons_zero])
                go_simp
                (try with_reducible rfl)
              simp only [Act.put, List.getElem_toArray, List.getElem_cons_succ, List.getElem_cons_zero, List.setIfInBounds_toArray, List.set_cons_zero, List.set_cons_succ]
              refine wpAnyH_ready (rs := [9]) (by kernel_rfl) (by simp) ?_
              refine AllReadyH.cons rfl ?_ AllReadyH.nil
              intro K hK
              (try simp only [List.getElem_toArray, List.getElem_cons_succ, List.getElem_cons_zero])
              go_simp
              go_at_call 17
              refine (specTake_any _ ss T _ _ hq.os.reads (Nat.le_refl _) HOK.out (by omega)).mono ?_
              rintro e X3 ⟨v3, u3, rfl, ho, _, hb3⟩
              obtain ⟨xa, xc, rfl⟩ := ho.reads.shape
              have ho := ho.mono (base' := w.heap.size) hq.sz
              have hok3 := muxSB_strs (takeOpen_ok (show muxOkB (txts ss) = true by rw [muxSB_txts]; exact HOK.out) T.data.toList)
              generalize strs (takeOpen (txts ss) T.data.toList) = NN at ho hok3 ⊢
              have hbx := hbx.from hb3
              have hq := hq.from hb3
              have hS := hq.cell
              refine hK.out _ _ hS (fun hHeld => ?_)
              clear hK K
              clear hb3
              refine wpAnyH_take (i := 10) (v := ?_) rfl (by kernel_rfl) (by kernel_rfl) (by kernel_rfl) (fun _ _ _ h => h) (Or.inl ⟨by rfl, ?_⟩) (by assumption) ?_
              rotate_left
              · intro wq hSw
                (try dsimp only at hSw)
                (try simp only [List.getElem_toArray, List.getElem_cons_succ, List.getElem_cons_zero])
                go_simp
                (try with_reducible rfl)
              simp only [Act.put, List.getElem_toArray, List.getElem_cons_succ, List.getElem_cons_zero, List.setIfInBounds_toArray, List.set_cons_zero, List.set_cons_succ]
              refine wpAnyH_take (i := 11) (v := ?_) rfl (by kernel_rfl) (by kernel_rfl) (by kernel_rfl) (fun _ _ _ h => h) (Or.inl ⟨by rfl, ?_⟩) (by assumption) ?_
              rotate_left
              · intro wq hSw
                (try dsimp only at hSw)
                (try simp only [List.getElem_toArray, List.getElem_cons_succ, List.getElem_cons_zero])
                go_simp
                (try with_reducible rfl)
              simp only [Act.put, List.getElem_toArray, List.getElem_cons_succ, List.getElem_cons_zero, List.setIfInBounds_toArray, List.set_cons_zero, List.set_cons_succ]
              refine wpAnyH_take (i := 12) (v := ?_) rfl (by kernel_rfl) (by kernel_rfl) (by kernel_rfl) (fun _ _ _ h => h) (Or.inl ⟨by rfl, ?_⟩) (by assumption) ?_
              rotate_left
              · intro wq hSw
                (try dsimp only at hSw)
                (try simp only [List.getElem_toArray, List.getElem_cons_succ, List.getElem_cons_zero])
                go_simp
                (try with_reducible rfl)
              simp only [Act.put, List.getElem_toArray, List.getElem_cons_succ, List.getElem_cons_zero, List.setIfInBounds_toArray, List.set_cons_zero, List.set_cons_succ]
              refine wpAnyH_ready (rs := [14]) (by kernel_rfl) (by simp) ?_
              refine AllReadyH.cons rfl ?_ AllReadyH.nil
              intro K hK
              (try simp only [List.getElem_toArray, List.getElem_cons_succ, List.getElem_cons_zero])
              have d0 := hbx.cell (i := 0) rfl
              have e0 := hbx.free 0
              go_simp
              have hfin := hq.box hbw.1 hbw.2.1 hbw.2.2 hbx (by decide) (.slice xa NN.length xc)
              have hS := hfin.cell
              refine hK.out _ _ hS (fun hHeld => ?_)
              clear hK K
              refine wpAnyH_take (i := 15) (v := ?_) rfl (by kernel_rfl) (by kernel_rfl) (by kernel_rfl) (fun _ _ _ h => h) (Or.inl ⟨by rfl, ?_⟩) (by assumption) ?_
              rotate_left
              · intro wq hSw
                (try dsimp only at hSw)
                (try simp only [List.getElem_toArray, List.getElem_cons_succ, List.getElem_cons_zero])
                go_simp
                (try with_reducible rfl)
              simp only [Act.put, List.getElem_toArray, List.getElem_cons_succ, List.getElem_cons_zero, List.setIfInBounds_toArray, List.set_cons_zero, List.set_cons_succ]
              refine wpAnyH_done (by kernel_rfl) ?_ _
              go_wp2
              go_meet
              exact ⟨bx, rfl, hfin.mono (by omega), hbw.1, hbw.2.1, hbw.2.2, xa, xc, NN, hbx.set 0 _, ho.far (ho.not_box hbx (by decide)) 0 _, hok3⟩
        · intro K hK
          (try simp only [List.getElem_toArray, List.getElem_cons_succ, List.getElem_cons_zero])
          go_simp
          have hbx := (BK.new wr #[.slice none 0 0] 35).drew
          obtain ⟨bx, hbxe⟩ : ∃ bx, bx = wr.heap.size := ⟨_, rfl⟩
          rw [← hbxe] at hbx
          have hbw : w.heap.size ≤ bx ∧ bx ≠ w1.heap.size ∧ bx ≠ w.heap.size := by have := HQr.out.sz; have := HQr.out.ms; have := HQr.out.rs; omega
          have hq := (HQr.out.alloc (.cells #[.slice none 0 0] 35)).drew
          have hS := hq.cell
          rw [← hbxe]
          refine hK.out _ _ hS (fun hHeld => ?_)
          clear hK K
          clear hbxe
          refine wpAnyH_ready (rs := [2]) (by kernel_rfl) (by simp) ?_
          refine AllReadyH.cons rfl ?_ AllReadyH.nil
          intro K hK
          (try simp only [List.getElem_toArray, List.getElem_cons_succ, List.getElem_cons_zero])
          go_simp
          go_at_call 49
          refine (pick_any _ hq.rw.1 (by omega)).mono ?_
          rintro e X1 ⟨⟨x, rfl, hx, _⟩, hr, hg⟩
          obtain ⟨b, rfl⟩ := byte_of (hx (by omega))
          have hbx := hbx.next hg (by have := hq.rw.2.2; omega)
          have hq := hq.next hr hg
          have hS := hq.cell
          have hbl := UInt8.toNat_lt b
          refine hK.out _ _ hS (fun hHeld => ?_)
          clear hK K
          clear hr hg hx
          refine wpAnyH_take (i := 3) (v := ?_) rfl (by kernel_rfl) (by kernel_rfl) (by kernel_rfl) (fun _ _ _ h => h) (Or.inl ⟨by rfl, ?_⟩) (by assumption) ?_
          rotate_left
          · intro wq hSw
            (try dsimp only at hSw)
            (try simp only [List.getElem_toArray, List.getElem_cons_succ, List.getElem_cons_zero])
            go_simp
            (try with_reducible rfl)
          simp only [Act.put, List.getElem_toArray, List.getElem_cons_succ, List.getElem_cons_zero, List.setIfInBounds_toArray, List.set_cons_zero, List.set_cons_succ]
          rw [wrap_byte b]
          refine wpAnyH_ready (rs := [4, 7]) (by kernel_rfl) (by simp) ?_
          refine AllReadyH.cons rfl ?_ (AllReadyH.cons rfl ?_ AllReadyH.nil)
          · intro K hK
            (try simp only [List.getElem_toArray, List.getElem_cons_succ, List.getElem_cons_zero])
            go_simp
            have hsl := BK.new X1 #[.int .u8 (b.toNat : Int)] 5
            obtain ⟨sb, hsbe⟩ : ∃ sb, sb = X1.heap.size := ⟨_, rfl⟩
            rw [← hsbe] at hsl
            have hbx := hbx.alloc (.cells #[.int .u8 (b.toNat : Int)] 5)
            have hsbw : w.heap.size ≤ sb := by have := hq.sz; omega
            have hq := hq.alloc (.cells #[.int .u8 (b.toNat : Int)] 5)
            have hS := hq.cell
            (try simp only [World.size_alloc] at hsbe)
            rw [← hsbe]
            refine hK.out _ _ hS (fun hHeld => ?_)
            clear hK K
            clear hsbe
            refine wpAnyH_ready (rs := [5, 7]) (by kernel_rfl) (by simp) ?_
            refine AllReadyH.cons rfl ?_ (AllReadyH.cons rfl ?_ AllReadyH.nil)
            · intro K hK
              (try simp only [List.getElem_toArray, List.getElem_cons_succ, List.getElem_cons_zero])
              have hcv := run_string_blk hsl
              go_simp
              refine hK.out _ _ hS (fun hHeld => ?_)
              clear hK K
              clear hcv
              refine wpAnyH_ready (rs := [7]) (by kernel_rfl) (by simp) ?_
              refine AllReadyH.cons rfl ?_ AllReadyH.nil
              intro K hK
              (try simp only [List.getElem_toArray, List.getElem_cons_succ, List.getElem_cons_zero])
              go_simp
              go_at_call 43
              refine (bytes_any 5 hq.rw.1 (by omega) (by omega)).mono ?_
              rintro e X2 ⟨s, rfl, hs5, hr, hg⟩
              have hbx := hbx.next hg (by have := hq.rw.2.2; omega)
              have hsl := hsl.next hg (by have := hq.rw.2.2; omega)
              have hq := hq.next hr hg
              have hS := hq.cell
              obtain ⟨T, hTs, hadd⟩ := add_one b s (by omega)
              refine hK.out _ _ hS (fun hHeld => ?_)
              clear hK K
              clear hr hg
              refine wpAnyH_take (i := 8) (v := ?_) rfl (by kernel_rfl) (by kernel_rfl) (by kernel_rfl) (fun _ _ _ h => h) (Or.inl ⟨by rfl, ?_⟩) (by assumption) ?_
              rotate_left
              · intro wq hSw
                (try dsimp only at hSw)
                (try simp only [List.getElem_toArray, List.getElem_cons_succ, List.getElem_cons_zero])
                go_simp
                (try with_reducible rfl)
              simp only [Act.put, List.getElem_toArray, List.getElem_cons_succ, List.getElem_cons_zero, List.setIfInBounds_toArray, List.set_cons_zero, List.set_cons_succ]
              refine wpAnyH_ready (rs := [9]) (by kernel_rfl) (by simp) ?_
              refine AllReadyH.cons rfl ?_ AllReadyH.nil
              intro K hK
              (try simp only [List.getElem_toArray, List.getElem_cons_succ, List.getElem_cons_zero])
              go_simp
              go_at_call 17
              refine (specTake_any _ ss T _ _ hq.os.reads (Nat.le_refl _) HOK.out (by omega)).mono ?_
              rintro e X3 ⟨v3, u3, rfl, ho, _, hb3⟩
              obtain ⟨xa, xc, rfl⟩ := ho.reads.shape
              have ho := ho.mono (base' := w.heap.size) hq.sz
              have hok3 := muxSB_strs (takeOpen_ok (show muxOkB (txts ss) = true by rw [muxSB_txts]; exact HOK.out) T.data.toList)
              generalize strs (takeOpen (txts ss) T.data.toList) = NN at ho hok3 ⊢
              have hbx := hbx.from hb3
              have hq := hq.from hb3
              have hS := hq.cell
              refine hK.out _ _ hS (fun hHeld => ?_)
              clear hK K
              clear hb3
              refine wpAnyH_take (i := 10) (v := ?_) rfl (by kernel_rfl) (by kernel_rfl) (by kernel_rfl) (fun _ _ _ h => h) (Or.inl ⟨by rfl, ?_⟩) (by assumption) ?_
              rotate_left
              · intro wq hSw
                (try dsimp only at hSw)
                (try simp only [List.getElem_toArray, List.getElem_cons_succ, List.getElem_cons_zero])
                go_simp
                (try with_reducible rfl)
              simp only [Act.put, List.getElem_toArray, List.getElem_cons_succ, List.getElem_cons_zero, List.setIfInBounds_toArray, List.set_cons_zero, List.set_cons_succ]
              refine wpAnyH_take (i := 11) (v := ?_) rfl (by kernel_rfl) (by kernel_rfl) (by kernel_rfl) (fun _ _ _ h => h) (Or.inl ⟨by rfl, ?_⟩) (by assumption) ?_
              rotate_left
              · intro wq hSw
                (try dsimp only at hSw)
                (try simp only [List.getElem_toArray, List.getElem_cons_succ, List.getElem_cons_zero])
                go_simp
                (try with_reducible rfl)
              simp only [Act.put, List.getElem_toArray, List.getElem_cons_succ, List.getElem_cons_zero, List.setIfInBounds_toArray, List.set_cons_zero, List.set_cons_succ]
              refine wpAnyH_take (i := 12) (v := ?_) rfl (by kernel_rfl) (by kernel_rfl) (by kernel_rfl) (fun _ _ _ h => h) (Or.inl ⟨by rfl, ?_⟩) (by assumption) ?_
              rotate_left
              · intro wq hSw
                (try dsimp only at hSw)
                (try simp only [List.getElem_toArray, List.getElem_cons_succ, List.getElem_cons_zero])
                go_simp
                (try with_reducible rfl)
              simp only [Act.put, List.getElem_toArray, List.getElem_cons_succ, List.getElem_cons_zero, List.setIfInBounds_toArray, List.set_cons_zero, List.set_cons_succ]
              refine wpAnyH_ready (rs := [14]) (by kernel_rfl) (by simp) ?_
              refine AllReadyH.cons rfl ?_ AllReadyH.nil
              intro K hK
              (try simp only [List.getElem_toArray, List.getElem_cons_succ, List.getElem_cons_zero])
              have d0 := hbx.cell (i := 0) rfl
              have e0 := hbx.free 0
              go_simp
              have hfin := hq.box hbw.1 hbw.2.1 hbw.2.2 hbx (by decide) (.slice xa NN.length xc)
              have hS := hfin.cell
              refine hK.out _ _ hS (fun hHeld => ?_)
              clear hK K
              refine wpAnyH_take (i := 15) (v := ?_) rfl (by kernel_rfl) (by kernel_rfl) (by kernel_rfl) (fun _ _ _ h => h) (Or.inl ⟨by rfl, ?_⟩) (by assumption) ?_
              rotate_left
              · intro wq hSw
                (try dsimp only at hSw)
                (try simp only [List.getElem_toArray, List.getElem_cons_succ, List.getElem_cons_zero])
                go_simp
                (try with_reducible rfl)
              simp only [Act.put, List.getElem_toArray, List.getElem_cons_succ, List.getElem_cons_zero, List.setIfInBounds_toArray, List.set_cons_zero, List.set_cons_succ]
              refine wpAnyH_done (by kernel_rfl) ?_ _
              go_wp2
              go_meet
              exact ⟨bx, rfl, hfin.mono (by omega), hbw.1, hbw.2.1, hbw.2.2, xa, xc, NN, hbx.set 0 _, ho.far (ho.not_box hbx (by decide)) 0 _, hok3⟩
            · intro K hK
              (try simp only [List.getElem_toArray, List.getElem_cons_succ, List.getElem_cons_zero])
              go_simp
              go_at_call 43
              refine (bytes_any 5 hq.rw.1 (by omega) (by omega)).mono ?_
              rintro e X2 ⟨s, rfl, hs5, hr, hg⟩
              have hbx := hbx.next hg (by have := hq.rw.2.2; omega)
              have hsl := hsl.next hg (by have := hq.rw.2.2; omega)
              have hq := hq.next hr hg
              have hS := hq.cell
              obtain ⟨T, hTs, hadd⟩ := add_one b s (by omega)
              refine hK.out _ _ hS (fun hHeld => ?_)
              clear hK K
              clear hr hg
              refine wpAnyH_ready (rs := [5]) (by kernel_rfl) (by simp) ?_
              refine AllReadyH.cons rfl ?_ AllReadyH.nil
              intro K hK
              (try simp only [List.getElem_toArray, List.getElem_cons_succ, List.getElem_cons_zero])
              have hcv := run_string_blk hsl
              go_simp
              refine hK.out _ _ hS (fun hHeld => ?_)
              clear hK K
              clear hcv
              refine wpAnyH_take (i := 8) (v := ?_) rfl (by kernel_rfl) (by kernel_rfl) (by kernel_rfl) (fun _ _ _ h => h) (Or.inl ⟨by rfl, ?_⟩) (by assumption) ?_
              rotate_left
              · intro wq hSw
                (try dsimp only at hSw)
                (try simp only [List.getElem_toArray, List.getElem_cons_succ, List.getElem_cons_zero])
                go_simp
                (try with_reducible rfl)
              simp only [Act.put, List.getElem_toArray, List.getElem_cons_succ, List.getElem_cons_zero, List.setIfInBounds_toArray, List.set_cons_zero, List.set_cons_succ]
              refine wpAnyH_ready (rs := [9]) (by kernel_rfl) (by simp) ?_
              refine AllReadyH.cons rfl ?_ AllReadyH.nil
              intro K hK
              (try simp only [List.getElem_toArray, List.getElem_cons_succ, List.getElem_cons_zero])
              go_simp
              go_at_call 17
              refine (specTake_any _ ss T _ _ hq.os.reads (Nat.le_refl _) HOK.out (by omega)).mono ?_
              rintro e X3 ⟨v3, u3, rfl, ho, _, hb3⟩
              obtain ⟨xa, xc, rfl⟩ := ho.reads.shape
              have ho := ho.mono (base' := w.heap.size) hq.sz
              have hok3 := muxSB_strs (takeOpen_ok (show muxOkB (txts ss) = true by rw [muxSB_txts]; exact HOK.out) T.data.toList)
              generalize strs (takeOpen (txts ss) T.data.toList) = NN at ho hok3 ⊢
              have hbx := hbx.from hb3
              have hq := hq.from hb3
              have hS := hq.cell
              refine hK.out _ _ hS (fun hHeld => ?_)
              clear hK K
              clear hb3
              refine wpAnyH_take (i := 10) (v := ?_) rfl (by kernel_rfl) (by kernel_rfl) (by kernel_rfl) (fun _ _ _ h => h) (Or.inl ⟨by rfl, ?_⟩) (by assumption) ?_
              rotate_left
              · intro wq hSw
                (try dsimp only at hSw)
                (try simp only [List.getElem_toArray, List.getElem_cons_succ, List.getElem_cons_zero])
                go_simp
                (try with_reducible rfl)
              simp only [Act.put, List.getElem_toArray, List.getElem_cons_succ, List.getElem_cons_zero, List.setIfInBounds_toArray, List.set_cons_zero, List.set_cons_succ]
              refine wpAnyH_take (i := 11) (v := ?_) rfl (by kernel_rfl) (by kernel_rfl) (by kernel_rfl) (fun _ _ _ h => h) (Or.inl ⟨by rfl, ?_⟩) (by assumption) ?_
              rotate_left
              · intro wq hSw
                (try dsimp only at hSw)
                (try simp only [List.getElem_toArray, List.getElem_cons_succ, List.getElem_cons_zero])
                go_simp
                (try with_reducible rfl)
              simp only [Act.put, List.getElem_toArray, List.getElem_cons_succ, List.getElem_cons_zero, List.setIfInBounds_toArray, List.set_cons_zero, List.set_cons_succ]
              refine wpAnyH_take (i := 12) (v := ?_) rfl (by kernel_rfl) (by kernel_rfl) (by kernel_rfl) (fun _ _ _ h => h) (Or.inl ⟨by rfl, ?_⟩) (by assumption) ?_
              rotate_left
              · intro wq hSw
                (try dsimp only at hSw)
                (try simp only [List.getElem_toArray, List.getElem_cons_succ, List.getElem_cons_zero])
                go_simp
                (try with_reducible rfl)
              simp only [Act.put, List.getElem_toArray, List.getElem_cons_succ, List.getElem_cons_zero, List.setIfInBounds_toArray, List.set_cons_zero, List.set_cons_succ]
              refine wpAnyH_ready (rs := [14]) (by kernel_rfl) (by simp) ?_
              refine AllReadyH.cons rfl ?_ AllReadyH.nil
              intro K hK
              (try simp only [List.getElem_toArray, List.getElem_cons_succ, List.getElem_cons_zero])
              have d0 := hbx.cell (i := 0) rfl
              have e0 := hbx.free 0
              go_simp
              have hfin := hq.box hbw.1 hbw.2.1 hbw.2.2 hbx (by decide) (.slice xa NN.length xc)
              have hS := hfin.cell
              refine hK.out _ _ hS (fun hHeld => ?_)
              clear hK K
              refine wpAnyH_take (i := 15) (v := ?_) rfl (by kernel_rfl) (by kernel_rfl) (by kernel_rfl) (fun _ _ _ h => h) (Or.inl ⟨by rfl, ?_⟩) (by assumption) ?_
              rotate_left
              · intro wq hSw
                (try dsimp only at hSw)
                (try simp only [List.getElem_toArray, List.getElem_cons_succ, List.getElem_cons_zero])
                go_simp
                (try with_reducible rfl)
              simp only [Act.put, List.getElem_toArray, List.getElem_cons_succ, List.getElem_cons_zero, List.setIfInBounds_toArray, List.set_cons_zero, List.set_cons_succ]
              refine wpAnyH_done (by kernel_rfl) ?_ _
              go_wp2
              go_meet
              exact ⟨bx, rfl, hfin.mono (by omega), hbw.1, hbw.2.1, hbw.2.2, xa, xc, NN, hbx.set 0 _, ho.far (ho.not_box hbx (by decide)) 0 _, hok3⟩
          · intro K hK
            (try simp only [List.getElem_toArray, List.getElem_cons_succ, List.getElem_cons_zero])
            go_simp
            go_at_call 43
            refine (bytes_any 5 hq.rw.1 (by omega) (by omega)).mono ?_
            rintro e X2 ⟨s, rfl, hs5, hr, hg⟩
            have hbx := hbx.next hg (by have := hq.rw.2.2; omega)
            have hq := hq.next hr hg
            have hS := hq.cell
            obtain ⟨T, hTs, hadd⟩ := add_one b s (by omega)
            refine hK.out _ _ hS (fun hHeld => ?_)
            clear hK K
            clear hr hg
            refine wpAnyH_ready (rs := [4]) (by kernel_rfl) (by simp) ?_
            refine AllReadyH.cons rfl ?_ AllReadyH.nil
            intro K hK
            (try simp only [List.getElem_toArray, List.getElem_cons_succ, List.getElem_cons_zero])
            go_simp
            have hsl := BK.new X2 #[.int .u8 (b.toNat : Int)] 5
            obtain ⟨sb, hsbe⟩ : ∃ sb, sb = X2.heap.size := ⟨_, rfl⟩
            rw [← hsbe] at hsl
            have hbx := hbx.alloc (.cells #[.int .u8 (b.toNat : Int)] 5)
            have hsbw : w.heap.size ≤ sb := by have := hq.sz; omega
            have hq := hq.alloc (.cells #[.int .u8 (b.toNat : Int)] 5)
            have hS := hq.cell
            (try simp only [World.size_alloc] at hsbe)
            rw [← hsbe]
            refine hK.out _ _ hS (fun hHeld => ?_)
            clear hK K
            clear hsbe
            refine wpAnyH_ready (rs := [5]) (by kernel_rfl) (by simp) ?_
            refine AllReadyH.cons rfl ?_ AllReadyH.nil
            intro K hK
            (try simp only [List.getElem_toArray, List.getElem_cons_succ, List.getElem_cons_zero])
            have hcv := run_string_blk hsl
            go_simp
            refine hK.out _ _ hS (fun hHeld => ?_)
            clear hK K
            clear hcv
            refine wpAnyH_take (i := 8) (v := ?_) rfl (by kernel_rfl) (by kernel_rfl) (by kernel_rfl) (fun _ _ _ h => h) (Or.inl ⟨by rfl, ?_⟩) (by assumption) ?_
            rotate_left
            · intro wq hSw
              (try dsimp only at hSw)
              (try simp only [List.getElem_toArray, List.getElem_cons_succ, List.getElem_cons_zero])
              go_simp
              (try with_reducible rfl)
            simp only [Act.put, List.getElem_toArray, List.getElem_cons_succ, List.getElem_cons_zero, List.setIfInBounds_toArray, List.set_cons_zero, List.set_cons_succ]
            refine wpAnyH_ready (rs := [9]) (by kernel_rfl) (by simp) ?_
            refine AllReadyH.cons rfl ?_ AllReadyH.nil
            intro K hK
            (try simp only [List.getElem_toArray, List.getElem_cons_succ, List.getElem_cons_zero])
            go_simp
            go_at_call 17
            refine (specTake_any _ ss T _ _ hq.os.reads (Nat.le_refl _) HOK.out (by omega)).mono ?_
            rintro e X3 ⟨v3, u3, rfl, ho, _, hb3⟩
            obtain ⟨xa, xc, rfl⟩ := ho.reads.shape
            have ho := ho.mono (base' := w.heap.size) hq.sz
            have hok3 := muxSB_strs (takeOpen_ok (show muxOkB (txts ss) = true by rw [muxSB_txts]; exact HOK.out) T.data.toList)
            generalize strs (takeOpen (txts ss) T.data.toList) = NN at ho hok3 ⊢
            have hbx := hbx.from hb3
            have hq := hq.from hb3
            have hS := hq.cell
            refine hK.out _ _ hS (fun hHeld => ?_)
            clear hK K
            clear hb3
            refine wpAnyH_take (i := 10) (v := ?_) rfl (by kernel_rfl) (by kernel_rfl) (by kernel_rfl) (fun _ _ _ h => h) (Or.inl ⟨by rfl, ?_⟩) (by assumption) ?_
            rotate_left
            · intro wq hSw
              (try dsimp only at hSw)
              (try simp only [List.getElem_toArray, List.getElem_cons_succ, List.getElem_cons_zero])
              go_simp
              (try with_reducible rfl)
            simp only [Act.put, List.getElem_toArray, List.getElem_cons_succ, List.getElem_cons_zero, List.setIfInBounds_toArray, List.set_cons_zero, List.set_cons_succ]
            refine wpAnyH_take (i := 11) (v := ?_) rfl (by kernel_rfl) (by kernel_rfl) (by kernel_rfl) (fun _ _ _ h => h) (Or.inl ⟨by rfl, ?_⟩) (by assumption) ?_
            rotate_left
            · intro wq hSw
              (try dsimp only at hSw)
              (try simp only [List.getElem_toArray, List.getElem_cons_succ, List.getElem_cons_zero])
              go_simp
              (try with_reducible rfl)
            simp only [Act.put, List.getElem_toArray, List.getElem_cons_succ, List.getElem_cons_zero, List.setIfInBounds_toArray, List.set_cons_zero, List.set_cons_succ]
            refine wpAnyH_take (i := 12) (v := ?_) rfl (by kernel_rfl) (by kernel_rfl) (by kernel_rfl) (fun _ _ _ h => h) (Or.inl ⟨by rfl, ?_⟩) (by assumption) ?_
            rotate_left
            · intro wq hSw
              (try dsimp only at hSw)
              (try simp only [List.getElem_toArray, List.getElem_cons_succ, List.getElem_cons_zero])
              go_simp
              (try with_reducible rfl)
            simp only [Act.put, List.getElem_toArray, List.getElem_cons_succ, List.getElem_cons_zero, List.setIfInBounds_toArray, List.set_cons_zero, List.set_cons_succ]
            refine wpAnyH_ready (rs := [14]) (by kernel_rfl) (by simp) ?_
            refine AllReadyH.cons rfl ?_ AllReadyH.nil
            intro K hK
            (try simp only [List.getElem_toArray, List.getElem_cons_succ, List.getElem_cons_zero])
            have d0 := hbx.cell (i := 0) rfl
            have e0 := hbx.free 0
            go_simp
            have hfin := hq.box hbw.1 hbw.2.1 hbw.2.2 hbx (by decide) (.slice xa NN.length xc)
            have hS := hfin.cell
            refine hK.out _ _ hS (fun hHeld => ?_)
            clear hK K
            refine wpAnyH_take (i := 15) (v := ?_) rfl (by kernel_rfl) (by kernel_rfl) (by kernel_rfl) (fun _ _ _ h => h) (Or.inl ⟨by rfl, ?_⟩) (by assumption) ?_
            rotate_left
            · intro wq hSw
              (try dsimp only at hSw)
              (try simp only [List.getElem_toArray, List.getElem_cons_succ, List.getElem_cons_zero])
              go_simp
              (try with_reducible rfl)
            simp only [Act.put, List.getElem_toArray, List.getElem_cons_succ, List.getElem_cons_zero, List.setIfInBounds_toArray, List.set_cons_zero, List.set_cons_succ]
            refine wpAnyH_done (by kernel_rfl) ?_ _
            go_wp2
            go_meet
            exact ⟨bx, rfl, hfin.mono (by omega), hbw.1, hbw.2.1, hbw.2.2, xa, xc, NN, hbx.set 0 _, ho.far (ho.not_box hbx (by decide)) 0 _, hok3⟩
      case rest =>
        obtain ⟨b, rfl, hq2, hb0, hb1, hb2, a2, c2, NN, hkb, hon, hok3⟩ := hcut
        have d0 := hkb.cell (i := 0) rfl
        have d1 := hq2.cell
        have e1 := hq2.kb.free 0
        have HQ3 := Lib.hid (show QS w (wc.setCell ⟨w1.heap.size, 0, none⟩ (.slice a2 NN.length c2)) B g (M + 20) w1.heap.size w.heap.size (.slice a2 NN.length c2) NN from
          ⟨hq2.rw.set hq2.lm _, hon.far (hon.not_box hq2.kb (by decide)) 0 _, hq2.kb.set 0 _, hq2.kr.far hq2.ne _, hq2.lm, hq2.lr, hq2.ne⟩)
        have HOK3 := Lib.hid hok3
        clear hq2 hkb hon hok3 hq
        go_wp2
        go_roundw
        case rel => exact ⟨k - 1, a2, c2, NN, by omega, val_int (by omega), HOK3.out, HQ3.out.mono (by have := HMM.out; omega)⟩
        case measure => simp [intOf]; omega
    · obtain rfl : k = 0 := by omega
      have h3 : ss.length = 3 ∧ ∀ s ∈ ss, s.size ≤ 600 := by
        have hok := HOK.out
        unfold muxSB shortB at hok
        rw [Bool.and_eq_true, decide_eq_true_eq, List.all_eq_true] at hok
        exact ⟨hok.1, fun s hs => of_decide_eq_true (hok.2 s hs)⟩
      obtain ⟨h3, hsz⟩ := h3
      have HSZ := Lib.hid hsz
      clear hq hsz
      go_wp2_with fail
      refine (pick_any _ HQr.out.rw.1 (by omega)).mono ?_
      rintro e w5 ⟨⟨y, rfl, _, _⟩, hr, hg⟩
      have hq5 := HQr.out.next hr hg
      clear hr hg
      match ss, h3 with
      | s :: ss, h3 =>
        have d1 := hq5.cell
        have e1 := hq5.kb.free 0
        have d2 := hq5.kr.cell (i := 0) rfl
        have e2 := hq5.kr.free 0
        have HQ5 := Lib.hid hq5
        by_cases hy : y = 0
        · subst hy
          obtain ⟨x, cc, hv, hsp, _⟩ := RP.tail (RP.of_own hq5.os)
          (try simp only [List.length_cons] at hv)
          (try simp only [List.length_cons] at d1)
          (try simp only [List.length_cons] at HQ5)
          obtain ⟨n, hn⟩ : ∃ n, n = ss.length + 1 := ⟨_, rfl⟩
          rw [← hn] at hv d1 HQ5
          rw [hv] at d1 HQ5
          have hsl := fun u => slice_one u x n cc (by omega)
          have HN := Lib.hid hn
          have HV := Lib.hid hv
          have hq5b := HQ5.out
          have k6 := hq5b.kb.set 0 (sliced (some x) 1 n cc 1)
          have o6 := hq5b.os.far (hq5b.os.not_box hq5b.kb (by decide)) 0 (sliced (some x) 1 n cc 1)
          have r6 := hq5b.kr.far (o := 0) hq5b.ne (sliced (some x) 1 n cc 1)
          have w6 := hq5b.rw.set (o := 0) hq5b.lm (sliced (some x) 1 n cc 1)
          have o7 := o6.far (o6.not_box r6 (by decide)) 0 (sliced (some x) 1 n cc 1)
          have w7 := w6.set (o := 0) (Nat.le_refl _) (sliced (some x) 1 n cc 1)
          have t7 := RP.of_own o7
          obtain ⟨x', cc', hv', hsp', ht⟩ := RP.tail t7
          injection hv' with h5 h6 h7
          cases h5
          subst h7
          rw [← HN.out] at ht
          obtain ⟨_, ta, tc, hV, _⟩ := id ht
          rw [hV] at hsl k6 r6 w7 ht
          have HLO := Lib.hid (show ∀ y, ta = some y → w.heap.size ≤ y.block from fun y hy => by
            subst hy
            have e := sliced_block hV
            rw [e]
            exact (o7.low x.block rfl).1)
          have HT := Lib.hid ht
          have HSL := Lib.hid (show ss.length ≤ 3 ∧ ∀ q ∈ ss, q.size ≤ 600 from ⟨by have := HN.out; simp at h3; omega, fun q hq => HSZ.out q (by simp [hq])⟩)
          have HK7 := Lib.hid (r6.set 0 (.slice ta ss.length tc))
          have HW7 := Lib.hid w7
          have f6 := k6.cell (i := 0) rfl
          have g6 := r6.cell (i := 0) rfl
          have g7 := r6.free 0
          have hn1 : (1 : Int) ≤ (n : Int) := by have := HN.out; omega
          clear hn hv hV o6 o7 k6 r6 w6 w7 ht t7 hq5 hq5b hsp hsp' h6
          go_wp2
          exact mux_ret rfl HK7.out rfl rfl ⟨_, _, ss, rfl, HW7.out.mono (by omega), HT.out, HSL.out.1, HSL.out.2, HLO.out⟩
        · have hy2 : (y == 0) = false := beq_eq_false_iff_ne.2 hy
          have o6 := hq5.os.far (hq5.os.not_box hq5.kr (by decide)) 0 (.slice a (s :: ss).length c)
          have HP := Lib.hid (RP.of_own o6)
          have HK7 := Lib.hid (hq5.kr.set 0 (.slice a (s :: ss).length c))
          have HW7 := Lib.hid (hq5.rw.set (o := 0) (Nat.le_refl w.heap.size) (.slice a (s :: ss).length c))
          have h3' : (s :: ss).length ≤ 3 := by omega
          have HLO := Lib.hid (show ∀ y, a = some y → w.heap.size ≤ y.block from fun y hy => by subst hy; exact (o6.low y.block rfl).1)
          generalize s :: ss = SS at *
          clear o6 hq5 h3
          go_wp2
          exact mux_ret rfl HK7.out rfl rfl ⟨_, _, SS, rfl, HW7.out.mono (by omega), HP.out, h3', HSZ.out, HLO.out⟩
end Go.Proofs.Ytplaagkcamjemaa
