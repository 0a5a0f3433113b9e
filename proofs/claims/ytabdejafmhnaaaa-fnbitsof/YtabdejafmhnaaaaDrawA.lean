/- The drawing of inputs: a reader over the code's bytes. -/
import Derived.Test.YtabdejafmhnaaaaOwn
import Derived.Deep.QuietTactic
import Derived.BigQuiet
import Derived.Laws.BitsAllLaws
import Derived.Laws.BitsLemmas
namespace Go.Proofs.Ytabdejafmhnaaaa
open Go.ChangeShapes Go.WideShapes Go.ChangeAt Go.RowKit

/-- the reader at block g: its bytes lie below block B, it has picked at most N times -/
def Rd (w : World) (B g N : Nat) : Prop := ∃ (a : Option Addr) (L cap : Nat) (zs : List Nat) (p : Nat), p ≤ N ∧ L ≤ 2000 ∧ L ≤ cap ∧ zs.length = L ∧ B ≤ g ∧
  w.heap[g]? = some (.cells #[.slice a L cap, .int .i64 p] 50 (0, 0)) ∧
  (0 < L → ∃ b off, a = some ⟨b, off, none⟩ ∧ b < B ∧ ∀ i, i < L → w.cell? ⟨b, off + i, none⟩ = some (.int .u8 ((zs.getD i 0 : Nat) : Int))) ∧ ∀ i, zs.getD i 0 < 256

theorem Rd.mono {w : World} {B g N N' : Nat} (h : Rd w B g N) (hN : N ≤ N') : Rd w B g N' := by
  obtain ⟨a, L, cap, zs, p, h1, h2⟩ := h
  exact ⟨a, L, cap, zs, p, Nat.le_trans h1 hN, h2⟩
theorem Rd.lt {w : World} {B g N : Nat} (h : Rd w B g N) : g < w.heap.size := by
  obtain ⟨a, L, cap, zs, p, _, _, _, _, _, hg, _⟩ := h
  exact (Array.getElem?_eq_some_iff.1 hg).1
/-- the reader is kept where its own block and those below B are -/
theorem Rd.keep {w w' : World} {B g N : Nat} (h : Rd w B g N) (hb : ∀ i, i < B ∨ i = g → w'.heap[i]? = w.heap[i]?) : Rd w' B g N := by
  obtain ⟨a, L, cap, zs, p, h1, h2, h3, h4, h5, hg, hc, hz⟩ := h
  refine ⟨a, L, cap, zs, p, h1, h2, h3, h4, h5, (hb g (.inr rfl)).trans hg, fun hL => ?_, hz⟩
  obtain ⟨b, off, ha, hlt, hcell⟩ := hc hL
  exact ⟨b, off, ha, hlt, fun i hi => (World.cell?_of_block (a := ⟨b, off + i, none⟩) (hb b (.inl hlt))).trans (hcell i hi)⟩

def PickPost (w : World) (g p : Nat) (n : Int) (e : Ending) (w' : World) : Prop :=
  (∃ x : Int, e = .returned (.int .i64 x) ∧ (1 ≤ n → 0 ≤ x ∧ x < n) ∧ (n < 1 → x = 0)) ∧ ∃ k, w' = (w.setCell ⟨g, 1, none⟩ (.int .i64 ((p + 1 : Nat) : Int))).drewN k

set_option maxRecDepth 100000 in
set_option maxHeartbeats 1000000 in
theorem pick_low (b off L cap p g z : Nat) (n : Int) (w : World) (hp : p < L) (hL : L ≤ 2000) (hn : 1 ≤ n)
    (hg : w.heap[g]? = some (.cells #[.slice (some ⟨b, off, none⟩) L cap, .int .i64 p] 50 (0, 0))) (hbg : ¬ b = g)
    (hz : z < 256) (hc : w.cell? ⟨b, off + p, none⟩ = some (.int .u8 z)) :
    Calls Try.prog 48 #[.pointer (some ⟨g, 0, none⟩), .int .i64 n] w (PickPost w g p n) := by
  have c0 : w.cell? ⟨g, 0, none⟩ = some (.slice (some ⟨b, off, none⟩) L cap) := by rw [cell_of_row w g 0 _ _ _ hg]; rfl
  have c1 : w.cell? ⟨g, 1, none⟩ = some (.int .i64 p) := by rw [cell_of_row w g 1 _ _ _ hg]; rfl
  have f1 : w.frozen? ⟨g, 1, none⟩ = false := frozen_of_row w g 1 _ _ hg
  have hL0 : ((L : Int) == 0) = false := beq_eq_false_iff_ne.2 (by omega)
  clear hg
  go_enter Try.func48, Try.ntmps48
  go_wp2
  go_ret
  refine ⟨⟨_, rfl, fun _ => ?_, fun h => by omega⟩, 0, rfl⟩
  exact ⟨Int.emod_nonneg _ (by omega), Int.emod_lt_of_pos _ (by omega)⟩

set_option maxRecDepth 100000 in
theorem pick_none (a : Option Addr) (L cap p g : Nat) (n : Int) (w : World) (hp : p ≤ 1000000000) (hn : n < 1 ∨ L = 0)
    (hg : w.heap[g]? = some (.cells #[.slice a L cap, .int .i64 p] 50 (0, 0))) :
    Calls Try.prog 48 #[.pointer (some ⟨g, 0, none⟩), .int .i64 n] w (PickPost w g p n) := by
  have c0 : w.cell? ⟨g, 0, none⟩ = some (.slice a L cap) := by rw [cell_of_row w g 0 _ _ _ hg]; rfl
  have c1 : w.cell? ⟨g, 1, none⟩ = some (.int .i64 p) := by rw [cell_of_row w g 1 _ _ _ hg]; rfl
  have f1 : w.frozen? ⟨g, 1, none⟩ = false := frozen_of_row w g 1 _ _ hg
  clear hg
  by_cases h1 : n < 1
  · clear hn
    go_enter Try.func48, Try.ntmps48
    go_wp2
    go_ret
    exact ⟨⟨0, rfl, fun h => by omega, fun _ => rfl⟩, 0, rfl⟩
  · have hL : L = 0 := by omega
    subst hL
    clear hn
    go_enter Try.func48, Try.ntmps48
    go_wp2
    go_ret
    exact ⟨⟨0, rfl, fun h => by omega, fun _ => rfl⟩, 0, rfl⟩

theorem wrap_in (x : Int) (h0 : -9223372036854775808 ≤ x) (h1 : x ≤ 9223372036854775807) : IntKind.i64.wrap x = x := by rw [IntKind.wrap_i64]; omega

set_option maxRecDepth 100000 in
set_option maxHeartbeats 4000000 in
theorem pick_high (b off L cap p g z1 z2 i1 i2 q : Nat) (n : Int) (w : World) (hp : L ≤ p) (hp2 : p ≤ 1000000000) (hL1 : 1 ≤ L) (hL : L ≤ 2000) (hn : 1 ≤ n)
    (hg : w.heap[g]? = some (.cells #[.slice (some ⟨b, off, none⟩) L cap, .int .i64 p] 50 (0, 0))) (hbg : ¬ b = g)
    (e1 : (p : Int).tmod (L : Int) = i1) (e2 : ((p : Int) * 7 + 3).tmod (L : Int) = i2) (eq : (p : Int).tdiv (L : Int) = q) (hi1 : i1 < L) (hi2 : i2 < L) (hq : q ≤ p)
    (hz1 : z1 < 256) (hc1 : w.cell? ⟨b, off + i1, none⟩ = some (.int .u8 z1)) (hz2 : z2 < 256) (hc2 : w.cell? ⟨b, off + i2, none⟩ = some (.int .u8 z2)) :
    Calls Try.prog 48 #[.pointer (some ⟨g, 0, none⟩), .int .i64 n] w (PickPost w g p n) := by
  have c0 : w.cell? ⟨g, 0, none⟩ = some (.slice (some ⟨b, off, none⟩) L cap) := by rw [cell_of_row w g 0 _ _ _ hg]; rfl
  have c1 : w.cell? ⟨g, 1, none⟩ = some (.int .i64 p) := by rw [cell_of_row w g 1 _ _ _ hg]; rfl
  have f1 : w.frozen? ⟨g, 1, none⟩ = false := frozen_of_row w g 1 _ _ hg
  have hL0 : ((L : Int) == 0) = false := beq_eq_false_iff_ne.2 (by omega)
  have hnl : decide (n < 1) = false := by simp; omega
  have hpl : decide (p < L) = false := by simp; omega
  have E1 := Lib.hid e1
  have E2 := Lib.hid e2
  have EQ := Lib.hid eq
  clear hg e1 e2 eq
  go_enter Try.func48, Try.ntmps48
  go_wp2_with fail
  have d0 : (w.setCell ⟨g, 1, none⟩ (.int .i64 ((p : Int) + 1))).cell? ⟨g, 0, none⟩ = some (.slice (some ⟨b, off, none⟩) L cap) := by
    rw [World.cell?_setCell_other _ _ _ _ (by simp)]; exact c0
  have d1 : (w.setCell ⟨g, 1, none⟩ (.int .i64 ((p : Int) + 1))).cell? ⟨b, off + i1, none⟩ = some (.int .u8 z1) := by
    rw [World.cell?_setCell_other _ _ _ _ (by intro h; injection h with h; exact hbg h.symm)]; exact hc1
  have d2 : (w.setCell ⟨g, 1, none⟩ (.int .i64 ((p : Int) + 1))).cell? ⟨b, off + i2, none⟩ = some (.int .u8 z2) := by
    rw [World.cell?_setCell_other _ _ _ _ (by intro h; injection h with h; exact hbg h.symm)]; exact hc2
  clear c0 c1 f1 hc1 hc2
  have hw : (w.setCell ⟨g, 1, none⟩ (.int .i64 ((p : Int) + 1))) = (w.setCell ⟨g, 1, none⟩ (.int .i64 ((p + 1 : Nat) : Int))) := rfl
  have HW := Lib.hid hw
  clear hw
  generalize (w.setCell ⟨g, 1, none⟩ (.int .i64 ((p : Int) + 1))) = w1 at *
  have e1 := E1.out
  have e2 := E2.out
  have eq := EQ.out
  have a0 : IntKind.i64.wrap ((p : Int) * 7) = (p : Int) * 7 := wrap_in _ (by omega) (by omega)
  have a00 : IntKind.i64.wrap ((p : Int) * 7 + 3) = (p : Int) * 7 + 3 := wrap_in _ (by omega) (by omega)
  have a1 : IntKind.i64.wrap ((z1 : Int) * 131) = (z1 : Int) * 131 := wrap_in _ (by omega) (by omega)
  have a2 : IntKind.i64.wrap ((z2 : Int) * 1117) = (z2 : Int) * 1117 := wrap_in _ (by omega) (by omega)
  have a3 : IntKind.i64.wrap ((z1 : Int) * 131 + (z2 : Int) * 1117) = (z1 : Int) * 131 + (z2 : Int) * 1117 := wrap_in _ (by omega) (by omega)
  have a4 : IntKind.i64.wrap ((p : Int) * 29) = (p : Int) * 29 := wrap_in _ (by omega) (by omega)
  have a5 : IntKind.i64.wrap ((z1 : Int) * 131 + (z2 : Int) * 1117 + (p : Int) * 29) = (z1 : Int) * 131 + (z2 : Int) * 1117 + (p : Int) * 29 := wrap_in _ (by omega) (by omega)
  have a7 : IntKind.i64.wrap ((q : Int) * 53) = (q : Int) * 53 := wrap_in _ (by omega) (by omega)
  have a8 : IntKind.i64.wrap ((z1 : Int) * 131 + (z2 : Int) * 1117 + (p : Int) * 29 + (q : Int) * 53) = (z1 : Int) * 131 + (z2 : Int) * 1117 + (p : Int) * 29 + (q : Int) * 53 := wrap_in _ (by omega) (by omega)
  refine wp_region_quiet_lit (by kernel_rfl) (by kernel_rfl) ?_
  repeat (first | go_big_quiet_step (fail) | quiet_step (fail))
  refine wpQuiet_nil ?_
  intro _ hw'
  obtain ⟨nq, hw''⟩ := hw'
  subst hw''
  clear a0 a00 a1 a2 a3 a4 a5 a7 a8 e1 e2 eq E1 E2 EQ d0 d1 d2
  obtain ⟨X, hX, hXl⟩ : ∃ X : Nat, (z1 : Int) * 131 + (z2 : Int) * 1117 + (p : Int) * 29 + (q : Int) * 53 = (X : Int) ∧ X < 1099511627776 := ⟨z1 * 131 + z2 * 1117 + p * 29 + q * 53, by omega, by omega⟩
  rw [hX]
  clear hX
  have hx : bits .xor .i64 (X : Int) ((X : Int) / 64) = ((X ^^^ X / 64 : Nat) : Int) := by
    rw [← bits_xor_i64_nat _ _ (by omega) (by omega)]; rfl
  obtain ⟨Y, hY⟩ : ∃ Y : Nat, X ^^^ X / 64 = Y := ⟨_, rfl⟩
  rw [hY] at hx
  clear hY
  go_wp2
  go_ret
  refine ⟨⟨_, rfl, fun _ => ?_, fun h => by omega⟩, nq, by rw [HW.out]⟩
  exact ⟨Int.emod_nonneg _ (by omega), Int.emod_lt_of_pos _ (by omega)⟩

theorem heap_drewN (w : World) (k : Nat) : (w.drewN k).heap = w.heap := rfl
/-- behind a pick the reader is a reader -/
theorem Rd.picked {w : World} {B g N : Nat} (h : Rd w B g N) : ∃ p, ∀ k, Rd ((w.setCell ⟨g, 1, none⟩ (.int .i64 ((p + 1 : Nat) : Int))).drewN k) B g (N + 1) ∧ w.grownBy ((w.setCell ⟨g, 1, none⟩ (.int .i64 ((p + 1 : Nat) : Int))).drewN k) (some g) ∧ p ≤ N ∧ ∃ a L cap, w.heap[g]? = some (.cells #[.slice a L cap, .int .i64 p] 50 (0, 0)) := by
  obtain ⟨a, L, cap, zs, p, h1, h2, h3, h4, h5, hg, hc, hz⟩ := h
  refine ⟨p, fun k => ⟨⟨a, L, cap, zs, p + 1, by omega, h2, h3, h4, h5, ?_, fun hL => ?_, hz⟩, ⟨rfl, rfl, rfl, by simp, fun i hi hne => ?_⟩, h1, a, L, cap, hg⟩⟩
  · rw [heap_drewN, heap_setCell_same _ _ _ _ _ _ hg]; rfl
  · obtain ⟨b, off, ha, hlt, hcell⟩ := hc hL
    refine ⟨b, off, ha, hlt, fun i hi => ?_⟩
    have : ((w.setCell ⟨g, 1, none⟩ (.int .i64 ((p + 1 : Nat) : Int))).drewN k).heap[b]? = w.heap[b]? := by
      rw [heap_drewN, heap_setCell_other]; simp; omega
    exact (World.cell?_of_block (a := ⟨b, off + i, none⟩) this).trans (hcell i hi)
  · rw [heap_drewN, heap_setCell_other]; intro e; exact hne (by rw [e])

theorem pick_any {w : World} {B g N : Nat} (n : Int) (h : Rd w B g N) (hN : N ≤ 1000000000) :
    Calls Try.prog 48 #[.pointer (some ⟨g, 0, none⟩), .int .i64 n] w fun e w' => (∃ x : Int, e = .returned (.int .i64 x) ∧ (1 ≤ n → 0 ≤ x ∧ x < n) ∧ (n < 1 → x = 0)) ∧ Rd w' B g (N + 1) ∧ w.grownBy w' (some g) := by
  obtain ⟨p', hpk⟩ := h.picked
  obtain ⟨a, L, cap, zs, p, h1, h2, h3, h4, h5, hg, hc, hz⟩ := h
  obtain ⟨_, _, _, a', L', cap', hg'⟩ := hpk 0
  obtain rfl : p' = p := by
    rw [hg] at hg'
    have := congrArg (fun o : Option Obj => match o with | some (.cells cs _ _) => cs[1]? | _ => none) hg'
    simp at this
    omega
  have fin : ∀ e w', PickPost w g p' n e w' → (∃ x : Int, e = .returned (.int .i64 x) ∧ (1 ≤ n → 0 ≤ x ∧ x < n) ∧ (n < 1 → x = 0)) ∧ Rd w' B g (N + 1) ∧ w.grownBy w' (some g) := by
    rintro e w' ⟨hx, k, rfl⟩
    obtain ⟨r1, r2, _⟩ := hpk k
    exact ⟨hx, r1, r2⟩
  by_cases hlow : n < 1 ∨ L = 0
  · exact (pick_none a L cap p' g n w (by omega) hlow hg).mono fin
  · have hL1 : 0 < L := by omega
    obtain ⟨b, off, rfl, hlt, hcell⟩ := hc hL1
    by_cases hp : p' < L
    · exact (pick_low b off L cap p' g (zs.getD p' 0) n w hp h2 (by omega) hg (by omega) (hz _) (hcell _ hp)).mono fin
    · have m1 : p' % L < L := Nat.mod_lt _ hL1
      have m2 : (p' * 7 + 3) % L < L := Nat.mod_lt _ hL1
      refine (pick_high b off L cap p' g (zs.getD (p' % L) 0) (zs.getD ((p' * 7 + 3) % L) 0) (p' % L) ((p' * 7 + 3) % L) (p' / L) n w (by omega) (by omega) (by omega) h2 (by omega) hg (by omega) ?_ ?_ ?_ m1 m2 (Nat.div_le_self _ _) (hz _) (hcell _ m1) (hz _) (hcell _ m2)).mono fin
      · rw [Int.tmod_eq_emod_of_nonneg (by omega)]; rfl
      · rw [Int.tmod_eq_emod_of_nonneg (by omega)]; rfl
      · rw [Int.tdiv_eq_ediv_of_nonneg (by omega)]; rfl
end Go.Proofs.Ytabdejafmhnaaaa
