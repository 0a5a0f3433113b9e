/- The drawing of inputs: a reader over the code's bytes. -/
import Derived.Test.YtcegpcggdcgjbaaGreatDoorKitA
import Derived.Deep.QuietTactic
import Derived.BigQuiet
import Derived.Laws.BitsAllLaws
import Derived.Laws.BitsLemmas
import Derived.Test.YtcegpcggdcgjbaaGreatDoorKitBits
namespace Go.Proofs.YtcegpcggdcgjbaaGreatDoor
open Go.ChangeShapes Go.WideShapes Go.ChangeAt Go.RowKit

/-- the reader at block g: its bytes lie below block B, it has picked at most N times -/
def Rd (w : World) (B g N : Nat) : Prop := ∃ (a : Option Addr) (L cap : Nat) (zs : List Nat) (p : Nat), p ≤ N ∧ L ≤ 2000 ∧ L ≤ cap ∧ zs.length = L ∧ B ≤ g ∧
  w.heap[g]? = some (.cells #[.slice a L cap, .int .i64 p] 60 (0, 0)) ∧
  (0 < L → ∃ b off, a = some ⟨b, off, none⟩ ∧ b < B ∧ ∀ i, i < L → w.cell? ⟨b, off + i, none⟩ = some (.int .u8 ((zs.getD i 0 : Nat) : Int))) ∧ ∀ i, zs.getD i 0 < 256

theorem Rd.mono {w : World} {B g N N' : Nat} (h : Rd w B g N) (hN : N ≤ N') : Rd w B g N' := by
  obtain ⟨a, L, cap, zs, p, h1, h2⟩ := h
  exact ⟨a, L, cap, zs, p, Nat.le_trans h1 hN, h2⟩
theorem Rd.lt {w : World} {B g N : Nat} (h : Rd w B g N) : g < w.heap.size := by
  obtain ⟨a, L, cap, zs, p, _, _, _, _, _, hg, _⟩ := h
  exact (Array.getElem?_eq_some_iff.1 hg).1
/-- the reader is kept where its own block and those below B are -/
theorem Rd.keep {w w' : World} {B g N : Nat} (h : Rd w B g N) (hb : ∀ i, i < B ∨ i = g → w'.heap[i]? = w.heap[i]?) : Rd w' B g N := by
  obtain ⟨a, L, cap, zs, p, h1, h2, h3, h4, h5, hg, hc, hz⟩ := h
  refine ⟨a, L, cap, zs, p, h1, h2, h3, h4, h5, (hb g (.inr rfl)).trans hg, fun hL => ?_, hz⟩
  obtain ⟨b, off, ha, hlt, hcell⟩ := hc hL
  exact ⟨b, off, ha, hlt, fun i hi => (World.cell?_of_block (a := ⟨b, off + i, none⟩) (hb b (.inl hlt))).trans (hcell i hi)⟩

def PickPost (w : World) (g p : Nat) (n : Int) (e : Ending) (w' : World) : Prop :=
  (∃ x : Int, e = .returned (.int .i64 x) ∧ (1 ≤ n → 0 ≤ x ∧ x < n) ∧ (n < 1 → x = 0)) ∧ ∃ k, w' = (w.setCell ⟨g, 1, none⟩ (.int .i64 ((p + 1 : Nat) : Int))).drewN k

set_option maxRecDepth 100000 in
set_option maxHeartbeats 1000000 in
theorem pick_low (b off L cap p g z : Nat) (n : Int) (w : World) (hp : p < L) (hL : L ≤ 2000) (hn : 1 ≤ n)
    (hg : w.heap[g]? = some (.cells #[.slice (some ⟨b, off, none⟩) L cap, .int .i64 p] 60 (0, 0))) (hbg : ¬ b = g)
    (hz : z < 256) (hc : w.cell? ⟨b, off + p, none⟩ = some (.int .u8 z)) :
    Calls Tryz.prog 12 #[.pointer (some ⟨g, 0, none⟩), .int .i64 n] w (PickPost w g p n) := by
  have c0 : w.cell? ⟨g, 0, none⟩ = some (.slice (some ⟨b, off, none⟩) L cap) := by rw [cell_of_row w g 0 _ _ _ hg]; rfl
  have c1 : w.cell? ⟨g, 1, none⟩ = some (.int .i64 p) := by rw [cell_of_row w g 1 _ _ _ hg]; rfl
  have f1 : w.frozen? ⟨g, 1, none⟩ = false := frozen_of_row w g 1 _ _ hg
  have hL0 : ((L : Int) == 0) = false := beq_eq_false_iff_ne.2 (by omega)
  clear hg
  go_enter Tryz.func12, Tryz.ntmps12
  go_wp2
  go_ret
  refine ⟨⟨_, rfl, fun _ => ?_, fun h => by omega⟩, 0, rfl⟩
  exact ⟨Int.emod_nonneg _ (by omega), Int.emod_lt_of_pos _ (by omega)⟩

set_option maxRecDepth 100000 in
theorem pick_none (a : Option Addr) (L cap p g : Nat) (n : Int) (w : World) (hp : p ≤ 1000000000) (hn : n < 1 ∨ L = 0)
    (hg : w.heap[g]? = some (.cells #[.slice a L cap, .int .i64 p] 60 (0, 0))) :
    Calls Tryz.prog 12 #[.pointer (some ⟨g, 0, none⟩), .int .i64 n] w (PickPost w g p n) := by
  have c0 : w.cell? ⟨g, 0, none⟩ = some (.slice a L cap) := by rw [cell_of_row w g 0 _ _ _ hg]; rfl
  have c1 : w.cell? ⟨g, 1, none⟩ = some (.int .i64 p) := by rw [cell_of_row w g 1 _ _ _ hg]; rfl
  have f1 : w.frozen? ⟨g, 1, none⟩ = false := frozen_of_row w g 1 _ _ hg
  clear hg
  by_cases h1 : n < 1
  · clear hn
    go_enter Tryz.func12, Tryz.ntmps12
    go_wp2
    go_ret
    exact ⟨⟨0, rfl, fun h => by omega, fun _ => rfl⟩, 0, rfl⟩
  · have hL : L = 0 := by omega
    subst hL
    clear hn
    go_enter Tryz.func12, Tryz.ntmps12
    go_wp2
    go_ret
    exact ⟨⟨0, rfl, fun h => by omega, fun _ => rfl⟩, 0, rfl⟩

theorem wrap_in (x : Int) (h0 : -9223372036854775808 ≤ x) (h1 : x ≤ 9223372036854775807) : IntKind.i64.wrap x = x := by rw [IntKind.wrap_i64]; omega

set_option maxRecDepth 100000 in
set_option maxHeartbeats 4000000 in
theorem pick_high (b off L cap p g z1 z2 i1 i2 q : Nat) (n : Int) (w : World) (hp : L ≤ p) (hp2 : p ≤ 1000000000) (hL1 : 1 ≤ L) (hL : L ≤ 2000) (hn : 1 ≤ n)
    (hg : w.heap[g]? = some (.cells #[.slice (some ⟨b, off, none⟩) L cap, .int .i64 p] 60 (0, 0))) (hbg : ¬ b = g)
    (e1 : (p : Int).tmod (L : Int) = i1) (e2 : ((p : Int) * 7 + 3).tmod (L : Int) = i2) (eq : (p : Int).tdiv (L : Int) = q) (hi1 : i1 < L) (hi2 : i2 < L) (hq : q ≤ p)
    (hz1 : z1 < 256) (hc1 : w.cell? ⟨b, off + i1, none⟩ = some (.int .u8 z1)) (hz2 : z2 < 256) (hc2 : w.cell? ⟨b, off + i2, none⟩ = some (.int .u8 z2)) :
    Calls Tryz.prog 12 #[.pointer (some ⟨g, 0, none⟩), .int .i64 n] w (PickPost w g p n) := by
  have c0 : w.cell? ⟨g, 0, none⟩ = some (.slice (some ⟨b, off, none⟩) L cap) := by rw [cell_of_row w g 0 _ _ _ hg]; rfl
  have c1 : w.cell? ⟨g, 1, none⟩ = some (.int .i64 p) := by rw [cell_of_row w g 1 _ _ _ hg]; rfl
  have f1 : w.frozen? ⟨g, 1, none⟩ = false := frozen_of_row w g 1 _ _ hg
  have hL0 : ((L : Int) == 0) = false := beq_eq_false_iff_ne.2 (by omega)
  have hnl : decide (n < 1) = false := by simp; omega
  have hpl : decide (p < L) = false := by simp; omega
  have E1 := Lib.hid e1
  have E2 := Lib.hid e2
  have EQ := Lib.hid eq
  clear hg e1 e2 eq
  go_enter Tryz.func12, Tryz.ntmps12
  go_wp2_with fail
  have d0 : (w.setCell ⟨g, 1, none⟩ (.int .i64 ((p : Int) + 1))).cell? ⟨g, 0, none⟩ = some (.slice (some ⟨b, off, none⟩) L cap) := by
    rw [World.cell?_setCell_other _ _ _ _ (by simp)]; exact c0
  have d1 : (w.setCell ⟨g, 1, none⟩ (.int .i64 ((p : Int) + 1))).cell? ⟨b, off + i1, none⟩ = some (.int .u8 z1) := by
    rw [World.cell?_setCell_other _ _ _ _ (by intro h; injection h with h; exact hbg h.symm)]; exact hc1
  have d2 : (w.setCell ⟨g, 1, none⟩ (.int .i64 ((p : Int) + 1))).cell? ⟨b, off + i2, none⟩ = some (.int .u8 z2) := by
    rw [World.cell?_setCell_other _ _ _ _ (by intro h; injection h with h; exact hbg h.symm)]; exact hc2
  clear c0 c1 f1 hc1 hc2
  have hw : (w.setCell ⟨g, 1, none⟩ (.int .i64 ((p : Int) + 1))) = (w.setCell ⟨g, 1, none⟩ (.int .i64 ((p + 1 : Nat) : Int))) := rfl
  have HW := Lib.hid hw
  clear hw
  generalize (w.setCell ⟨g, 1, none⟩ (.int .i64 ((p : Int) + 1))) = w1 at *
  have e1 := E1.out
  have e2 := E2.out
  have eq := EQ.out
  have a0 : IntKind.i64.wrap ((p : Int) * 7) = (p : Int) * 7 := wrap_in _ (by omega) (by omega)
  have a00 : IntKind.i64.wrap ((p : Int) * 7 + 3) = (p : Int) * 7 + 3 := wrap_in _ (by omega) (by omega)
  have a1 : IntKind.i64.wrap ((z1 : Int) * 131) = (z1 : Int) * 131 := wrap_in _ (by omega) (by omega)
  have a2 : IntKind.i64.wrap ((z2 : Int) * 1117) = (z2 : Int) * 1117 := wrap_in _ (by omega) (by omega)
  have a3 : IntKind.i64.wrap ((z1 : Int) * 131 + (z2 : Int) * 1117) = (z1 : Int) * 131 + (z2 : Int) * 1117 := wrap_in _ (by omega) (by omega)
  have a4 : IntKind.i64.wrap ((p : Int) * 29) = (p : Int) * 29 := wrap_in _ (by omega) (by omega)
  have a5 : IntKind.i64.wrap ((z1 : Int) * 131 + (z2 : Int) * 1117 + (p : Int) * 29) = (z1 : Int) * 131 + (z2 : Int) * 1117 + (p : Int) * 29 := wrap_in _ (by omega) (by omega)
  have a7 : IntKind.i64.wrap ((q : Int) * 53) = (q : Int) * 53 := wrap_in _ (by omega) (by omega)
  have a8 : IntKind.i64.wrap ((z1 : Int) * 131 + (z2 : Int) * 1117 + (p : Int) * 29 + (q : Int) * 53) = (z1 : Int) * 131 + (z2 : Int) * 1117 + (p : Int) * 29 + (q : Int) * 53 := wrap_in _ (by omega) (by omega)
  refine wp_region_quiet_lit (by kernel_rfl) (by kernel_rfl) ?_
  repeat (first | go_big_quiet_step (fail) | quiet_step (fail))
  refine wpQuiet_nil ?_
  intro _ hw'
  obtain ⟨nq, hw''⟩ := hw'
  subst hw''
  clear a0 a00 a1 a2 a3 a4 a5 a7 a8 e1 e2 eq E1 E2 EQ d0 d1 d2
  obtain ⟨X, hX, hXl⟩ : ∃ X : Nat, (z1 : Int) * 131 + (z2 : Int) * 1117 + (p : Int) * 29 + (q : Int) * 53 = (X : Int) ∧ X < 1099511627776 := ⟨z1 * 131 + z2 * 1117 + p * 29 + q * 53, by omega, by omega⟩
  rw [hX]
  clear hX
  have hx : bits .xor .i64 (X : Int) ((X : Int) / 64) = ((X ^^^ X / 64 : Nat) : Int) := by
    rw [← bits_xor_i64_nat _ _ (by omega) (by omega)]; rfl
  obtain ⟨Y, hY⟩ : ∃ Y : Nat, X ^^^ X / 64 = Y := ⟨_, rfl⟩
  rw [hY] at hx
  clear hY
  go_wp2
  go_ret
  refine ⟨⟨_, rfl, fun _ => ?_, fun h => by omega⟩, nq, by rw [HW.out]⟩
  exact ⟨Int.emod_nonneg _ (by omega), Int.emod_lt_of_pos _ (by omega)⟩

theorem heap_drewN (w : World) (k : Nat) : (w.drewN k).heap = w.heap := rfl
/-- behind a pick the reader is a reader -/
theorem Rd.picked {w : World} {B g N : Nat} (h : Rd w B g N) : ∃ p, ∀ k, Rd ((w.setCell ⟨g, 1, none⟩ (.int .i64 ((p + 1 : Nat) : Int))).drewN k) B g (N + 1) ∧ w.grownBy ((w.setCell ⟨g, 1, none⟩ (.int .i64 ((p + 1 : Nat) : Int))).drewN k) (some g) ∧ p ≤ N ∧ ∃ a L cap, w.heap[g]? = some (.cells #[.slice a L cap, .int .i64 p] 60 (0, 0)) := by
  obtain ⟨a, L, cap, zs, p, h1, h2, h3, h4, h5, hg, hc, hz⟩ := h
  refine ⟨p, fun k => ⟨⟨a, L, cap, zs, p + 1, by omega, h2, h3, h4, h5, ?_, fun hL => ?_, hz⟩, ⟨rfl, rfl, rfl, by simp, fun i hi hne => ?_⟩, h1, a, L, cap, hg⟩⟩
  · rw [heap_drewN, heap_setCell_same _ _ _ _ _ _ hg]; rfl
  · obtain ⟨b, off, ha, hlt, hcell⟩ := hc hL
    refine ⟨b, off, ha, hlt, fun i hi => ?_⟩
    have : ((w.setCell ⟨g, 1, none⟩ (.int .i64 ((p + 1 : Nat) : Int))).drewN k).heap[b]? = w.heap[b]? := by
      rw [heap_drewN, heap_setCell_other]; simp; omega
    exact (World.cell?_of_block (a := ⟨b, off + i, none⟩) this).trans (hcell i hi)
  · rw [heap_drewN, heap_setCell_other]; intro e; exact hne (by rw [e])

theorem pick_any {w : World} {B g N : Nat} (n : Int) (h : Rd w B g N) (hN : N ≤ 1000000000) :
    Calls Tryz.prog 12 #[.pointer (some ⟨g, 0, none⟩), .int .i64 n] w fun e w' => (∃ x : Int, e = .returned (.int .i64 x) ∧ (1 ≤ n → 0 ≤ x ∧ x < n) ∧ (n < 1 → x = 0)) ∧ Rd w' B g (N + 1) ∧ w.grownBy w' (some g) := by
  obtain ⟨p', hpk⟩ := h.picked
  obtain ⟨a, L, cap, zs, p, h1, h2, h3, h4, h5, hg, hc, hz⟩ := h
  obtain ⟨_, _, _, a', L', cap', hg'⟩ := hpk 0
  obtain rfl : p' = p := by
    rw [hg] at hg'
    have := congrArg (fun o : Option Obj => match o with | some (.cells cs _ _) => cs[1]? | _ => none) hg'
    simp at this
    omega
  have fin : ∀ e w', PickPost w g p' n e w' → (∃ x : Int, e = .returned (.int .i64 x) ∧ (1 ≤ n → 0 ≤ x ∧ x < n) ∧ (n < 1 → x = 0)) ∧ Rd w' B g (N + 1) ∧ w.grownBy w' (some g) := by
    rintro e w' ⟨hx, k, rfl⟩
    obtain ⟨r1, r2, _⟩ := hpk k
    exact ⟨hx, r1, r2⟩
  by_cases hlow : n < 1 ∨ L = 0
  · exact (pick_none a L cap p' g n w (by omega) hlow hg).mono fin
  · have hL1 : 0 < L := by omega
    obtain ⟨b, off, rfl, hlt, hcell⟩ := hc hL1
    by_cases hp : p' < L
    · exact (pick_low b off L cap p' g (zs.getD p' 0) n w hp h2 (by omega) hg (by omega) (hz _) (hcell _ hp)).mono fin
    · have m1 : p' % L < L := Nat.mod_lt _ hL1
      have m2 : (p' * 7 + 3) % L < L := Nat.mod_lt _ hL1
      refine (pick_high b off L cap p' g (zs.getD (p' % L) 0) (zs.getD ((p' * 7 + 3) % L) 0) (p' % L) ((p' * 7 + 3) % L) (p' / L) n w (by omega) (by omega) (by omega) h2 (by omega) hg (by omega) ?_ ?_ ?_ m1 m2 (Nat.div_le_self _ _) (hz _) (hcell _ m1) (hz _) (hcell _ m2)).mono fin
      · rw [Int.tmod_eq_emod_of_nonneg (by omega)]; rfl
      · rw [Int.tmod_eq_emod_of_nonneg (by omega)]; rfl
      · rw [Int.tdiv_eq_ediv_of_nonneg (by omega)]; rfl
end Go.Proofs.YtcegpcggdcgjbaaGreatDoor
/- Small draws: one of a list, a byte, bytes, a kind. -/
namespace Go.Proofs.YtcegpcggdcgjbaaGreatDoor
open Go.ChangeShapes Go.WideShapes Go.ChangeAt Go.RowKit

theorem Rd.grow {w w' : World} {B g N : Nat} {row : Option Nat} (h : Rd w B g N) (hg : w.grownBy w' row) (h1 : row ≠ some g) (h2 : ∀ k, row = some k → B ≤ k) : Rd w' B g N := by
  have hlt := h.lt
  have hB : B ≤ g := by obtain ⟨_, _, _, _, _, _, _, _, _, h5, _⟩ := h; exact h5
  refine h.keep fun i hi => hg.block i (by omega) ?_
  intro e
  rcases hi with hi | hi
  · have := h2 i e.symm; omega
  · subst hi; exact h1 e.symm
theorem Rd.alloc {w : World} {B g N : Nat} (h : Rd w B g N) (o : Obj) : Rd (w.alloc o) B g N := h.grow (World.grownBy_alloc w o none) (by simp) (by simp)
theorem Rd.drew {w : World} {B g N : Nat} (h : Rd w B g N) : Rd w.drew B g N := h
theorem OB.keptg {e : TypeId} {w w' : World} {base g : Nat} {v : Value} {l : List UInt8} (h : OB e w base v l) (hg : w.grownBy w' (some g)) (hb : g < base) : OB e w' base v l := by
  refine h.kept hg (.inr fun e => ?_)
  have := (h.lt g e).1
  omega
theorem grown_alloc {w w' : World} {row : Option Nat} (h : w.grownBy w' row) (o : Obj) : w.grownBy (w'.alloc o) row :=
  ⟨h.os, h.tape, h.output, Nat.le_trans h.size (by simp), fun i hi hne => (Below.heap_alloc w' o i (Nat.lt_of_lt_of_le hi h.size)).trans (h.block i hi hne)⟩
theorem grown_trans {a b c : World} {row : Option Nat} (h : a.grownBy b row) (k : b.grownBy c row) : a.grownBy c row :=
  ⟨k.os.trans h.os, k.tape.trans h.tape, k.output.trans h.output, Nat.le_trans h.size k.size, fun i hi hne => (k.block i (Nat.lt_of_lt_of_le hi h.size) hne).trans (h.block i hi hne)⟩
/-- what an append onto a row of the call's own turns -/
theorem grown_own {a b c : World} {row : Option Nat} {g : Nat} (h : a.grownBy b (some g)) (k : b.grownBy c row) (hr : ∀ j, row = some j → a.heap.size ≤ j) : a.grownBy c (some g) :=
  ⟨k.os.trans h.os, k.tape.trans h.tape, k.output.trans h.output, Nat.le_trans h.size k.size, fun i hi hne => (k.block i (Nat.lt_of_lt_of_le hi h.size) (fun e => by have := hr i e.symm; omega)).trans (h.block i hi hne)⟩
theorem grown_below {a b : World} {g B : Nat} (h : a.grownBy b (some g)) (hB : B ≤ a.heap.size) (hg : B ≤ g) : Below B a b :=
  ⟨h.os, h.tape, h.output, h.size, fun i hi => h.block i (by omega) (by intro e; injection e with e; omega)⟩
theorem below_grown {a b : World} (h : Below a.heap.size a b) (row : Option Nat) : a.grownBy b row := ⟨h.os, h.tape, h.output, h.size, fun i hi _ => h.block i hi⟩

def intV (x : Int) : Value := .int .i64 x
theorem one_any {w : World} {B g N m : Nat} (xs : List Int) (t : TypeId) (h : Rd w B g N) (hN : N ≤ 1000000000) (hx : 1 ≤ xs.length) (hx2 : xs.length ≤ 1000) (hm : ¬ m = g)
    (hl : w.heap[m]? = some (.cells (xs.map intV).toArray t (0, 0))) :
    Calls Tryz.prog 39 #[.pointer (some ⟨g, 0, none⟩), .slice (some ⟨m, 0, none⟩) xs.length xs.length] w fun e w' => ∃ x : Int, x ∈ xs ∧ e = .returned (.int .i64 x) ∧ Rd w' B g (N + 1) ∧ w.grownBy w' (some g) := by
  have HL := Lib.hid hl
  have HR := Lib.hid h
  have hml : m < w.heap.size := (Array.getElem?_eq_some_iff.1 hl).1
  clear hl h
  go_enter Tryz.func39, Tryz.ntmps39
  go_wp2_with fail
  refine (pick_any _ HR.out hN).mono ?_
  rintro e w1 ⟨⟨x, rfl, hx1, _⟩, hr1, hg1⟩
  obtain ⟨h0, h1⟩ := hx1 (by omega)
  obtain ⟨k, rfl⟩ := Int.eq_ofNat_of_zero_le h0
  have hk : k < xs.length := by omega
  have hc : w1.cell? ⟨m, k, none⟩ = some (.int .i64 xs[k]) := by
    rw [World.cell?_of_block (w := w) (a := ⟨m, k, none⟩) (hg1.block m hml (by intro e; injection e with e; exact hm e)), cell_of_row w m k _ _ _ HL.out]
    simp [hk, intV]
  have HR1 := Lib.hid hr1
  have HG1 := Lib.hid hg1
  clear hr1 hg1 hx1
  go_wp2
  go_ret
  exact ⟨xs[k], List.getElem_mem _, rfl, HR1.out, HG1.out⟩
end Go.Proofs.YtcegpcggdcgjbaaGreatDoor
/- Draws of a kind, a byte, bytes; the reader opened. -/
namespace Go.Proofs.YtcegpcggdcgjbaaGreatDoor
open Go.ChangeShapes Go.WideShapes Go.ChangeAt Go.RowKit

theorem list_row (w : World) (cs : Array Value) (t : TypeId) (xs : List Int) (h : cs = (xs.map intV).toArray) : (w.alloc (.cells cs t)).heap[w.heap.size]? = some (.cells (xs.map intV).toArray t (0, 0)) := by
  subst h; exact heap_alloc_new w _

set_option maxRecDepth 100000 in
theorem byte_any {w : World} {B g N : Nat} (h : Rd w B g N) (hN : N + 3 ≤ 1000000000) :
    Calls Tryz.prog 25 #[.pointer (some ⟨g, 0, none⟩)] w fun e w' => ∃ b : UInt8, e = .returned (byteV b) ∧ Rd w' B g (N + 3) ∧ w.grownBy w' (some g) := by
  have HR := Lib.hid h
  have hgl := h.lt
  clear h
  go_enter Tryz.func25, Tryz.ntmps25
  go_wp2_with fail
  refine (pick_any _ HR.out (by omega)).mono ?_
  rintro e w1 ⟨⟨x, rfl, hx, _⟩, hr1, hg1⟩
  have HR1 := Lib.hid hr1
  have HG1 := Lib.hid hg1
  clear hr1 hg1 hx
  go_wp2_with fail
  refine (pick_any _ HR1.out (by omega)).mono ?_
  rintro e w2 ⟨⟨y, rfl, hy, _⟩, hr2, hg2⟩
  have HR2 := Lib.hid hr2
  have HG2 := Lib.hid (grown_trans HG1.out hg2)
  have hsz : w.heap.size ≤ w2.heap.size := HG2.out.size
  clear hr2 hg2 hy
  go_wp2_with fail
  refine (one_any [0, 1, 126, 125, 255, 192, 219, 17, 19, 48, 97, 94, 93, 2, x, y] 3 (HR2.out.alloc _) (by omega) (by simp) (by simp) (by omega) (list_row w2 _ _ _ rfl)).mono ?_
  rintro e w3 ⟨z, hz, rfl, hr3, hg3⟩
  have HR3 := Lib.hid hr3
  have HG3 := Lib.hid (grown_trans (grown_alloc HG2.out _) hg3)
  clear hr3 hg3 hz
  go_wp2
  go_ret
  refine ⟨UInt8.ofNat (z % 256).toNat, ?_, HR3.out, HG3.out⟩
  unfold byteV
  rw [UInt8.toNat_ofNat']
  exact ret_int (by omega)

theorem OB_empty (e : TypeId) (w : World) (base : Nat) (h : base ≤ w.heap.size) : OB e (w.alloc (.cells #[] e)) base (.slice (some ⟨w.heap.size, 0, none⟩) 0 0) [] :=
  .inr ⟨w.heap.size, 0, #[], (0, 0), rfl, h, heap_alloc_new w _, .inl rfl, Nat.le_refl _, by simp [maxLen], rfl, rfl⟩

set_option maxRecDepth 100000 in
set_option maxHeartbeats 1000000 in
theorem bytes_any {w : World} {B g N : Nat} (most : Nat) (h : Rd w B g N) (hm : most ≤ 1000000) (hN : N + 3 * most + 1 ≤ 1000000000) :
    Calls Tryz.prog 14 #[.pointer (some ⟨g, 0, none⟩), .int .i64 most] w fun e w' => ∃ s : ByteArray, e = .returned (.string s) ∧ s.size ≤ most ∧ Rd w' B g (N + 3 * most + 1) ∧ w.grownBy w' (some g) := by
  obtain ⟨i0, hi, hz0, hz1, hz2⟩ := info_parts info_u8
  have HI := Lib.hid hi
  have HZ0 := Lib.hid hz0
  have HZ1 := Lib.hid hz1
  have HZ2 := Lib.hid hz2
  have HR := Lib.hid h
  have hgl := h.lt
  clear h hi hz0 hz1 hz2
  go_enter Tryz.func14, Tryz.ntmps14
  go_wp2_with fail
  refine (pick_any _ (HR.out.alloc _) (by omega)).mono ?_
  rintro e w1 ⟨⟨x, rfl, hx, _⟩, hr1, hg1⟩
  obtain ⟨h0, h1⟩ := hx (by omega)
  obtain ⟨n0, rfl⟩ := Int.eq_ofNat_of_zero_le h0
  have hn0 : n0 ≤ most := by omega
  have HR1 := Lib.hid hr1
  have HG1 := Lib.hid (grown_trans (World.grownBy_alloc w _ _) hg1)
  have HO1 := Lib.hid ((OB_empty 5 w w.heap.size (Nat.le_refl _)).keptg hg1 hgl)
  clear hr1 hg1 hx h0 h1
  go_wp2_with fail
  go_loopw [5, 6] (fun v n wr => ∃ (k : Nat) (l : List UInt8), k ≤ n0 ∧ n = .int .i64 k ∧ l.length + k = n0 ∧ OB 5 wr w.heap.size v l ∧ Rd wr B g (N + 1 + 3 * l.length) ∧ w.grownBy wr (some g)) (fun _ n _ => (intOf n).toNat)
  case atStart => exact ⟨n0, [], Nat.le_refl _, rfl, by simp, HO1.out, by simpa using HR1.out, HG1.out⟩
  case round =>
    obtain ⟨k, l, hk, rfl, hlk, hown, hrd, hgr⟩ := hrel
    have HO := Lib.hid hown
    have HRd := Lib.hid hrd
    have HGr := Lib.hid hgr
    have HLK := Lib.hid hlk
    have hll : l.length + k ≤ n0 := by omega
    clear hown hrd hgr hlk
    by_cases hpos : 0 < k
    · go_wp2_with fail
      refine (byte_any HRd.out (by omega)).mono ?_
      rintro e w2 ⟨b, rfl, hr2, hg2⟩
      have HR2 := Lib.hid hr2
      have HG2 := Lib.hid (grown_trans HGr.out hg2)
      have HO2 := Lib.hid (HO.out.keptg hg2 hgl)
      have hsz : w.heap.size ≤ w2.heap.size := HG2.out.size
      clear hr2 hg2
      have hb := UInt8.toNat_lt b
      unfold byteV
      go_wp2_with (at_builtin; refine wpList_append_OB _ rfl _ _ 22 rfl w.heap.size 5 i0 Tryz.underlying22 HI.out HZ0.out HZ1.out HZ2.out _ l rfl (HO2.out.alloc _) ⟨w2.heap.size, 0, none⟩ 1 1 [b] rfl rfl (one_new w2 _ _ _ rfl) (by simp; omega) (by simp; omega) ?_; intro v3 w3 hown3 hg3)
      go_roundw
      case rel =>
        have hlt3 := HO2.out.lt
        refine ⟨k - 1, l ++ [b], by omega, val_int (by omega), by simp; have := HLK.out; omega, hown3, ?_, ?_⟩
        · rw [show N + 1 + 3 * (l ++ [b]).length = N + 1 + 3 * l.length + 3 by simp; omega]
          refine (HR2.out.alloc _).grow hg3 (fun e => ?_) (fun j e => ?_)
          · have := (hlt3 g e).1; omega
          · have := (hlt3 j e).1
            have hB : B ≤ g := by obtain ⟨_, _, _, _, _, _, _, _, _, h5, _⟩ := HR2.out; exact h5
            omega
        · exact grown_own (grown_alloc HG2.out _) hg3 (fun j e => (hlt3 j e).1)
      case measure => simp [intOf]; omega
    · go_wp2_with (refine wpList_string_of_OB _ rfl 22 9 5 _ rfl w.heap.size _ _ rfl Tryz.underlying22 Tryz.underlying5 Tryz.underlying9 HO.out ?_)
      go_ret
      refine ⟨⟨l.toArray⟩, rfl, ?_, HRd.out.mono (by omega), HGr.out⟩
      show l.toArray.size ≤ most
      simp; omega

/-- a slice that came in is as it was where nothing old has turned -/
theorem IsRow.keep {w w' : World} {a : Option Addr} {len cap : Nat} {zs : List Int} (h : IsRow .u8 w a len cap zs) (hb : Below w.heap.size w w') : IsRow .u8 w' a len cap zs := by
  rcases h with h | ⟨x, rfl, hlc, hmax, hzl, hcell, hwz⟩
  · exact .inl h
  · refine .inr ⟨x, rfl, hlc, hmax, hzl, fun i hi => ?_, hwz⟩
    have hc := hcell i hi
    have hlt : (x.add i).block < w.heap.size := block_lt_of_cell hc
    rw [hb.cell hlt]; exact hc
theorem Rd.opened {w : World} {a : Option Addr} {len cap : Nat} {zs : List Int} (h : IsRow .u8 w a len cap zs) (L : Nat) (hL : L ≤ len) (hL2 : L ≤ 2000) :
    Rd (w.alloc (.cells #[.slice a L cap, .int .i64 0] 60)) w.heap.size w.heap.size 0 := by
  rcases h with ⟨rfl, rfl, rfl, rfl⟩ | ⟨x, rfl, hlc, hmax, hzl, hcell, hwz⟩
  · obtain rfl : L = 0 := by omega
    exact ⟨none, 0, 0, [], 0, Nat.le_refl _, by omega, Nat.le_refl _, rfl, Nat.le_refl _, heap_alloc_new w _, fun h => by omega, fun i => by simp⟩
  · have hb : ∀ i, ((zs.take L).map Int.toNat).getD i 0 < 256 := by
      intro i
      rw [List.getD_eq_getElem?_getD, List.getElem?_map]
      cases hi : (zs.take L)[i]? with
      | none => simp
      | some z =>
        have hmem : z ∈ zs := List.mem_of_mem_take (List.mem_of_getElem? hi)
        have := hwz z hmem
        simp [Lit.wf, IntKind.min, IntKind.max, IntKind.signed, IntKind.bits] at this
        simp; omega
    refine ⟨some x, L, cap, (zs.take L).map Int.toNat, 0, Nat.le_refl _, hL2, by omega, by simp; omega, Nat.le_refl _, heap_alloc_new w _, fun h0 => ?_, hb⟩
    obtain ⟨b, off, spot⟩ := x
    have hc0 := hcell 0 (by omega)
    have hspot : spot = none := by simpa [Addr.add] using World.cell?_spot hc0
    subst hspot
    have hlt : b < w.heap.size := block_lt_of_cell (a := ⟨b, off, none⟩) (by simpa [Addr.add] using hc0)
    refine ⟨b, off, rfl, hlt, fun i hi => ?_⟩
    have hc := hcell i (by omega)
    have hadd : (⟨b, off, none⟩ : Addr).add i = ⟨b, off + i, none⟩ := by unfold Addr.add; split <;> simp_all
    rw [hadd] at hc
    rw [World.cell?_alloc_lt w _ _ hlt, hc]
    have hw := hwz (zs.getD i 0) (by rw [List.getD_eq_getElem?_getD, List.getElem?_eq_getElem (by omega)]; simp)
    simp [Lit.wf, IntKind.min, IntKind.max, IntKind.signed, IntKind.bits] at hw
    have e : ((zs.take L).map Int.toNat).getD i 0 = (zs.getD i 0).toNat := by
      rw [List.getD_eq_getElem?_getD, List.getD_eq_getElem?_getD, List.getElem?_map, List.getElem?_take, if_pos hi, List.getElem?_eq_getElem (show i < zs.length by omega)]; rfl
    rw [e]
    have : ((zs.getD i 0).toNat : Int) = zs.getD i 0 := Int.toNat_of_nonneg (by simpa using hw.1)
    rw [this]

/-- the reader that l20Open makes of the code -/
theorem open_any {w : World} (a : Option Addr) (len cap : Nat) (zs : List Int) (h : IsRow .u8 w a len cap zs) :
    Calls Tryz.prog 10 #[.slice a len cap] w fun e w' => e = .returned (.pointer (some ⟨w.heap.size, 0, none⟩)) ∧ Rd w' w.heap.size w.heap.size 0 ∧ Below w.heap.size w w' ∧ w'.heap.size = w.heap.size + 1 := by
  have hcap : len ≤ cap ∧ cap ≤ maxLen := by
    rcases h with ⟨_, h1, h2, _⟩ | ⟨x, _, h1, h2, _⟩
    · subst h1 h2; simp [maxLen]
    · exact ⟨h1, h2⟩
  unfold maxLen at hcap
  obtain ⟨hcap1, hcap2⟩ := hcap
  have HH := Lib.hid h
  clear h
  by_cases hl : 2000 < len
  · go_enter Tryz.func10, Tryz.ntmps10
    go_wp2
    go_ret
    exact ⟨rfl, Rd.opened HH.out 2000 (by omega) (by omega), (Below.refl _ _).alloc (Nat.le_refl _) _, by simp⟩
  · go_enter Tryz.func10, Tryz.ntmps10
    go_wp2
    go_ret
    exact ⟨rfl, Rd.opened HH.out len (by omega) (by omega), (Below.refl _ _).alloc (Nat.le_refl _) _, by simp⟩
end Go.Proofs.YtcegpcggdcgjbaaGreatDoor
/- The draw of a kind of checksum. -/
namespace Go.Proofs.YtcegpcggdcgjbaaGreatDoor
open Go.ChangeShapes Go.WideShapes Go.ChangeAt Go.RowKit
end Go.Proofs.YtcegpcggdcgjbaaGreatDoor
/- Draws of bits. -/
namespace Go.Proofs.YtcegpcggdcgjbaaGreatDoor
open Go.ChangeShapes Go.WideShapes Go.ChangeAt Go.RowKit

def lenS : Value → Nat | .string s => s.size | _ => 0
end Go.Proofs.YtcegpcggdcgjbaaGreatDoor
