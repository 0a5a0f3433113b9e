/- A Mux in the laws: copied, its size told, compared, marked; one that came in. -/
import Derived.Test.YtplaagkcamjemaaMxC
import Derived.Test.YtplaagkcamjemaaTMarkS
import Derived.SliceStrings
namespace Go.Proofs.Ytplaagkcamjemaa
open Go.ChangeShapes Go.WideShapes Go.ChangeAt Go.RowKit
set_option maxRecDepth 100000 in
theorem toMux_any (v : Value) (ss : List ByteArray) (w : World) (B : Nat) (h : RS w B v ss) (hB : B ≤ w.heap.size) (hl : ss.length ≤ 1048576) :
    Calls Try.prog 30 #[.agg #[v]] w fun e w' => (∃ u, e = .returned (.agg #[u]) ∧ OS w' w.heap.size u ss) ∧ Below w.heap.size w w' := by
  have hz := zero_mux
  have hb3 : Below w.heap.size w (((w.alloc (.cells #[v] 50)).alloc (.cells #[.slice none 0 0] 35)).alloc (.cells #[.slice none 0 0] 35)) := (((Below.refl _ w).alloc (Nat.le_refl _) _).alloc (by simp) _).alloc (by simp; omega) _
  have k0 := (((BK.new w #[v] 50).alloc (.cells #[.slice none 0 0] 35)).alloc (.cells #[.slice none 0 0] 35))
  have c0 := k0.cell (i := 0) rfl
  obtain ⟨a, cap, rfl⟩ := h.shape
  have H := Lib.hid (h.below (hb3.mono hB))
  have HB3 := Lib.hid hb3
  clear h k0 hb3
  go_enter Try.func30, Try.ntmps30
  go_wp2_with fail
  refine (copy_any _ ss _ B H.out (Nat.le_trans hB HB3.out.size) hl).mono ?_
  rintro e w2 ⟨⟨u, rfl, hu⟩, hb⟩
  have k1 := ((BK.new (w.alloc (.cells #[.slice a ss.length cap] 50)) #[.slice none 0 0] 35).alloc (.cells #[.slice none 0 0] 35)).from hb
  have k2 := (BK.new ((w.alloc (.cells #[.slice a ss.length cap] 50)).alloc (.cells #[.slice none 0 0] 35)) #[.slice none 0 0] 35).from hb
  rw [World.size_alloc] at k1
  rw [World.size_alloc, World.size_alloc] at k2
  have hO : OS w2 (w.heap.size + 3) u ss := by
    have := hu
    rw [World.size_alloc, World.size_alloc, World.size_alloc] at this
    exact this
  obtain ⟨ua, uc, rfl⟩ := hO.reads.shape
  have c2 := k2.cell (i := 0) rfl
  have f2 := k2.free 0
  have K1 := Lib.hid k1
  have HO := Lib.hid hO
  have HB4 := Lib.hid (HB3.out.trans (hb.mono HB3.out.size))
  have k1s := k1.far (j := w.heap.size + 1 + 1) (o := 0) (by omega) (.slice ua ss.length uc)
  have d1 := k1s.cell (i := 0) rfl
  have g1 := k1s.free 0
  clear k1 k2 hu hO hb c0
  go_wp2
  exact mux_ret rfl (k1s.set 0 _) rfl rfl ⟨⟨_, rfl, ((HO.out.put (p := ⟨w.heap.size + 1 + 1, 0, none⟩) (by simp) _).put (p := ⟨w.heap.size + 1, 0, none⟩) (by simp) _).mono (by omega)⟩, (HB4.out.setCell (p := ⟨w.heap.size + 1 + 1, 0, none⟩) (by simp; omega) _).setCell (p := ⟨w.heap.size + 1, 0, none⟩) (by simp) _⟩
def SzMPost (w : World) (ss : List ByteArray) (e : Ending) (w' : World) : Prop := ∃ x : Int, e = .returned (.int .i64 x) ∧ Below w.heap.size w w' ∧ (x = -1 ∨ (0 ≤ x ∧ ss.length ≤ 1048576 ∧ ∀ s ∈ ss, s.size ≤ 1048576))
theorem szMux_any (v : Value) (ss : List ByteArray) (w : World) (B : Nat) (h : RS w B v ss) (hB : B ≤ w.heap.size) (hl : ss.length ≤ maxLen) (hz : ∀ s ∈ ss, s.size ≤ maxLen) :
    Calls Try.prog 29 #[.agg #[v], .int .i64 1048576] w (SzMPost w ss) := by
  have hb1 : Below w.heap.size w (w.alloc (.cells #[v] 50)) := (Below.refl _ w).alloc (Nat.le_refl _) _
  have c0 := (BK.new w #[v] 50).cell (i := 0) rfl
  obtain ⟨a, cap, rfl⟩ := h.shape
  have H := Lib.hid (h.below (hb1.mono hB))
  have HB1 := Lib.hid hb1
  clear h hb1
  go_enter Try.func29, Try.ntmps29
  go_wp2_with fail
  refine (sz_any _ ss _ B H.out hl hz).mono ?_
  rintro e w2 ⟨x, rfl, rfl, hx⟩
  have HX := Lib.hid hx
  by_cases hneg : x < 0
  · clear hx
    go_wp2
    go_ret
    exact ⟨-1, rfl, HB1.out, .inl rfl⟩
  · clear hx
    go_wp2
    go_ret
    refine ⟨x, rfl, HB1.out, .inr ?_⟩
    rcases HX.out with e | e
    · omega
    · exact e
theorem eqMux_same (v v' : Value) (ss : List ByteArray) (w : World) (B B' : Nat) (h : RS w B v ss) (h' : RS w B' v' ss) (hB : B ≤ w.heap.size) (hB' : B' ≤ w.heap.size) (hl : ss.length ≤ 1048576) :
    Calls Try.prog 31 #[.agg #[v], .agg #[v']] w fun e w' => e = .returned (.bool true) ∧ Below w.heap.size w w' := by
  have hb2 : Below w.heap.size w ((w.alloc (.cells #[v] 35)).alloc (.cells #[v'] 35)) := ((Below.refl _ w).alloc (Nat.le_refl _) _).alloc (by simp) _
  have c0 := ((BK.new w #[v] 35).alloc (.cells #[v'] 35)).cell (i := 0) rfl
  have k1 := BK.new (w.alloc (.cells #[v] 35)) #[v'] 35
  rw [World.size_alloc] at k1
  have c1 := k1.cell (i := 0) rfl
  have H := Lib.hid (h.below (hb2.mono hB))
  have H' := Lib.hid (h'.below (hb2.mono hB'))
  have HB2 := Lib.hid hb2
  obtain ⟨a, cap, rfl⟩ := h.shape
  obtain ⟨a', cap', rfl⟩ := h'.shape
  clear h h' hb2 k1
  go_enter Try.func31, Try.ntmps31
  go_wp2_with fail
  refine (eqStrs_same _ _ ss _ B B' H.out H'.out (Nat.le_trans hB HB2.out.size) (Nat.le_trans hB' HB2.out.size) hl).mono ?_
  rintro e w2 ⟨rfl, hb⟩
  have HB3 := Lib.hid (HB2.out.trans (hb.mono HB2.out.size))
  clear hb
  go_wp2
  go_ret
  exact ⟨rfl, HB3.out⟩
theorem markMux_any (v : Value) (ss : List ByteArray) (k0 : Nat) (w : World) (base : Nat) (h : OS w base v ss) (hk0 : 1 ≤ k0) (hl : k0 + ss.length ≤ 100000000) :
    Calls Try.prog 33 #[.agg #[v], .int .i64 k0] w (MarkSPost w base v k0 ss.length) := by
  have c0 := (BK.new w #[v] 35).cell (i := 0) rfl
  have H := Lib.hid (h.alloc (.cells #[v] 35))
  obtain ⟨a, cap, rfl⟩ := h.reads.shape
  clear h
  go_enter Try.func33, Try.ntmps33
  go_wp2_with fail
  refine (markS_any _ ss k0 _ base H.out hk0 hl).mono ?_
  rintro e w2 ⟨rfl, hm, hg⟩
  have HM := Lib.hid hm
  have HG := Lib.hid hg
  clear hm hg
  go_wp2
  go_ret
  exact ⟨rfl, HM.out, (World.grownBy_alloc w _ _).trans HG.out⟩
theorem heldMux_any (v : Value) (k0 n : Nat) (w : World) (B : Nat) (h : RS w B v (marksS k0 n)) (hB : B ≤ w.heap.size) (hk0 : 1 ≤ k0) (hl : k0 + n ≤ 100000000) :
    Calls Try.prog 35 #[.agg #[v], .int .i64 k0] w fun e w' => e = .returned (.int .i64 ((k0 + n : Nat) : Int)) ∧ Below w.heap.size w w' := by
  have hb1 : Below w.heap.size w (w.alloc (.cells #[v] 35)) := (Below.refl _ w).alloc (Nat.le_refl _) _
  have c0 := (BK.new w #[v] 35).cell (i := 0) rfl
  have H := Lib.hid (h.below (hb1.mono hB))
  have HB1 := Lib.hid hb1
  obtain ⟨a, cap, rfl⟩ := h.shape
  clear h hb1
  go_enter Try.func35, Try.ntmps35
  go_wp2_with fail
  refine (heldS_any _ k0 n _ B H.out (Nat.le_trans hB HB1.out.size) hk0 hl).mono ?_
  rintro e w2 ⟨rfl, hb⟩
  have HB2 := Lib.hid (HB1.out.trans (hb.mono HB1.out.size))
  clear hb
  obtain ⟨q, hq⟩ : ∃ q, q = k0 + n := ⟨_, rfl⟩
  rw [← hq]
  have HQ := Lib.hid hq
  clear hq
  go_wp2
  go_ret
  exact ⟨by rw [← HQ.out]; rfl, HB2.out⟩
section
variable {Hh : Type} {enc : TypeId × Value → Hh} {W : World}
set_option maxRecDepth 100000 in
theorem mstrs_open {n : Nat} {v : Value} {y : DataW Hh × List MemPlace} (h : DataW.trod enc Try.prog W 0 (fun _ => true) true n 25 [v] = some y) : ∃ a len cap zs, v = .slice a len cap ∧ IsStrs W a len cap zs := by
  rcases open_strings Try.underlying25 Try.underlying9 (by kernel_rfl) h with ⟨hcs, _⟩ | ⟨x, l, c, zs, hcs, _, hl, hm, hz, _, hcell, hwz⟩
  · simp only [List.cons.injEq, and_true] at hcs
    exact ⟨none, 0, 0, [], hcs, .inl ⟨rfl, rfl, rfl, rfl⟩⟩
  · simp only [List.cons.injEq, and_true] at hcs
    exact ⟨_, _, _, zs, hcs, .inr ⟨_, rfl, hl, hm, by simpa using hz, hcell, hwz⟩⟩
set_option maxRecDepth 100000 in
theorem isMux_open {r : Reach} {b0 : Nat} {v : Value} {dd : DataW Hh} {p : List MemPlace} (hv : Value.okWide Try.prog W r b0 50 v) (h : DataW.Trod enc Try.prog W 0 (fun _ => true) true 50 v dd p) :
    ∃ (a : Option Addr) (l c : Nat) (z : List ByteArray), v = .agg #[.slice a l c] ∧ IsStrs W a l c z := by
  have kl : Try.prog.cellsOf 25 = 1 := by kernel_rfl
  obtain ⟨cs, rfl, hsz⟩ := okWide_struct Try.underlying50 hv
  obtain ⟨c0, rfl⟩ : ∃ c0, cs = #[c0] := by
    have h1 : cs.size = 1 := hsz.trans (by kernel_rfl)
    exact ⟨cs[0], Array.ext h1 (fun i hi hj => by simp at hj; subst hj; rfl)⟩
  obtain ⟨fuel, hf0⟩ := h
  obtain ⟨xs, k, _, _, _, hxl, hf⟩ := DataW.trod_struct Try.underlying50 hf0
  match xs, hxl with
  | [y0], _ =>
    have g0 := hf 0 _ rfl
    simp [Value.cells, kl] at g0
    obtain ⟨a, l, c, z, rfl, hm⟩ := mstrs_open g0
    exact ⟨a, l, c, z, rfl, hm⟩
end
end Go.Proofs.Ytplaagkcamjemaa
