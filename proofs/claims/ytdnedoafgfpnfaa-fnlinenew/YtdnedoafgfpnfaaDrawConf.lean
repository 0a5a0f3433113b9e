/- The draw of how frames are written. -/
import Derived.Test.YtdnedoafgfpnfaaKitFindA
import Derived.Test.YtdnedoafgfpnfaaRg
import Derived.Deep.DeepCutAuto
namespace Go.Proofs.Ytdnedoafgfpnfaa
open Go.ChangeShapes Go.WideShapes Go.ChangeAt Go.RowKit
theorem zero_conf (w : World) : (zeroValue 24).run Try.prog w = .ok (.agg #[.int .i64 0, .int .i64 0, .int .i64 0, .int .i64 0]) w := by kernel_rfl
def ConfPost (w : World) (B g N : Nat) (e : Ending) (w' : World) : Prop := ∃ a b d m : Int, e = .returned (cfV a b d m) ∧ confB ⟨a, b, d, m⟩ = true ∧ Rd w' B g N ∧ w.grownBy w' (some g)
theorem cells4 {W : World} {g : Nat} {a b d m : Value} {t : TypeId} (h : BK W g #[a, b, d, m] t) : W.cell? ⟨g, 0, none⟩ = some a ∧ W.cell? ⟨g, 1, none⟩ = some b ∧ W.cell? ⟨g, 2, none⟩ = some d ∧ W.cell? ⟨g, 3, none⟩ = some m := ⟨h.cell rfl, h.cell rfl, h.cell rfl, h.cell rfl⟩
theorem free4 {W : World} {g : Nat} {cs : Array Value} {t : TypeId} (h : BK W g cs t) : W.frozen? ⟨g, 0, none⟩ = false ∧ W.frozen? ⟨g, 1, none⟩ = false ∧ W.frozen? ⟨g, 2, none⟩ = false ∧ W.frozen? ⟨g, 3, none⟩ = false := ⟨h.free 0, h.free 1, h.free 2, h.free 3⟩
theorem confB_mk {a b d m : Int} (h1 : a = 1 ∨ a = 2 ∨ a = 3) (h2 : b = 2 ∨ b = 4) (h3 : 0 ≤ d ∧ d ≤ 40) (h4 : 0 ≤ m ∧ m ≤ 4294967295) (h5 : a = 1 ∨ m = 0) : confB ⟨a, b, d, m⟩ = true := by
  have hk : kindB b = true := by rcases h2 with rfl | rfl <;> rfl
  simp only [confB, inB, mapOkB, hk, Bool.and_eq_true, Bool.or_eq_true, decide_eq_true_eq]
  exact ⟨by omega, trivial, h3, h4, h5⟩
theorem conf_end {w W : World} {B g N : Nat} {a b d m : Int} (h : RW w W B g N) (hc : confB ⟨a, b, d, m⟩ = true) :
    ConfPost w B g N (.returned (cfV a b d m)) ((((W.setCell ⟨w.heap.size, 0, none⟩ (.int .i64 a)).setCell ⟨w.heap.size, 1, none⟩ (.int .i64 b)).setCell ⟨w.heap.size, 2, none⟩ (.int .i64 d)).setCell ⟨w.heap.size, 3, none⟩ (.int .i64 m)) := by
  have h2 := (((h.set (Nat.le_refl _) (o := 0) (.int .i64 a)).set (Nat.le_refl _) (o := 1) (.int .i64 b)).set (Nat.le_refl _) (o := 2) (.int .i64 d)).set (Nat.le_refl _) (o := 3) (.int .i64 m)
  exact ⟨a, b, d, m, rfl, hc, h2.1, h2.2.1⟩
set_option maxRecDepth 100000 in
set_option maxHeartbeats 2000000 in
theorem conf_any {w : World} {B g N : Nat} (h : Rd w B g N) (hN : N + 4 ≤ 1000000000) :
    Calls Try.prog 48 #[.pointer (some ⟨g, 0, none⟩)] w (ConfPost w B g (N + 4)) := by
  have hz := zero_conf
  have hgl := h.lt
  have HR0 := Lib.hid ((RW.start h).alloc (.cells #[.int .i64 0, .int .i64 0, .int .i64 0, .int .i64 0] 24))
  have HK0 := Lib.hid (BK.new w #[.int .i64 0, .int .i64 0, .int .i64 0, .int .i64 0] 24)
  clear h
  go_enter Try.func48, Try.ntmps48
  go_wp2_with fail
  refine (pick_any 3 HR0.out.1 (by omega)).mono ?_
  rintro e w1 ⟨⟨x, rfl, hx, _⟩, hr1, hg1⟩
  obtain ⟨hx0, hx3⟩ := hx (by omega)
  obtain ⟨a, hadd, ha1, ha3⟩ : ∃ a : Int, 1 + x = a ∧ 1 ≤ a ∧ a ≤ 3 := ⟨_, rfl, by omega, by omega⟩
  have HR1 := Lib.hid (HR0.out.next hr1 hg1)
  have HK1 := Lib.hid (HK0.out.next hg1 hgl)
  clear hx hr1 hg1 HR0 HK0
  have hs1 : w.heap.size + 1 ≤ w1.heap.size := HK1.out.lt
  go_wp2_with fail
  refine (one_any [2, 4] 3 (HR1.out.alloc _).1 (by omega) (by simp) (by simp) (by omega) (list_row w1 _ _ _ rfl)).mono ?_
  rintro e w2 ⟨b, hb, rfl, hr2, hg2⟩
  have HR2 := Lib.hid ((HR1.out.alloc _).next hr2 hg2)
  have HK2 := Lib.hid ((HK1.out.alloc _).next hg2 hgl)
  have hs2 : w.heap.size + 1 ≤ w2.heap.size := HK2.out.lt
  clear hr2 hg2 HR1 HK1
  go_wp2_with fail
  refine (one_any [0, 5, 12, 40] 3 (HR2.out.alloc _).1 (by omega) (by simp) (by simp) (by omega) (list_row w2 _ _ _ rfl)).mono ?_
  rintro e w3 ⟨d, hd, rfl, hr3, hg3⟩
  have hR3 := (HR2.out.alloc _).next hr3 hg3
  have hK3 := (HK2.out.alloc _).next hg3 hgl
  have hs3 : w.heap.size + 1 ≤ w3.heap.size := hK3.lt
  have HX := Lib.hid (BK.new w3 #[.int .i64 a, .int .i64 b, .int .i64 d, .int .i64 0] 24)
  have HR3 := Lib.hid (hR3.alloc (.cells #[.int .i64 a, .int .i64 b, .int .i64 d, .int .i64 0] 24))
  have HK3 := Lib.hid (hK3.alloc (.cells #[.int .i64 a, .int .i64 b, .int .i64 d, .int .i64 0] 24))
  have hbb : b = 2 ∨ b = 4 := by simpa using hb
  have hdd : d = 0 ∨ d = 5 ∨ d = 12 ∨ d = 40 := by simpa using hd
  clear hr3 hg3 HR2 HK2 hR3 hK3 hb hd
  by_cases hx1 : a = 1
  · have hxb : (a == 1) = true := by rw [beq_iff_eq]; exact hx1
    have HX1 := Lib.hid hx1
    clear hx1
    have x0 := HX.out.cell (i := 0) rfl
    have hrow := list_row (w3.alloc (.cells #[.int .i64 a, .int .i64 b, .int .i64 d, .int .i64 0] 24)) #[.int .i64 0, .int .i64 4294967295, .int .i64 655360] 3 [0, 4294967295, 655360] rfl
    rw [World.size_alloc] at hrow
    have HROW := Lib.hid hrow
    clear hrow
    go_wp2_with fail
    refine (one_any (m := w3.heap.size + 1) [0, 4294967295, 655360] 3 (HR3.out.alloc _).1 (by omega) (by simp) (by simp) (by omega) HROW.out).mono ?_
    rintro e w4 ⟨m, hm, rfl, hr4, hg4⟩
    have hX4 := (HX.out.alloc _).next hg4 (by omega)
    have hK4 := (HK3.out.alloc _).next hg4 hgl
    have hR4 := (HR3.out.alloc _).next hr4 hg4
    have hmm : m = 0 ∨ m = 4294967295 ∨ m = 655360 := by simpa using hm
    clear hr4 hg4 x0 hm HX HR3 HK3
    obtain ⟨x0, x1, x2, x3⟩ := cells4 hX4
    obtain ⟨y0, y1, y2, y3⟩ := free4 hX4
    obtain ⟨z0, z1, z2, z3⟩ := cells4 hK4
    obtain ⟨u0, u1, u2, u3⟩ := free4 hK4
    have HR4 := Lib.hid hR4
    have hne : w.heap.size ≠ w3.heap.size := by omega
    have hne2 : w3.heap.size ≠ w.heap.size := by omega
    clear hX4 hK4 hR4
    go_wp2
    exact bodyPost_ret (v := cfV a b d m) (by simp [results, Try.results48, go_sem, z0, z1, z2, z3]) rfl (conf_end (HR4.out.set (by omega) _) (confB_mk (.inl HX1.out) hbb (by omega) (by omega) (.inl HX1.out)))
  · have hxb : (a == 1) = false := beq_eq_false_iff_ne.2 hx1
    obtain ⟨x0, x1, x2, x3⟩ := cells4 HX.out
    obtain ⟨z0, z1, z2, z3⟩ := cells4 HK3.out
    obtain ⟨u0, u1, u2, u3⟩ := free4 HK3.out
    have hne : w.heap.size ≠ w3.heap.size := by omega
    have hne2 : w3.heap.size ≠ w.heap.size := by omega
    go_wp2
    exact bodyPost_ret (v := cfV a b d 0) (by simp [results, Try.results48, go_sem, z0, z1, z2, z3]) rfl (conf_end (HR3.out.mono (by omega)) (confB_mk (by omega) hbb (by omega) (by omega) (.inr rfl)))
def smallC (a b d m : Int) : Prop := (-1 ≤ a ∧ a ≤ 4) ∧ (0 ≤ b ∧ b ≤ 4) ∧ (-1 ≤ d ∧ d ≤ 41) ∧ (-1 ≤ m ∧ m ≤ 4294967295)
def AnyPost (w : World) (B g N : Nat) (e : Ending) (w' : World) : Prop := ∃ a b d m : Int, e = .returned (cfV a b d m) ∧ smallC a b d m ∧ Rd w' B g N ∧ w.grownBy w' (some g)
theorem any_end {w W : World} {B g N : Nat} {a b d m : Int} (h : RW w W B g N) (hc : (-1 ≤ a ∧ a ≤ 4) ∧ (0 ≤ b ∧ b ≤ 4) ∧ (-1 ≤ d ∧ d ≤ 41) ∧ (-1 ≤ m ∧ m ≤ 4294967295)) :
    AnyPost w B g N (.returned (cfV a b d m)) ((((W.setCell ⟨w.heap.size, 0, none⟩ (.int .i64 a)).setCell ⟨w.heap.size, 1, none⟩ (.int .i64 b)).setCell ⟨w.heap.size, 2, none⟩ (.int .i64 d)).setCell ⟨w.heap.size, 3, none⟩ (.int .i64 m)) := by
  have h2 := (((h.set (Nat.le_refl _) (o := 0) (.int .i64 a)).set (Nat.le_refl _) (o := 1) (.int .i64 b)).set (Nat.le_refl _) (o := 2) (.int .i64 d)).set (Nat.le_refl _) (o := 3) (.int .i64 m)
  exact ⟨a, b, d, m, rfl, hc, h2.1, h2.2.1⟩
set_option maxRecDepth 100000 in
set_option maxHeartbeats 4000000 in
theorem anyConf_any {w : World} {B g N : Nat} (h : Rd w B g N) (hN : N + 6 ≤ 1000000000) :
    Calls Try.prog 30 #[.pointer (some ⟨g, 0, none⟩)] w (AnyPost w B g (N + 6)) := by
  have hz := zero_conf
  have hgl := h.lt
  have HR0 := Lib.hid ((RW.start h).alloc (.cells #[.int .i64 0, .int .i64 0, .int .i64 0, .int .i64 0] 24))
  have HK0 := Lib.hid (BK.new w #[.int .i64 0, .int .i64 0, .int .i64 0, .int .i64 0] 24)
  clear h
  go_enter Try.func30, Try.ntmps30
  go_wp2_with fail
  refine (conf_any HR0.out.1 (by omega)).mono ?_
  rintro e w1 ⟨a, b, d, m, rfl, hc, hr1, hg1⟩
  obtain ⟨ha, hkb, hd, hm, _⟩ := confB_yes hc
  simp only at ha hkb hd hm
  have hkb2 := kind_or hkb
  have hR1 := HR0.out.next hr1 hg1
  have hK1 := HK0.out.next hg1 hgl
  have hs1 : w.heap.size + 1 ≤ w1.heap.size := hK1.lt
  have HX1 := Lib.hid (BK.new w1 #[.int .i64 a, .int .i64 b, .int .i64 d, .int .i64 m] 24)
  have HR1 := Lib.hid (hR1.alloc (.cells #[.int .i64 a, .int .i64 b, .int .i64 d, .int .i64 m] 24))
  have HK1 := Lib.hid (hK1.alloc (.cells #[.int .i64 a, .int .i64 b, .int .i64 d, .int .i64 m] 24))
  clear hr1 hg1 hR1 hK1 hc hkb HR0 HK0
  go_wp2_with fail
  refine (pick_any 12 HR1.out.1 (by omega)).mono ?_
  rintro e w2 ⟨⟨x, rfl, hx, _⟩, hr2, hg2⟩
  obtain ⟨hx0, hx12⟩ := hx (by omega)
  have HX2 := Lib.hid (HX1.out.next hg2 (by omega))
  have HK2 := Lib.hid (HK1.out.next hg2 hgl)
  have HR2 := Lib.hid (HR1.out.next hr2 hg2)
  have hs2 : w1.heap.size + 1 ≤ w2.heap.size := HX2.out.lt
  have hne : w.heap.size ≠ w1.heap.size := by omega
  have hne2 : w1.heap.size ≠ w.heap.size := by omega
  clear hx hr2 hg2 HX1 HK1 HR1
  by_cases h0 : x = 0
  · subst h0
    have hrow := list_row w2 #[.int .i64 0, .int .i64 4] 3 [0, 4] rfl
    have HROW := Lib.hid hrow
    clear hrow
    go_wp2_with fail
    refine (one_any (m := w2.heap.size) [0, 4] 3 (HR2.out.alloc _).1 (by omega) (by simp) (by simp) (by omega) HROW.out).mono ?_
    rintro e w3 ⟨y, hy, rfl, hr3, hg3⟩
    have hX3 := (HX2.out.alloc _).next hg3 (by omega)
    have hK3 := (HK2.out.alloc _).next hg3 hgl
    have hR3 := (HR2.out.alloc _).next hr3 hg3
    have hyy : y = 0 ∨ y = 4 := by simpa using hy
    obtain ⟨x0, x1, x2, x3⟩ := cells4 hX3
    obtain ⟨y0, y1, y2, y3⟩ := free4 hX3
    obtain ⟨z0, z1, z2, z3⟩ := cells4 hK3
    obtain ⟨u0, u1, u2, u3⟩ := free4 hK3
    have HR3 := Lib.hid hR3
    clear hr3 hg3 hy hX3 hK3 hR3
    go_wp2
    exact bodyPost_ret (v := cfV y b d m) (by simp [results, Try.results30, go_sem, z0, z1, z2, z3]) rfl (any_end (HR3.out.set (by omega) _) (by omega))
  by_cases h1 : x = 1
  · subst h1
    obtain ⟨x0, x1, x2, x3⟩ := cells4 HX2.out
    obtain ⟨y0, y1, y2, y3⟩ := free4 HX2.out
    obtain ⟨z0, z1, z2, z3⟩ := cells4 HK2.out
    obtain ⟨u0, u1, u2, u3⟩ := free4 HK2.out
    go_wp2
    exact bodyPost_ret (v := cfV a 3 d m) (by simp [results, Try.results30, go_sem, z0, z1, z2, z3]) rfl (any_end ((HR2.out.mono (by omega)).set (by omega) _) (by omega))
  by_cases h2 : x = 2
  · subst h2
    have hrow := list_row w2 #[.int .i64 (-1), .int .i64 41] 3 [-1, 41] rfl
    have HROW := Lib.hid hrow
    clear hrow
    go_wp2_with fail
    refine (one_any (m := w2.heap.size) [-1, 41] 3 (HR2.out.alloc _).1 (by omega) (by simp) (by simp) (by omega) HROW.out).mono ?_
    rintro e w3 ⟨y, hy, rfl, hr3, hg3⟩
    have hX3 := (HX2.out.alloc _).next hg3 (by omega)
    have hK3 := (HK2.out.alloc _).next hg3 hgl
    have hR3 := (HR2.out.alloc _).next hr3 hg3
    have hyy : y = -1 ∨ y = 41 := by simpa using hy
    obtain ⟨x0, x1, x2, x3⟩ := cells4 hX3
    obtain ⟨y0, y1, y2, y3⟩ := free4 hX3
    obtain ⟨z0, z1, z2, z3⟩ := cells4 hK3
    obtain ⟨u0, u1, u2, u3⟩ := free4 hK3
    have HR3 := Lib.hid hR3
    clear hr3 hg3 hy hX3 hK3 hR3
    go_wp2
    exact bodyPost_ret (v := cfV a b y m) (by simp [results, Try.results30, go_sem, z0, z1, z2, z3]) rfl (any_end (HR3.out.set (by omega) _) (by omega))
  by_cases h3 : x = 3
  · subst h3
    have hrow := list_row w2 #[.int .i64 (-1), .int .i64 1] 3 [-1, 1] rfl
    have HROW := Lib.hid hrow
    clear hrow
    go_wp2_with fail
    refine (one_any (m := w2.heap.size) [-1, 1] 3 (HR2.out.alloc _).1 (by omega) (by simp) (by simp) (by omega) HROW.out).mono ?_
    rintro e w3 ⟨y, hy, rfl, hr3, hg3⟩
    have hX3 := (HX2.out.alloc _).next hg3 (by omega)
    have hK3 := (HK2.out.alloc _).next hg3 hgl
    have hR3 := (HR2.out.alloc _).next hr3 hg3
    have hyy : y = -1 ∨ y = 1 := by simpa using hy
    obtain ⟨x0, x1, x2, x3⟩ := cells4 hX3
    obtain ⟨y0, y1, y2, y3⟩ := free4 hX3
    obtain ⟨z0, z1, z2, z3⟩ := cells4 hK3
    obtain ⟨u0, u1, u2, u3⟩ := free4 hK3
    have HR3 := Lib.hid hR3
    clear hr3 hg3 hy hX3 hK3 hR3
    go_wp2
    exact bodyPost_ret (v := cfV a b d y) (by simp [results, Try.results30, go_sem, z0, z1, z2, z3]) rfl (any_end (HR3.out.set (by omega) _) (by omega))
  have b0 : (x == 0) = false := beq_eq_false_iff_ne.2 h0
  have b1 : (x == 1) = false := beq_eq_false_iff_ne.2 h1
  have b2 : (x == 2) = false := beq_eq_false_iff_ne.2 h2
  have b3 : (x == 3) = false := beq_eq_false_iff_ne.2 h3
  obtain ⟨x0, x1, x2, x3⟩ := cells4 HX2.out
  obtain ⟨z0, z1, z2, z3⟩ := cells4 HK2.out
  obtain ⟨u0, u1, u2, u3⟩ := free4 HK2.out
  go_wp2
  exact bodyPost_ret (v := cfV a b d m) (by simp [results, Try.results30, go_sem, z0, z1, z2, z3]) rfl (any_end (HR2.out.mono (by omega)) (by omega))
end Go.Proofs.Ytdnedoafgfpnfaa
