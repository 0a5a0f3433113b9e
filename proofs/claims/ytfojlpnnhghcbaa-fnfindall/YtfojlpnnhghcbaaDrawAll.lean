/- The draw of a configuration and bytes that come. -/
import Derived.Test.YtfojlpnnhghcbaaDrawStream
namespace Go.Proofs.Ytfojlpnnhghcbaa
open Go.ChangeShapes Go.WideShapes Go.ChangeAt Go.RowKit
def AllDrawn (w : World) (e : Ending) (w' : World) : Prop := ∃ (a b d m : Int) (s : ByteArray), e = .returned (.tuple #[cfV a b d m, .string s]) ∧ smallC a b d m ∧ s.size ≤ 600 ∧ Below w.heap.size w w'
theorem four_set {w W : World} {a b d m : Int} (hB : Below w.heap.size w W) : Below w.heap.size w ((((W.setCell ⟨w.heap.size, 0, none⟩ (.int .i64 a)).setCell ⟨w.heap.size, 1, none⟩ (.int .i64 b)).setCell ⟨w.heap.size, 2, none⟩ (.int .i64 d)).setCell ⟨w.heap.size, 3, none⟩ (.int .i64 m)) :=
  (((hB.setCell (p := ⟨w.heap.size, 0, none⟩) (Nat.le_refl _) _).setCell (p := ⟨w.heap.size, 1, none⟩) (Nat.le_refl _) _).setCell (p := ⟨w.heap.size, 2, none⟩) (Nat.le_refl _) _).setCell (p := ⟨w.heap.size, 3, none⟩) (Nat.le_refl _) _
set_option maxRecDepth 100000 in
set_option maxHeartbeats 2000000 in
theorem drawAll_any {w : World} (ad : Option Addr) (len cap : Nat) (zs : List Int) (h : IsRow .u8 w ad len cap zs) :
    Calls Try.prog 25 #[.slice ad len cap] w (AllDrawn w) := by
  have hz := zero_conf
  have HK0 := Lib.hid (BK.new w #[.int .i64 0, .int .i64 0, .int .i64 0, .int .i64 0] 24)
  have HB0 := Lib.hid ((Below.refl w.heap.size w).alloc (Nat.le_refl _) (.cells #[.int .i64 0, .int .i64 0, .int .i64 0, .int .i64 0] 24))
  have HI0 := Lib.hid (h.keep HB0.out)
  clear h
  go_enter Try.func25, Try.ntmps25
  go_wp2_with fail
  refine (open_any ad len cap zs HI0.out).mono ?_
  rintro e w1 ⟨rfl, hr1, hb1, hs1⟩
  rw [World.size_alloc] at hr1 hs1
  have HR1 := Lib.hid hr1
  have hK1 := HK0.out.from hb1
  have HB1 := Lib.hid (HB0.out.trans (hb1.mono (by simp)))
  have HK1 := Lib.hid hK1
  have HS1 := Lib.hid hs1
  clear hr1 hb1 hK1 hs1 HK0 HB0 HI0
  rw [World.size_alloc]
  go_wp2_with fail
  refine (anyConf_any HR1.out (by omega)).mono ?_
  rintro e w2 ⟨a, b, d, m, rfl, hc, hr2, hg2⟩
  have hK2 := HK1.out.grown hg2 (by simp)
  have HC := Lib.hid hc
  have hB2 := HB1.out.trans (grown_below hg2 (by have := HS1.out; omega) (Nat.le_succ _))
  have hR2 := hr2.alloc (.cells #[.int .i64 a, .int .i64 b, .int .i64 d, .int .i64 m] 24)
  have hX2 := BK.new w2 #[.int .i64 a, .int .i64 b, .int .i64 d, .int .i64 m] 24
  have hs2 : w.heap.size + 2 ≤ w2.heap.size := by have := hg2.size; have := HS1.out; omega
  have hK2 := hK2.alloc (.cells #[.int .i64 a, .int .i64 b, .int .i64 d, .int .i64 m] 24)
  have hB2 := hB2.alloc hB2.size (.cells #[.int .i64 a, .int .i64 b, .int .i64 d, .int .i64 m] 24)
  clear hr2 hg2 hc HR1 HK1 HB1 HS1
  obtain ⟨x0, x1, x2, x3⟩ := cells4 hX2
  have HX2 := Lib.hid hX2
  have HK2 := Lib.hid hK2
  have HR2 := Lib.hid hR2
  have HB2 := Lib.hid hB2
  clear hX2 hK2 hR2 hB2
  go_wp2_with fail
  refine (l7ConfOk_any a b d m _).mono ?_
  rintro e w4 ⟨rfl, hb4⟩
  have hX := HX2.out.from hb4
  have hQ := HK2.out.from hb4
  have hR := HR2.out.grow (below_grown hb4 none) (by simp) (by simp)
  have hB := HB2.out.trans (hb4.mono HB2.out.size)
  obtain ⟨x0, x1, x2, x3⟩ := cells4 hX
  clear hb4 HX2 HK2 HR2 HB2
  cases hc : confB ⟨a, b, d, m⟩ with
  | false =>
    obtain ⟨z0, z1, z2, z3⟩ := cells4 hQ
    obtain ⟨u0, u1, u2, u3⟩ := free4 hQ
    have HB := Lib.hid hB
    clear hX hQ hR hB hc
    go_wp2
    exact bodyPost_ret (v := .tuple #[cfV a b d m, .string ⟨#[97]⟩]) (by simp [results, Try.results25, go_sem, z0, z1, z2, z3]) rfl ⟨a, b, d, m, ⟨#[97]⟩, rfl, HC.out, by show 1 ≤ 600; omega, four_set HB.out⟩
  | true =>
    have HCB := Lib.hid hc
    clear hc
    go_wp2_with fail
    have hX := hX.drew
    have hQ := hQ.drew
    have hR := hR.drew
    have hB := hB.drew
    have hS := cells4 hX
    refine wp_region_held_drew (S := (fun wx => wx.cell? ⟨w2.heap.size, 0, none⟩ = some (.int .i64 a) ∧ wx.cell? ⟨w2.heap.size, 1, none⟩ = some (.int .i64 b) ∧ wx.cell? ⟨w2.heap.size, 2, none⟩ = some (.int .i64 d) ∧ wx.cell? ⟨w2.heap.size, 3, none⟩ = some (.int .i64 m))) (by kernel_rfl) hS (fun hHeld => ?_)
    refine wpAnyH_take (i := 0) (v := ?_) rfl (by kernel_rfl) (by kernel_rfl) (by kernel_rfl) (fun _ _ _ h => h) (Or.inl ⟨by rfl, ?_⟩) (by assumption) ?_
    rotate_left
    · intro wq hSw
      (try dsimp only at hSw)
      (try simp only [List.getElem_toArray, List.getElem_cons_zero])
      go_simp
      (try with_reducible rfl)
    simp only [Act.put, List.getElem_toArray, List.getElem_cons_zero, List.setIfInBounds_toArray, List.set_cons_zero, List.set_cons_succ]
    refine wpAnyH_take (i := 1) (v := ?_) rfl (by kernel_rfl) (by kernel_rfl) (by kernel_rfl) (fun _ _ _ h => h) (Or.inl ⟨by rfl, ?_⟩) (by assumption) ?_
    rotate_left
    · intro wq hSw
      (try dsimp only at hSw)
      (try simp only [List.getElem_toArray, List.getElem_cons_succ, List.getElem_cons_zero])
      go_simp
      (try with_reducible rfl)
    simp only [Act.put, List.getElem_toArray, List.getElem_cons_succ, List.getElem_cons_zero, List.setIfInBounds_toArray, List.set_cons_zero, List.set_cons_succ]
    refine wpAnyH_take (i := 2) (v := ?_) rfl (by kernel_rfl) (by kernel_rfl) (by kernel_rfl) (fun _ _ _ h => h) (Or.inl ⟨by rfl, ?_⟩) (by assumption) ?_
    rotate_left
    · intro wq hSw
      (try dsimp only at hSw)
      (try simp only [List.getElem_toArray, List.getElem_cons_succ, List.getElem_cons_zero])
      go_simp
      (try with_reducible rfl)
    simp only [Act.put, List.getElem_toArray, List.getElem_cons_succ, List.getElem_cons_zero, List.setIfInBounds_toArray, List.set_cons_zero, List.set_cons_succ]
    refine wpAnyH_ready (rs := [3]) (by kernel_rfl) (by simp) ?_
    refine AllReadyH.cons rfl (fun K hK => ?_) AllReadyH.nil
    (try simp only [List.getElem_toArray, List.getElem_cons_succ, List.getElem_cons_zero])
    go_simp
    go_at_call 49
    refine (stream_any hR (by omega) HCB.out).mono ?_
    rintro e w6 ⟨t, rfl, ht, hr6, hg6⟩
    have hX := hX.next hg6 (by omega)
    have hQ := hQ.grown hg6 (by simp)
    have hB := hB.trans (grown_below hg6 hB.size (Nat.le_succ _))
    have hS := cells4 hX
    refine hK.out _ _ hS (fun hHeld => ?_)
    clear hK K
    obtain ⟨z0, z1, z2, z3⟩ := cells4 hQ
    obtain ⟨u0, u1, u2, u3⟩ := free4 hQ
    have hXX := (((hX.far (j := w.heap.size) (o := 0) (by omega) (.int .i64 a)).far (j := w.heap.size) (o := 1) (by omega) (.int .i64 b)).far (j := w.heap.size) (o := 2) (by omega) (.int .i64 d)).far (j := w.heap.size) (o := 3) (by omega) (.int .i64 m)
    have hS := cells4 hXX
    refine wpAnyH_ready (rs := [4]) (by kernel_rfl) (by simp) ?_
    refine AllReadyH.cons rfl (fun K hK => ?_) AllReadyH.nil
    (try simp only [List.getElem_toArray, List.getElem_cons_succ, List.getElem_cons_zero])
    skip
    go_simp
    skip
    refine hK.out _ _ hS (fun hHeld => ?_)
    clear hK K
    refine wpAnyH_take (i := 5) (v := ?_) rfl (by kernel_rfl) (by kernel_rfl) (by kernel_rfl) (fun _ _ _ h => h) (Or.inl ⟨by rfl, ?_⟩) (by assumption) ?_
    rotate_left
    · intro wq hSw
      (try dsimp only at hSw)
      (try simp only [List.getElem_toArray, List.getElem_cons_succ, List.getElem_cons_zero])
      go_simp
      (try with_reducible rfl)
    simp only [Act.put, List.getElem_toArray, List.getElem_cons_succ, List.getElem_cons_zero, List.setIfInBounds_toArray, List.set_cons_zero, List.set_cons_succ]
    refine wpAnyH_done (by kernel_rfl) ?_ _
    have HB := Lib.hid hB
    clear hX hQ hR hB hXX hS hr6 hg6
    go_wp2
    exact bodyPost_ret (v := .tuple #[cfV a b d m, .string t]) (by simp [results, Try.results25, go_sem, z0, z1, z2, z3]) rfl ⟨a, b, d, m, t, rfl, HC.out, ht, four_set HB.out⟩
end Go.Proofs.Ytfojlpnnhghcbaa
