/- Parts of a proof, 32: DrawLd. -/
import Derived.Test.YtmggoiabcboaiaaGreatZe1
import Derived.Test.YtmggoiabcboaiaaGreatZe2
import Derived.Test.YtmggoiabcboaiaaGreatZe3
import Derived.Test.YtmggoiabcboaiaaGreatZe4
import Derived.Test.YtmggoiabcboaiaaGreatZe5
import Derived.Test.YtmggoiabcboaiaaGreatZe6
import Derived.Test.YtmggoiabcboaiaaGreatZe7
import Derived.Test.YtmggoiabcboaiaaGreatZe8
import Derived.Test.YtmggoiabcboaiaaGreatZe9
import Derived.Test.YtmggoiabcboaiaaGreatZe10
import Derived.Test.YtmggoiabcboaiaaGreatZe11
import Derived.Test.YtmggoiabcboaiaaGreatZe12
import Derived.Test.YtmggoiabcboaiaaGreatZe13
import Derived.Test.YtmggoiabcboaiaaGreatZe14
import Derived.Test.YtmggoiabcboaiaaGreatZe15
import Derived.Test.YtmggoiabcboaiaaGreatZe16
import Derived.Test.YtmggoiabcboaiaaGreatZe17
import Derived.Test.YtmggoiabcboaiaaGreatZe18
import Derived.Test.YtmggoiabcboaiaaGreatZe19
import Derived.Test.YtmggoiabcboaiaaGreatZe20
import Derived.Test.YtmggoiabcboaiaaGreatZe21
import Derived.Test.YtmggoiabcboaiaaGreatZe22
import Derived.Test.YtmggoiabcboaiaaGreatZe23
import Derived.Test.YtmggoiabcboaiaaGreatZe24
import Derived.Test.YtmggoiabcboaiaaGreatZe25
import Derived.Test.YtmggoiabcboaiaaGreatZe26
import Derived.Test.YtmggoiabcboaiaaGreatZe27
import Derived.Test.YtmggoiabcboaiaaGreatZe28
import Derived.Test.YtmggoiabcboaiaaGreatZe29
import Derived.Test.YtmggoiabcboaiaaGreatZe30
import Derived.Test.YtmggoiabcboaiaaGreatZe31
namespace Go.Proofs.YtmggoiabcboaiaaGreat
open Go.ChangeShapes Go.WideShapes Go.ChangeAt Go.RowKit
set_option linter.unusedVariables false
def CalmDrawn (w : World) (e : Ending) (w' : World) : Prop := ∃ (a b d m nx : Int) (vm : Value) (ms : List ByteArray) (vg : Value) (gs : List ByteArray) (T : ByteArray) (tO : Bool) (H : ByteArray) (hO : Bool) (vt : Value) (ts : List ByteArray) (vb : Value) (bs : List ByteArray) (n : Nat),
 e = .returned (.tuple #[lnV a b d m vm nx vg T tO H hO vt vb, .int .i64 (n : Int)]) ∧ OL w' 0 vm ms vg gs vt ts vb bs ∧ fewLn ms gs T H ts bs ∧ (Lit.int .i64 a).wf = true ∧ n ≤ 13 ∧ Below w.heap.size w w'
theorem OS.keptR {w w' : World} {b B g N N' : Nat} {v : Value} {ss : List ByteArray} (h : OS w b v ss) (hg : w.grownBy w' (some g)) (hr : Rd w B g N) : OS w' b v ss := by
 refine h.kept hg ?_
 cases hv : v.ownBlock with
 | none => exact .inl rfl
 | some k =>
  refine .inr fun e => ?_
  injection e with e
  subst e
  obtain ⟨_, _, _, _, _, _, _, _, _, _, hgg, _⟩ := hr
  rcases h.2 with ⟨rfl, _⟩ | ⟨g', cap', cur', rfl, _, hg', _⟩
  ·simp [Value.ownBlock] at hv
  ·simp [Value.ownBlock] at hv
   subst hv
   rw [hg'] at hgg
   injection hgg with h1
   injection h1 with _ h2 _
   exact absurd h2 (by decide)
theorem OL.keptR {w w' : World} {b B g N N' : Nat} {vm vg vt vb : Value} {ms gs ts bs : List ByteArray} (h : OL w b vm ms vg gs vt ts vb bs) (hr' : Rd w' B g N') (hg : w.grownBy w' (some g)) (hr : Rd w B g N) : OL w' b vm ms vg gs vt ts vb bs := ⟨OS.keptR (N' := N') h.1 hg hr, OS.keptR (N' := N') h.2.1 hg hr, OS.keptR (N' := N') h.2.2.1 hg hr, OS.keptR (N' := N') h.2.2.2 hg hr⟩
set_option maxRecDepth 100000 in
set_option maxHeartbeats 2000000 in
theorem drawLineCalm_any {w : World} (ad : Option Addr) (len cap : Nat) (zs : List Int) (h : IsRow .u8 w ad len cap zs) :
  Calls Tryz.prog 19 #[.slice ad len cap] w (CalmDrawn w) := by
 have hzl := zero_line
 have hb0 : Below w.heap.size w (w.alloc (.cells #[.int .i64 0, .int .i64 0, .int .i64 0, .int .i64 0, .slice none 0 0, .int .i64 0, .slice none 0 0, .string ⟨#[]⟩, .bool false, .string ⟨#[]⟩, .bool false, .slice none 0 0, .slice none 0 0] 32)) := (Below.refl _ w).alloc (Nat.le_refl _) _
 have HQ := Lib.hid (BK.new w #[.int .i64 0, .int .i64 0, .int .i64 0, .int .i64 0, .slice none 0 0, .int .i64 0, .slice none 0 0, .string ⟨#[]⟩, .bool false, .string ⟨#[]⟩, .bool false, .slice none 0 0, .slice none 0 0] 32)
 have HH := Lib.hid (h.keep hb0)
 have HB := Lib.hid hb0
 clear h hb0
 go_enter Tryz.func19, Tryz.ntmps19
 go_wp2_with fail
 refine (open_any ad len cap zs HH.out).mono ?_
 rintro e w1 ⟨rfl, hr1, hb1, hs1⟩
 rw [World.size_alloc] at hr1 ⊢
 have hs1' : w1.heap.size = w.heap.size + 2 := by rw [hs1]; simp
 have HR := Lib.hid hr1
 have HQ := Lib.hid (HQ.out.from hb1)
 have HB := Lib.hid (HB.out.trans (hb1.mono HB.out.size))
 have HS1 := Lib.hid hs1'
 clear hr1 hb1 hs1 hs1'
 go_wp2_with fail
 refine (l20Line_any HR.out (by omega)).mono ?_
 rintro e w2 ⟨a, b, d, m, nx, vm, ms, vg, gs, T, tO, H, hO, vt, ts, vb, bs, rfl, hol, hfew, wa, hrw⟩
 obtain ⟨AmL, CmL, hsh⟩ := hol.1.reads.shape
 subst hsh
 obtain ⟨AgL, CgL, hsh⟩ := hol.2.1.reads.shape
 subst hsh
 obtain ⟨AtL, CtL, hsh⟩ := hol.2.2.1.reads.shape
 subst hsh
 obtain ⟨AbL, CbL, hsh⟩ := hol.2.2.2.reads.shape
 subst hsh
 have hsz2 : w.heap.size + 2 ≤ w2.heap.size := by have h := hrw.size; have h1 := HS1.out; omega
 have hba := (Below.refl w2.heap.size w2).alloc (Nat.le_refl _) (.cells #[.int .i64 a, .int .i64 b, .int .i64 d, .int .i64 m, .slice AmL ms.length CmL, .int .i64 nx, .slice AgL gs.length CgL, .string T, .bool tO, .string H, .bool hO, .slice AtL ts.length CtL, .slice AbL bs.length CbL] 32)
 have HQ := Lib.hid ((HQ.out.grown hrw.2.1 (by simp)).from hba)
 have HB := Lib.hid ((HB.out.trans (grown_below hrw.2.1 HB.out.size (by omega))).trans (hba.mono (by omega)))
 have HR := Lib.hid (Rd.alloc hrw.1 (.cells #[.int .i64 a, .int .i64 b, .int .i64 d, .int .i64 m, .slice AmL ms.length CmL, .int .i64 nx, .slice AgL gs.length CgL, .string T, .bool tO, .string H, .bool hO, .slice AtL ts.length CtL, .slice AbL bs.length CbL] 32))
 have HK := Lib.hid (BK.new w2 #[.int .i64 a, .int .i64 b, .int .i64 d, .int .i64 m, .slice AmL ms.length CmL, .int .i64 nx, .slice AgL gs.length CgL, .string T, .bool tO, .string H, .bool hO, .slice AtL ts.length CtL, .slice AbL bs.length CbL] 32)
 have HO := Lib.hid (hol.below hba)
 have HF := Lib.hid hfew
 have HSZ := Lib.hid (show w2.heap.size + 1 ≤ (w2.alloc (.cells #[.int .i64 a, .int .i64 b, .int .i64 d, .int .i64 m, .slice AmL ms.length CmL, .int .i64 nx, .slice AgL gs.length CgL, .string T, .bool tO, .string H, .bool hO, .slice AtL ts.length CtL, .slice AbL bs.length CbL] 32)).heap.size by simp)
 clear hol hfew hrw hba
 obtain ⟨c0, c1, c2, c3, c4, c5, c6, c7, c8, c9, c10, c11, c12⟩ := cells13 HK.out
 go_wp2_with fail
 clear c0 c1 c2 c3 c4 c5 c6 c7 c8 c9 c10 c11 c12
 have hKq := HK.out.drew
 have hQ := HQ.out.drew
 have hOl := OL.drew HO.out
 have hR := HR.out.drew
 have hB := HB.out.drew
 have hS := cells13 hKq
 refine wp_region_held_drew (S := (fun wx => wx.cell? ⟨w2.heap.size, 0, none⟩ = some (.int .i64 a) ∧ wx.cell? ⟨w2.heap.size, 1, none⟩ = some (.int .i64 b) ∧ wx.cell? ⟨w2.heap.size, 2, none⟩ = some (.int .i64 d) ∧ wx.cell? ⟨w2.heap.size, 3, none⟩ = some (.int .i64 m) ∧ wx.cell? ⟨w2.heap.size, 4, none⟩ = some (.slice AmL ms.length CmL) ∧ wx.cell? ⟨w2.heap.size, 5, none⟩ = some (.int .i64 nx) ∧ wx.cell? ⟨w2.heap.size, 6, none⟩ = some (.slice AgL gs.length CgL) ∧ wx.cell? ⟨w2.heap.size, 7, none⟩ = some (.string T) ∧ wx.cell? ⟨w2.heap.size, 8, none⟩ = some (.bool tO) ∧ wx.cell? ⟨w2.heap.size, 9, none⟩ = some (.string H) ∧ wx.cell? ⟨w2.heap.size, 10, none⟩ = some (.bool hO) ∧ wx.cell? ⟨w2.heap.size, 11, none⟩ = some (.slice AtL ts.length CtL) ∧ wx.cell? ⟨w2.heap.size, 12, none⟩ = some (.slice AbL bs.length CbL))) (by kernel_rfl) hS (fun hHeld => ?_)
 obtain ⟨wd, hwd⟩ : ∃ x, x = (w2.alloc (.cells #[.int .i64 a, .int .i64 b, .int .i64 d, .int .i64 m, .slice AmL ms.length CmL, .int .i64 nx, .slice AgL gs.length CgL, .string T, .bool tO, .string H, .bool hO, .slice AtL ts.length CtL, .slice AbL bs.length CbL] 32)).drew := ⟨_, rfl⟩
 have hsz : w2.heap.size + 1 ≤ wd.heap.size := by rw [hwd]; exact HSZ.out
 rw [← hwd] at hKq hQ hOl hR hB hS ⊢
 clear hwd
 refine tkH 0 ?_ rfl (Or.inl ⟨by rfl, ?_⟩) ?_; rotate_left
 ·intro wq hSw; (try dsimp only at hSw); (try simp only [gT, gZ]); go_simp; (try with_reducible rfl)
 simp only [Act.put, gT, gZ, sT, sZ, sS]
 refine tkH 1 ?_ rfl (Or.inl ⟨by rfl, ?_⟩) ?_; rotate_left
 ·intro wq hSw; (try dsimp only at hSw); (try simp only [gT, gS, gZ]); go_simp; (try with_reducible rfl)
 simp only [Act.put, gT, gS, gZ, sT, sZ, sS]
 have hba := (Below.refl wd.heap.size wd).alloc (Nat.le_refl _) (.cells #[.int .i64 0, .int .i64 1, .int .i64 4, .int .i64 12, .int .i64 13] 3)
 have hKq := hKq.from hba
 have hQ := hQ.from hba
 have hOl := hOl.below hba
 have hR := Rd.alloc hR (.cells #[.int .i64 0, .int .i64 1, .int .i64 4, .int .i64 12, .int .i64 13] 3)
 have hB := hB.trans (hba.mono hB.size)
 have hS := cells13 hKq
 have hrow := list_row wd #[.int .i64 0, .int .i64 1, .int .i64 4, .int .i64 12, .int .i64 13] 3 [0, 1, 4, 12, 13] rfl
 refine wpAnyH_ready (rs := [2]) (by kernel_rfl) (by simp) ?_
 refine AllReadyH.cons rfl (fun K hK => ?_) AllReadyH.nil
 (try simp only [gT, gS, gZ])
 skip
 go_simp
 skip
 refine hK.out _ _ hS (fun hHeld => ?_)
 clear hK K
 refine wpAnyH_ready (rs := [3]) (by kernel_rfl) (by simp) ?_
 refine AllReadyH.cons rfl (fun K hK => ?_) AllReadyH.nil
 (try simp only [gT, gS, gZ])
 go_simp
 go_at_call 49
 refine (one_any (m := wd.heap.size) [0, 1, 4, 12, 13] 3 hR (by omega) (by simp) (by simp) (by omega) hrow).mono ?_
 rintro e w4 ⟨y, hy, rfl, hr4, hg4⟩
 obtain ⟨n, hn, hn13⟩ : ∃ n : Nat, y = (n : Int) ∧ n ≤ 13 := by simp only [List.mem_cons, List.not_mem_nil, or_false] at hy; exact ⟨y.toNat, by omega, by omega⟩
 subst hn
 have hKq := hKq.next hg4 (by omega)
 have hO4 : OL w4 0 _ ms _ gs _ ts _ bs := OL.keptR hOl hr4 hg4 hR
 have hQ := hQ.grown hg4 (by simp)
 have hB := hB.trans (grown_below hg4 hB.size (by omega))
 have hS := cells13 hKq
 refine hK.out _ _ hS (fun hHeld => ?_)
 clear hK K
 obtain ⟨z0, z1, z2, z3, z4, z5, z6, z7, z8, z9, z10, z11, z12⟩ := cells13 hQ
 obtain ⟨f0, f1, f2, f3, f4, f5, f6, f7, f8, f9, f10, f11, f12⟩ := free13 hQ
 have hS := cells13 (show BK (set13 w4 w.heap.size (.int .i64 a) (.int .i64 b) (.int .i64 d) (.int .i64 m) (.slice AmL ms.length CmL) (.int .i64 nx) (.slice AgL gs.length CgL) (.string T) (.bool tO) (.string H) (.bool hO) (.slice AtL ts.length CtL) (.slice AbL bs.length CbL)) w2.heap.size #[.int .i64 a, .int .i64 b, .int .i64 d, .int .i64 m, .slice AmL ms.length CmL, .int .i64 nx, .slice AgL gs.length CgL, .string T, .bool tO, .string H, .bool hO, .slice AtL ts.length CtL, .slice AbL bs.length CbL] 32 from set13_far hKq (by omega))
 refine wpAnyH_ready (rs := [4]) (by kernel_rfl) (by simp) ?_
 refine AllReadyH.cons rfl (fun K hK => ?_) AllReadyH.nil
 (try simp only [gT, gS, gZ])
 skip
 go_simp
 skip
 refine hK.out _ _ hS (fun hHeld => ?_)
 clear hK K
 refine tkH 5 ?_ rfl (Or.inl ⟨by rfl, ?_⟩) ?_; rotate_left
 ·intro wq hSw; (try dsimp only at hSw); (try simp only [gT, gS, gZ]); go_simp; (try with_reducible rfl)
 simp only [Act.put, gT, gS, gZ, sT, sZ, sS]
 refine wpAnyH_done (by kernel_rfl) ?_ _
 have hO5 : OL (set13 w4 w.heap.size (.int .i64 a) (.int .i64 b) (.int .i64 d) (.int .i64 m) (.slice AmL ms.length CmL) (.int .i64 nx) (.slice AgL gs.length CgL) (.string T) (.bool tO) (.string H) (.bool hO) (.slice AtL ts.length CtL) (.slice AbL bs.length CbL)) 0 (.slice AmL ms.length CmL) ms (.slice AgL gs.length CgL) gs (.slice AtL ts.length CtL) ts (.slice AbL bs.length CbL) bs := ⟨set13_own hO4.1 (own_ne hQ line_str hO4.1), set13_own hO4.2.1 (own_ne hQ line_str hO4.2.1), set13_own hO4.2.2.1 (own_ne hQ line_str hO4.2.2.1), set13_own hO4.2.2.2 (own_ne hQ line_str hO4.2.2.2)⟩
 have HQ9 := Lib.hid hQ
 have HO5 := Lib.hid hO5
 have HB5 := Lib.hid (show Below w.heap.size w (set13 w4 w.heap.size (.int .i64 a) (.int .i64 b) (.int .i64 d) (.int .i64 m) (.slice AmL ms.length CmL) (.int .i64 nx) (.slice AgL gs.length CgL) (.string T) (.bool tO) (.string H) (.bool hO) (.slice AtL ts.length CtL) (.slice AbL bs.length CbL)) from set13_below hB (Nat.le_refl _))
 clear hS hKq hQ hOl hR hB hO4 hO5 hr4 hg4 hrow hba z0 z1 z2 z3 z4 z5 z6 z7 z8 z9 z10 z11 z12 f0 f1 f2 f3 f4 f5 f6 f7 f8 f9 f10 f11 f12
 go_wp2
 refine line_ret2 Tryz.results19 (set13_bk (v0 := .int .i64 a) (v1 := .int .i64 b) (v2 := .int .i64 d) (v3 := .int .i64 m) (v4 := .slice AmL ms.length CmL) (v5 := .int .i64 nx) (v6 := .slice AgL gs.length CgL) (v7 := .string T) (v8 := .bool tO) (v9 := .string H) (v10 := .bool hO) (v11 := .slice AtL ts.length CtL) (v12 := .slice AbL bs.length CbL) HQ9.out rfl) rfl rfl rfl ?_
 exact ⟨_, _, _, _, _, _, ms, _, gs, _, _, _, _, _, ts, _, bs, n, rfl, HO5.out, HF.out, wa, hn13, HB5.out⟩
end Go.Proofs.YtmggoiabcboaiaaGreat
