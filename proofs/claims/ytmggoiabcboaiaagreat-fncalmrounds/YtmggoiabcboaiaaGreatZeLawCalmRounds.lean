/- FnCalmRounds: rounds are one behind the other: of every line that the law draws, and how many rounds, so many rounds without a loss are one less, and then one. For every code that the law draws from. No condition. -/
import Derived.Test.YtmggoiabcboaiaaGreatZe1
import Derived.Test.YtmggoiabcboaiaaGreatZe2
import Derived.Test.YtmggoiabcboaiaaGreatZe3
import Derived.Test.YtmggoiabcboaiaaGreatZe4
import Derived.Test.YtmggoiabcboaiaaGreatZe5
import Derived.Test.YtmggoiabcboaiaaGreatZe6
import Derived.Test.YtmggoiabcboaiaaGreatZe7
import Derived.Test.YtmggoiabcboaiaaGreatZe8
import Derived.Test.YtmggoiabcboaiaaGreatZe9
import Derived.Test.YtmggoiabcboaiaaGreatZe10
import Derived.Test.YtmggoiabcboaiaaGreatZe11
import Derived.Test.YtmggoiabcboaiaaGreatZe12
import Derived.Test.YtmggoiabcboaiaaGreatZe13
import Derived.Test.YtmggoiabcboaiaaGreatZe14
import Derived.Test.YtmggoiabcboaiaaGreatZe15
import Derived.Test.YtmggoiabcboaiaaGreatZe16
import Derived.Test.YtmggoiabcboaiaaGreatZe17
import Derived.Test.YtmggoiabcboaiaaGreatZe18
import Derived.Test.YtmggoiabcboaiaaGreatZe19
import Derived.Test.YtmggoiabcboaiaaGreatZe20
import Derived.Test.YtmggoiabcboaiaaGreatZe21
import Derived.Test.YtmggoiabcboaiaaGreatZe22
import Derived.Test.YtmggoiabcboaiaaGreatZe23
import Derived.Test.YtmggoiabcboaiaaGreatZe24
import Derived.Test.YtmggoiabcboaiaaGreatZe25
import Derived.Test.YtmggoiabcboaiaaGreatZe26
import Derived.Test.YtmggoiabcboaiaaGreatZe27
import Derived.Test.YtmggoiabcboaiaaGreatZe28
import Derived.Test.YtmggoiabcboaiaaGreatZe29
import Derived.Test.YtmggoiabcboaiaaGreatZe30
import Derived.Test.YtmggoiabcboaiaaGreatZe31
import Derived.Test.YtmggoiabcboaiaaGreatZe32
namespace Go.Proofs.YtmggoiabcboaiaaGreat.fnCalmRounds
open Go.ChangeShapes Go.WideShapes Go.ChangeAt Go.RowKit
set_option linter.unusedVariables false
theorem held_few {q : Ls} (h : q.Ok) : q.f.held.length ≤ 1048576 ∧ q.h.held.length ≤ 1048576 := by
 have h1 := (okF_yes h.okf).2.1
 have h2 := (okF_yes h.okh).2.1
 have h3 := (confB_yes h.conf)
 have h4 := h3.2.2.1.2
 have h5 := kind_or h3.2.1
 unfold holdN at h1 h2
 constructor <;> omega
theorem ok_few {q : Ls} (h : q.Ok) : fewLn q.ms q.gs (bzL q.f.held) (bzL q.h.held) q.ts q.bs := by
 have h1 := held_few h
 have h2 := h.ml
 have h3 := h.gl
 have h4 := h.tl
 have h5 := h.bl
 have h6 := (confB_yes h.conf).2.2.1.2
 exact ⟨⟨by rw [bzL_size]; exact h1.1, by rw [bzL_size]; exact h1.2⟩, ⟨by omega, by omega, by omega, by omega⟩, fun s hs => by have := h.mz s hs; omega, h.gz, h.tz, h.bz⟩
theorem few {q : Ls} (h : q.Ok ∨ q = zeroLs) : q.ms.length ≤ 1048576 ∧ q.gs.length ≤ 1048576 ∧ q.ts.length ≤ 1048576 ∧ q.bs.length ≤ 1048576 := by
 rcases h with h | rfl
 ·have h1 := h.ml
  have h2 := h.gl
  have h3 := h.tl
  have h4 := h.bl
  exact ⟨by omega, by omega, by omega, by omega⟩
 ·exact ⟨Nat.zero_le _, Nat.zero_le _, Nat.zero_le _, Nat.zero_le _⟩
/-- one more round, of a line at work that is ok -/
theorem one_round (p : Ls) (h : p.Ok) (W : World) (x1 x2 x3 x4 : Value) (ho : OL W 0 x1 p.ms x3 p.gs x4 p.ts x2 p.bs) :
  Calls Tryz.prog 17 #[lsV p x1 x2 x3 x4, .int .i64 1] W (ResL W p.calmP) := by
 have hres : calmRes (mkLs p.c.codec p.c.sum p.c.most p.c.map p.ms (p.nx : Int) p.gs (bzL p.f.held) p.f.over (bzL p.h.held) p.h.over p.ts p.bs) (okLn p.c.codec p.c.sum p.c.most p.c.map p.ms (p.nx : Int) p.gs (bzL p.f.held) p.f.over (bzL p.h.held) p.h.over p.ts p.bs) 1 = p.calmP := by
  unfold calmRes okLn
  rw [if_pos ⟨ok_line h, by decide, by decide⟩]
  unfold mkLs
  rw [bzL_list, bzL_list]
  rfl
 have wa : (Lit.int .i64 p.c.codec).wf = true := by
  have := (confB_yes h.conf).1
  simp [Lit.wf, IntKind.min, IntKind.max, IntKind.signed, IntKind.bits]
  omega
 rw [← hres]
 exact implLineCalm_any p.c.codec p.c.sum p.c.most p.c.map (p.nx : Int) x1 p.ms x3 p.gs x4 p.ts x2 p.bs (bzL p.f.held) (bzL p.h.held) p.f.over p.h.over 1 W W.heap.size ho.reads (Nat.le_refl _) wa (ok_few h)
/-- a line that is ok, told again by its fields -/
theorem told_again {a b d m nx : Int} {ms gs ts bs : List ByteArray} {T H : ByteArray} {tO hO : Bool} (hok : okLn a b d m ms nx gs T tO H hO ts bs = true) (hz : (∀ s ∈ gs, s.size ≤ 1048576) ∧ (∀ s ∈ ts, s.size ≤ 1048576) ∧ (∀ s ∈ bs, s.size ≤ 1048576)) :
  ∀ vm vb vg vt, lsV (mkLs a b d m ms nx gs T tO H hO ts bs) vm vb vg vt = lnV a b d m vm nx vg T tO H hO vt vb := by
 intro vm vb vg vt
 have h := (okLn_yes hok hz).2
 show lnV a b d m vm ((mkLs a b d m ms nx gs T tO H hO ts bs).nx : Int) vg (bzL T.data.toList) tO (bzL H.data.toList) hO vt vb = _
 rw [← h, bzL_of, bzL_of]
set_option maxRecDepth 100000 in
set_option maxHeartbeats 4000000 in
theorem walk (a0 : Option Addr) (len0 cap0 : Nat) (z0 : List Int) (w : World) (w0 : IsRow .u8 w a0 len0 cap0 z0) :
  Calls Tryz.prog 6 #[.slice a0 len0 cap0] w fun e w' => e = .returned (.bool true) ∧ Below w.heap.size w w' := by
 by_cases hbig : 1048576 < len0
 ·go_enter Tryz.func6, Tryz.ntmps6
  go_wp2
  go_ret
  exact ⟨rfl, Below.refl _ _⟩
 have HH := Lib.hid w0
 have hzl := zero_line
 clear w0
 go_enter Tryz.func6, Tryz.ntmps6
 go_wp2_with fail
 refine (drawLineCalm_any a0 len0 cap0 z0 HH.out).mono ?_
 rintro e x1 ⟨a, b, d, m, nx, vm, ms, vg, gs, T, tO, H, hO, vt, ts, vb, bs, n, rfl, hol, hfew, wa, hn13, hb1⟩
 obtain ⟨AmL, CmL, hsh⟩ := hol.1.reads.shape
 subst hsh
 obtain ⟨AgL, CgL, hsh⟩ := hol.2.1.reads.shape
 subst hsh
 obtain ⟨AtL, CtL, hsh⟩ := hol.2.2.1.reads.shape
 subst hsh
 obtain ⟨AbL, CbL, hsh⟩ := hol.2.2.2.reads.shape
 subst hsh
 have hba := (Below.refl _ x1).alloc (Nat.le_refl _) (.cells #[.int .i64 a, .int .i64 b, .int .i64 d, .int .i64 m, .slice AmL ms.length CmL, .int .i64 nx, .slice AgL gs.length CgL, .string T, .bool tO, .string H, .bool hO, .slice AtL ts.length CtL, .slice AbL bs.length CbL] 32)
 have HKL := Lib.hid (BK.new x1 #[.int .i64 a, .int .i64 b, .int .i64 d, .int .i64 m, .slice AmL ms.length CmL, .int .i64 nx, .slice AgL gs.length CgL, .string T, .bool tO, .string H, .bool hO, .slice AtL ts.length CtL, .slice AbL bs.length CbL] 32)
 have HOL := Lib.hid (hol.below hba)
 have HB := Lib.hid (hb1.trans (hba.mono hb1.size))
 have HF := Lib.hid hfew
 have HN := Lib.hid (show ∀ k : Nat, k ≤ 13 → (Lit.int .i64 (k : Int)).wf = true from fun k hk => by simp [Lit.wf, IntKind.min, IntKind.max, IntKind.signed, IntKind.bits]; omega)
 have HIMP := Lib.hid (fun (k : Int) (W : World) (v1 v2 v3 v4 : Value) (h : OL W 0 v1 ms v2 gs v3 ts v4 bs) => implLineCalm_any a b d m nx v1 ms v2 gs v3 ts v4 bs T H tO hO k W W.heap.size h.reads (Nat.le_refl _) wa HF.out)
 have HSPC := Lib.hid (fun (k : Int) (W : World) (v1 v2 v3 v4 : Value) (h : OL W 0 v1 ms v2 gs v3 ts v4 bs) => specLineCalm_any a b d m nx v1 ms v2 gs v3 ts v4 bs T H tO hO k W h wa HF.out)
 clear hba hol hb1 hfew
 have hcase : (okLn a b d m ms nx gs T tO H hO ts bs = true ∧ n ≤ 12) ∨ calmRes (mkLs a b d m ms nx gs T tO H hO ts bs) (okLn a b d m ms nx gs T tO H hO ts bs) (n : Int) = zeroLs := by
  by_cases h : okLn a b d m ms nx gs T tO H hO ts bs = true ∧ n ≤ 12
  ·exact .inl h
  ·right; unfold calmRes; rw [if_neg (fun h2 => h ⟨h2.1, by omega⟩)]
 have HCA := Lib.hid hcase
 clear hcase
 rcases HCA.out with ⟨hok, hn12⟩ | hz
 ·rcases Nat.eq_zero_or_pos n with hn0 | hnp
  ·have HOK := Lib.hid hok
   obtain ⟨hsok, hsnx⟩ := okLn_yes hok ⟨HF.out.2.2.2.1, HF.out.2.2.2.2.1, HF.out.2.2.2.2.2⟩
   have HTA := Lib.hid (told_again hok ⟨HF.out.2.2.2.1, HF.out.2.2.2.2.1, HF.out.2.2.2.2.2⟩)
   have HCR := Lib.hid (show ∀ k : Nat, k ≤ 12 → calmRes (mkLs a b d m ms nx gs T tO H hO ts bs) (okLn a b d m ms nx gs T tO H hO ts bs) (k : Int) = Ls.calmN k (mkLs a b d m ms nx gs T tO H hO ts bs) from fun k hk => by unfold calmRes; rw [if_pos ⟨hok, by omega, by omega⟩]; rfl)
   have HSO := Lib.hid hsok
   have hc0 : (a == 0) = false := by
    have h := (confB_yes hsok.conf).1
    exact beq_eq_false_iff_ne.2 (by have h2 : a = 1 ∨ a = 2 ∨ a = 3 := h; omega)
   have HC0 := Lib.hid hc0
   clear hok hsok hsnx hc0
   subst hn0
   have HQ := Lib.hid (HCR.out 0 (by decide))
   have HIM := Lib.hid (show ∀ (W : World) (v1 v2 v3 v4 : Value), OL W 0 v1 ms v2 gs v3 ts v4 bs → Calls Tryz.prog 17 #[lnV a b d m v1 nx v2 T tO H hO v3 v4, .int .i64 0] W (GPost W a b d m nx ms gs T tO H hO ts bs) from fun W v1 v2 v3 v4 h => (HIMP.out 0 W v1 v2 v3 v4 h).mono fun e w2 hh => by have hQ := HQ.out; rw [show ((0 : Nat) : Int) = 0 from rfl] at hQ; rw [hQ] at hh; obtain ⟨um, ub, ug, ut, rfl, ⟨ho, _⟩, hb⟩ := hh; exact ⟨um, ub, ug, ut, by rw [show lsV (Ls.calmN 0 (mkLs a b d m ms nx gs T tO H hO ts bs)) um ub ug ut = lnV a b d m um nx ug T tO H hO ut ub from HTA.out _ _ _ _], ⟨ho.1.mono (Nat.zero_le _), ho.2.1.mono (Nat.zero_le _), ho.2.2.1.mono (Nat.zero_le _), ho.2.2.2.mono (Nat.zero_le _)⟩, hb⟩)
   have HSP := Lib.hid (show ∀ (W : World) (v1 v2 v3 v4 : Value), OL W 0 v1 ms v2 gs v3 ts v4 bs → Calls Tryz.prog 20 #[lnV a b d m v1 nx v2 T tO H hO v3 v4, .int .i64 0] W (GPost W a b d m nx ms gs T tO H hO ts bs) from fun W v1 v2 v3 v4 h => (HSPC.out 0 W v1 v2 v3 v4 h).mono fun e w2 hh => by have hQ := HQ.out; rw [show ((0 : Nat) : Int) = 0 from rfl] at hQ; rw [hQ] at hh; obtain ⟨um, ub, ug, ut, rfl, ho, hb⟩ := hh; exact ⟨um, ub, ug, ut, by rw [show lsV (Ls.calmN 0 (mkLs a b d m ms nx gs T tO H hO ts bs)) um ub ug ut = lnV a b d m um nx ug T tO H hO ut ub from HTA.out _ _ _ _], ho, hb⟩)
   have HFW := Lib.hid (show ms.length ≤ 1048576 ∧ gs.length ≤ 1048576 ∧ ts.length ≤ 1048576 ∧ bs.length ≤ 1048576 from HF.out.2.1)
   have hqc := HC0.out
   obtain ⟨cl0, cl1, cl2, cl3, cl4, cl5, cl6, cl7, cl8, cl9, cl10, cl11, cl12⟩ := cells13 HKL.out
   go_wp2_with fail
   clear cl0 cl1 cl2 cl3 cl4 cl5 cl6 cl7 cl8 cl9 cl10 cl11 cl12
   refine (HIM.out _ _ _ _ _ HOL.out).mono ?_
   rintro e x2 ⟨um, ub, ug, ut, rfl, hox, hbx⟩
   obtain ⟨AmX, CmX, hsh⟩ := hox.1.reads.shape
   subst hsh
   obtain ⟨AgX, CgX, hsh⟩ := hox.2.1.reads.shape
   subst hsh
   obtain ⟨AtX, CtX, hsh⟩ := hox.2.2.1.reads.shape
   subst hsh
   obtain ⟨AbX, CbX, hsh⟩ := hox.2.2.2.reads.shape
   subst hsh
   have hba := (Below.refl _ x2).alloc (Nat.le_refl _) (.cells #[.int .i64 a, .int .i64 b, .int .i64 d, .int .i64 m, .slice AmX ms.length CmX, .int .i64 nx, .slice AgX gs.length CgX, .string T, .bool tO, .string H, .bool hO, .slice AtX ts.length CtX, .slice AbX bs.length CbX] 32)
   have HKL := Lib.hid ((HKL.out.from hbx).from hba)
   have HOL := Lib.hid ((HOL.out.below hbx).below hba)
   have HB := Lib.hid ((HB.out.trans (hbx.mono HB.out.size)).trans (hba.mono (Nat.le_trans HB.out.size hbx.size)))
   have HKX := Lib.hid (BK.new x2 #[.int .i64 a, .int .i64 b, .int .i64 d, .int .i64 m, .slice AmX ms.length CmX, .int .i64 nx, .slice AgX gs.length CgX, .string T, .bool tO, .string H, .bool hO, .slice AtX ts.length CtX, .slice AbX bs.length CbX] 32)
   have HOX := Lib.hid (show OL _ 0 _ ms _ gs _ ts _ bs from ⟨(hox.below hba).1.mono (Nat.zero_le _), (hox.below hba).2.1.mono (Nat.zero_le _), (hox.below hba).2.2.1.mono (Nat.zero_le _), (hox.below hba).2.2.2.mono (Nat.zero_le _)⟩)
   clear hox hbx hba
   obtain ⟨cl0, cl1, cl2, cl3, cl4, cl5, cl6, cl7, cl8, cl9, cl10, cl11, cl12⟩ := cells13 HKL.out
   obtain ⟨cX0, cX1, cX2, cX3, cX4, cX5, cX6, cX7, cX8, cX9, cX10, cX11, cX12⟩ := cells13 HKX.out
   go_wp2_with fail
   clear cl0 cl1 cl2 cl3 cl4 cl5 cl6 cl7 cl8 cl9 cl10 cl11 cl12
   clear cX0 cX1 cX2 cX3 cX4 cX5 cX6 cX7 cX8 cX9 cX10 cX11 cX12
   have hKL := HKL.out.drew
   have hKX := HKX.out.drew
   have hOL := HOL.out.below (Below.refl _ _).drew
   have hOX := HOX.out.below (Below.refl _ _).drew
   have hB := HB.out.drew
   have hS := And.intro (cells13 hKX) (cells13 hKL)
   refine wp_region_held_drew (S := (fun wx => (wx.cell? ⟨x2.heap.size, 0, none⟩ = some (.int .i64 a) ∧ wx.cell? ⟨x2.heap.size, 1, none⟩ = some (.int .i64 b) ∧ wx.cell? ⟨x2.heap.size, 2, none⟩ = some (.int .i64 d) ∧ wx.cell? ⟨x2.heap.size, 3, none⟩ = some (.int .i64 m) ∧ wx.cell? ⟨x2.heap.size, 4, none⟩ = some (.slice AmX ms.length CmX) ∧ wx.cell? ⟨x2.heap.size, 5, none⟩ = some (.int .i64 nx) ∧ wx.cell? ⟨x2.heap.size, 6, none⟩ = some (.slice AgX gs.length CgX) ∧ wx.cell? ⟨x2.heap.size, 7, none⟩ = some (.string T) ∧ wx.cell? ⟨x2.heap.size, 8, none⟩ = some (.bool tO) ∧ wx.cell? ⟨x2.heap.size, 9, none⟩ = some (.string H) ∧ wx.cell? ⟨x2.heap.size, 10, none⟩ = some (.bool hO) ∧ wx.cell? ⟨x2.heap.size, 11, none⟩ = some (.slice AtX ts.length CtX) ∧ wx.cell? ⟨x2.heap.size, 12, none⟩ = some (.slice AbX bs.length CbX)) ∧ (wx.cell? ⟨x1.heap.size, 0, none⟩ = some (.int .i64 a) ∧ wx.cell? ⟨x1.heap.size, 1, none⟩ = some (.int .i64 b) ∧ wx.cell? ⟨x1.heap.size, 2, none⟩ = some (.int .i64 d) ∧ wx.cell? ⟨x1.heap.size, 3, none⟩ = some (.int .i64 m) ∧ wx.cell? ⟨x1.heap.size, 4, none⟩ = some (.slice AmL ms.length CmL) ∧ wx.cell? ⟨x1.heap.size, 5, none⟩ = some (.int .i64 nx) ∧ wx.cell? ⟨x1.heap.size, 6, none⟩ = some (.slice AgL gs.length CgL) ∧ wx.cell? ⟨x1.heap.size, 7, none⟩ = some (.string T) ∧ wx.cell? ⟨x1.heap.size, 8, none⟩ = some (.bool tO) ∧ wx.cell? ⟨x1.heap.size, 9, none⟩ = some (.string H) ∧ wx.cell? ⟨x1.heap.size, 10, none⟩ = some (.bool hO) ∧ wx.cell? ⟨x1.heap.size, 11, none⟩ = some (.slice AtL ts.length CtL) ∧ wx.cell? ⟨x1.heap.size, 12, none⟩ = some (.slice AbL bs.length CbL)))) (by kernel_rfl) hS (fun hHeld => ?_)
   refine tkH 0 ?_ rfl (Or.inl ⟨by rfl, ?_⟩) ?_; rotate_left
   ·intro wq hSw; (try dsimp only at hSw); (try simp only [gT, gZ]); go_simp; (try with_reducible rfl)
   simp only [Act.put, gT, gZ, sT, sZ, sS]
   refine tkH 1 ?_ rfl (Or.inl ⟨by rfl, ?_⟩) ?_; rotate_left
   ·intro wq hSw; (try dsimp only at hSw); (try simp only [gT, gS, gZ]); go_simp; (try with_reducible rfl)
   simp only [Act.put, gT, gS, gZ, sT, sZ, sS]
   refine tkH 2 ?_ rfl (Or.inl ⟨by rfl, ?_⟩) ?_; rotate_left
   ·intro wq hSw; (try dsimp only at hSw); (try simp only [gT, gS, gZ]); go_simp; (try with_reducible rfl)
   simp only [Act.put, gT, gS, gZ, sT, sZ, sS]
   refine wpAnyH_ready (rs := [3]) (by kernel_rfl) (by simp) ?_
   refine AllReadyH.cons rfl (fun K hK => ?_) AllReadyH.nil
   (try simp only [gT, gS, gZ])
   go_simp
   go_at_call 20
   refine (HSP.out _ _ _ _ _ hOL).mono ?_
   rintro e x3 ⟨tm, tb, tg, tt, rfl, hot, hbx⟩
   have hKL := hKL.from hbx
   have hKX := hKX.from hbx
   have hOL := hOL.below hbx
   have hOX := hOX.below hbx
   have hB := hB.trans (hbx.mono hB.size)
   have hS := And.intro (cells13 hKX) (cells13 hKL)
   refine hK.out _ _ hS (fun hHeld => ?_)
   clear hK K
   refine wpAnyH_ready (rs := [4]) (by kernel_rfl) (by simp) ?_
   refine AllReadyH.cons rfl (fun K hK => ?_) AllReadyH.nil
   (try simp only [gT, gS, gZ])
   go_simp
   go_at_call 11
   refine (ctLine_same _ _ _ _ _ _ _ _ _ _ _ _ _ _ _ _ _ _ _ _ _ _ _ _ hOX.reads hot.reads (Nat.le_refl _) (Nat.le_refl _) HFW.out.1 HFW.out.2.1 HFW.out.2.2.1 HFW.out.2.2.2).mono ?_
   rintro e x4 ⟨rfl, hby⟩
   have hKL := hKL.from hby
   have hKX := hKX.from hby
   have hOL := hOL.below hby
   have hOX := hOX.below hby
   have hB := hB.trans (hby.mono hB.size)
   have hS := And.intro (cells13 hKX) (cells13 hKL)
   clear hot hbx hby
   refine hK.out _ _ hS (fun hHeld => ?_)
   clear hK K
   refine tkH 5 ?_ rfl (Or.inl ⟨by rfl, ?_⟩) ?_; rotate_left
   ·intro wq hSw; (try dsimp only at hSw); (try simp only [gT, gS, gZ]); go_simp; (try with_reducible rfl)
   simp only [Act.put, gT, gS, gZ, sT, sZ, sS]
   refine tkH 6 ?_ rfl (Or.inl ⟨by rfl, ?_⟩) ?_; rotate_left
   ·intro wq hSw; (try dsimp only at hSw); (try simp only [gT, gS, gZ]); go_simp; (try with_reducible rfl)
   simp only [Act.put, gT, gS, gZ, sT, sZ, sS]
   refine tkH 7 ?_ rfl (Or.inl ⟨by rfl, ?_⟩) ?_; rotate_left
   ·intro wq hSw; (try dsimp only at hSw); (try simp only [gT, gS, gZ]); go_simp; (try with_reducible rfl)
   simp only [Act.put, gT, gS, gZ, sT, sZ, sS]
   refine tkH 8 ?_ rfl (Or.inl ⟨by rfl, ?_⟩) ?_; rotate_left
   ·intro wq hSw; (try dsimp only at hSw); (try simp only [gT, gS, gZ]); go_simp; (try with_reducible rfl)
   simp only [Act.put, gT, gS, gZ, sT, sZ, sS]
   refine tkH 9 ?_ rfl (Or.inl ⟨by rfl, ?_⟩) ?_; rotate_left
   ·intro wq hSw; (try dsimp only at hSw); (try simp only [gT, gS, gZ]); go_simp; (try with_reducible rfl)
   simp only [Act.put, gT, gS, gZ, sT, sZ, sS]
   refine tkH 10 ?_ rfl (Or.inl ⟨by rfl, ?_⟩) ?_; rotate_left
   ·intro wq hSw; (try dsimp only at hSw); (try simp only [gT, gS, gZ]); go_simp; (try with_reducible rfl)
   simp only [Act.put, gT, gS, gZ, sT, sZ, sS]
   refine tkH 11 ?_ rfl (Or.inl ⟨by rfl, ?_⟩) ?_; rotate_left
   ·intro wq hSw; (try dsimp only at hSw); (try simp only [gT, gS, gZ]); go_simp; (try with_reducible rfl)
   simp only [Act.put, gT, gS, gZ, sT, sZ, sS]
   refine tkH 12 ?_ rfl (Or.inl ⟨by rfl, ?_⟩) ?_; rotate_left
   ·intro wq hSw; (try dsimp only at hSw); (try simp only [gT, gS, gZ]); go_simp; (try with_reducible rfl)
   simp only [Act.put, gT, gS, gZ, sT, sZ, sS]
   refine tkH 13 ?_ rfl (Or.inl ⟨by rfl, ?_⟩) ?_; rotate_left
   ·intro wq hSw; (try dsimp only at hSw); (try simp only [gT, gS, gZ]); go_simp; (try with_reducible rfl)
   simp only [Act.put, gT, gS, gZ, sT, sZ, sS]
   refine tkH 14 ?_ rfl (Or.inl ⟨by rfl, ?_⟩) ?_; rotate_left
   ·intro wq hSw; (try dsimp only at hSw); (try simp only [gT, gS, gZ]); go_simp; (try with_reducible rfl)
   simp only [Act.put, gT, gS, gZ, sT, sZ, sS]
   refine tkH 15 ?_ rfl (Or.inl ⟨by rfl, ?_⟩) ?_; rotate_left
   ·intro wq hSw; (try dsimp only at hSw); (try simp only [gT, gS, gZ]); go_simp; (try with_reducible rfl)
   simp only [Act.put, gT, gS, gZ, sT, sZ, sS]
   refine wpAnyH_done (by kernel_rfl) ?_ _
   have HKL := Lib.hid hKL
   have HKX := Lib.hid hKX
   have HOL := Lib.hid hOL
   have HOX := Lib.hid hOX
   have HB := Lib.hid hB
   clear hKL hKX hOL hOX hB hS
   obtain ⟨cl0, cl1, cl2, cl3, cl4, cl5, cl6, cl7, cl8, cl9, cl10, cl11, cl12⟩ := cells13 HKL.out
   obtain ⟨cX0, cX1, cX2, cX3, cX4, cX5, cX6, cX7, cX8, cX9, cX10, cX11, cX12⟩ := cells13 HKX.out
   go_wp2_with fail
   clear cl0 cl1 cl2 cl3 cl4 cl5 cl6 cl7 cl8 cl9 cl10 cl11 cl12
   clear cX0 cX1 cX2 cX3 cX4 cX5 cX6 cX7 cX8 cX9 cX10 cX11 cX12
   have hKL := HKL.out.drew
   have hKX := HKX.out.drew
   have hOL := HOL.out.below (Below.refl _ _).drew
   have hOX := HOX.out.below (Below.refl _ _).drew
   have hB := HB.out.drew
   have hS := And.intro (cells13 hKX) (cells13 hKL)
   refine wp_region_held_drew (S := (fun wx => (wx.cell? ⟨x2.heap.size, 0, none⟩ = some (.int .i64 a) ∧ wx.cell? ⟨x2.heap.size, 1, none⟩ = some (.int .i64 b) ∧ wx.cell? ⟨x2.heap.size, 2, none⟩ = some (.int .i64 d) ∧ wx.cell? ⟨x2.heap.size, 3, none⟩ = some (.int .i64 m) ∧ wx.cell? ⟨x2.heap.size, 4, none⟩ = some (.slice AmX ms.length CmX) ∧ wx.cell? ⟨x2.heap.size, 5, none⟩ = some (.int .i64 nx) ∧ wx.cell? ⟨x2.heap.size, 6, none⟩ = some (.slice AgX gs.length CgX) ∧ wx.cell? ⟨x2.heap.size, 7, none⟩ = some (.string T) ∧ wx.cell? ⟨x2.heap.size, 8, none⟩ = some (.bool tO) ∧ wx.cell? ⟨x2.heap.size, 9, none⟩ = some (.string H) ∧ wx.cell? ⟨x2.heap.size, 10, none⟩ = some (.bool hO) ∧ wx.cell? ⟨x2.heap.size, 11, none⟩ = some (.slice AtX ts.length CtX) ∧ wx.cell? ⟨x2.heap.size, 12, none⟩ = some (.slice AbX bs.length CbX)) ∧ (wx.cell? ⟨x1.heap.size, 0, none⟩ = some (.int .i64 a) ∧ wx.cell? ⟨x1.heap.size, 1, none⟩ = some (.int .i64 b) ∧ wx.cell? ⟨x1.heap.size, 2, none⟩ = some (.int .i64 d) ∧ wx.cell? ⟨x1.heap.size, 3, none⟩ = some (.int .i64 m) ∧ wx.cell? ⟨x1.heap.size, 4, none⟩ = some (.slice AmL ms.length CmL) ∧ wx.cell? ⟨x1.heap.size, 5, none⟩ = some (.int .i64 nx) ∧ wx.cell? ⟨x1.heap.size, 6, none⟩ = some (.slice AgL gs.length CgL) ∧ wx.cell? ⟨x1.heap.size, 7, none⟩ = some (.string T) ∧ wx.cell? ⟨x1.heap.size, 8, none⟩ = some (.bool tO) ∧ wx.cell? ⟨x1.heap.size, 9, none⟩ = some (.string H) ∧ wx.cell? ⟨x1.heap.size, 10, none⟩ = some (.bool hO) ∧ wx.cell? ⟨x1.heap.size, 11, none⟩ = some (.slice AtL ts.length CtL) ∧ wx.cell? ⟨x1.heap.size, 12, none⟩ = some (.slice AbL bs.length CbL)))) (by kernel_rfl) hS (fun hHeld => ?_)
   refine tkH 0 ?_ rfl (Or.inl ⟨by rfl, ?_⟩) ?_; rotate_left
   ·intro wq hSw; (try dsimp only at hSw); (try simp only [gT, gZ]); go_simp; (try with_reducible rfl)
   simp only [Act.put, gT, gZ, sT, sZ, sS]
   refine tkH 1 ?_ rfl (Or.inl ⟨by rfl, ?_⟩) ?_; rotate_left
   ·intro wq hSw; (try dsimp only at hSw); (try simp only [gT, gS, gZ]); go_simp; (try with_reducible rfl)
   simp only [Act.put, gT, gS, gZ, sT, sZ, sS]
   refine tkH 2 ?_ rfl (Or.inl ⟨by rfl, ?_⟩) ?_; rotate_left
   ·intro wq hSw; (try dsimp only at hSw); (try simp only [gT, gS, gZ]); go_simp; (try with_reducible rfl)
   simp only [Act.put, gT, gS, gZ, sT, sZ, sS]
   refine wpAnyH_ready (rs := [3]) (by kernel_rfl) (by simp) ?_
   refine AllReadyH.cons rfl (fun K hK => ?_) AllReadyH.nil
   (try simp only [gT, gS, gZ])
   go_simp
   go_at_call 20
   refine (HSP.out _ _ _ _ _ hOL).mono ?_
   rintro e x8 ⟨tm, tb, tg, tt, rfl, hot, hbx⟩
   have hKL := hKL.from hbx
   have hKX := hKX.from hbx
   have hOL := hOL.below hbx
   have hOX := hOX.below hbx
   have hB := hB.trans (hbx.mono hB.size)
   have hS := And.intro (cells13 hKX) (cells13 hKL)
   refine hK.out _ _ hS (fun hHeld => ?_)
   clear hK K
   refine wpAnyH_ready (rs := [4]) (by kernel_rfl) (by simp) ?_
   refine AllReadyH.cons rfl (fun K hK => ?_) AllReadyH.nil
   (try simp only [gT, gS, gZ])
   go_simp
   go_at_call 11
   refine (ctLine_same _ _ _ _ _ _ _ _ _ _ _ _ _ _ _ _ _ _ _ _ _ _ _ _ hOX.reads hot.reads (Nat.le_refl _) (Nat.le_refl _) HFW.out.1 HFW.out.2.1 HFW.out.2.2.1 HFW.out.2.2.2).mono ?_
   rintro e x9 ⟨rfl, hby⟩
   have hKL := hKL.from hby
   have hKX := hKX.from hby
   have hOL := hOL.below hby
   have hOX := hOX.below hby
   have hB := hB.trans (hby.mono hB.size)
   have hS := And.intro (cells13 hKX) (cells13 hKL)
   clear hot hbx hby
   refine hK.out _ _ hS (fun hHeld => ?_)
   clear hK K
   refine tkH 5 ?_ rfl (Or.inl ⟨by rfl, ?_⟩) ?_; rotate_left
   ·intro wq hSw; (try dsimp only at hSw); (try simp only [gT, gS, gZ]); go_simp; (try with_reducible rfl)
   simp only [Act.put, gT, gS, gZ, sT, sZ, sS]
   refine tkH 6 ?_ rfl (Or.inl ⟨by rfl, ?_⟩) ?_; rotate_left
   ·intro wq hSw; (try dsimp only at hSw); (try simp only [gT, gS, gZ]); go_simp; (try with_reducible rfl)
   simp only [Act.put, gT, gS, gZ, sT, sZ, sS]
   refine tkH 7 ?_ rfl (Or.inl ⟨by rfl, ?_⟩) ?_; rotate_left
   ·intro wq hSw; (try dsimp only at hSw); (try simp only [gT, gS, gZ]); go_simp; (try with_reducible rfl)
   simp only [Act.put, gT, gS, gZ, sT, sZ, sS]
   refine tkH 8 ?_ rfl (Or.inl ⟨by rfl, ?_⟩) ?_; rotate_left
   ·intro wq hSw; (try dsimp only at hSw); (try simp only [gT, gS, gZ]); go_simp; (try with_reducible rfl)
   simp only [Act.put, gT, gS, gZ, sT, sZ, sS]
   refine tkH 9 ?_ rfl (Or.inl ⟨by rfl, ?_⟩) ?_; rotate_left
   ·intro wq hSw; (try dsimp only at hSw); (try simp only [gT, gS, gZ]); go_simp; (try with_reducible rfl)
   simp only [Act.put, gT, gS, gZ, sT, sZ, sS]
   refine tkH 10 ?_ rfl (Or.inl ⟨by rfl, ?_⟩) ?_; rotate_left
   ·intro wq hSw; (try dsimp only at hSw); (try simp only [gT, gS, gZ]); go_simp; (try with_reducible rfl)
   simp only [Act.put, gT, gS, gZ, sT, sZ, sS]
   refine tkH 11 ?_ rfl (Or.inl ⟨by rfl, ?_⟩) ?_; rotate_left
   ·intro wq hSw; (try dsimp only at hSw); (try simp only [gT, gS, gZ]); go_simp; (try with_reducible rfl)
   simp only [Act.put, gT, gS, gZ, sT, sZ, sS]
   refine tkH 12 ?_ rfl (Or.inl ⟨by rfl, ?_⟩) ?_; rotate_left
   ·intro wq hSw; (try dsimp only at hSw); (try simp only [gT, gS, gZ]); go_simp; (try with_reducible rfl)
   simp only [Act.put, gT, gS, gZ, sT, sZ, sS]
   refine tkH 13 ?_ rfl (Or.inl ⟨by rfl, ?_⟩) ?_; rotate_left
   ·intro wq hSw; (try dsimp only at hSw); (try simp only [gT, gS, gZ]); go_simp; (try with_reducible rfl)
   simp only [Act.put, gT, gS, gZ, sT, sZ, sS]
   refine tkH 14 ?_ rfl (Or.inl ⟨by rfl, ?_⟩) ?_; rotate_left
   ·intro wq hSw; (try dsimp only at hSw); (try simp only [gT, gS, gZ]); go_simp; (try with_reducible rfl)
   simp only [Act.put, gT, gS, gZ, sT, sZ, sS]
   refine tkH 15 ?_ rfl (Or.inl ⟨by rfl, ?_⟩) ?_; rotate_left
   ·intro wq hSw; (try dsimp only at hSw); (try simp only [gT, gS, gZ]); go_simp; (try with_reducible rfl)
   simp only [Act.put, gT, gS, gZ, sT, sZ, sS]
   refine tkH 16 ?_ rfl (Or.inl ⟨by rfl, ?_⟩) ?_; rotate_left
   ·intro wq hSw; (try dsimp only at hSw); (try simp only [gT, gS, gZ]); go_simp; (try with_reducible rfl)
   simp only [Act.put, gT, gS, gZ, sT, sZ, sS]
   refine wpAnyH_ready (rs := [17]) (by kernel_rfl) (by simp) ?_
   refine AllReadyH.cons rfl (fun K hK => ?_) AllReadyH.nil
   (try simp only [gT, gS, gZ])
   go_simp
   go_at_call 11
   refine (ctLine_same _ _ _ _ _ _ _ _ _ _ _ _ _ _ _ _ _ _ _ _ _ _ _ _ hOX.reads hOL.reads (Nat.le_refl _) (Nat.le_refl _) HFW.out.1 HFW.out.2.1 HFW.out.2.2.1 HFW.out.2.2.2).mono ?_
   rintro e x10 ⟨rfl, hbz⟩
   have hKL := hKL.from hbz
   have hKX := hKX.from hbz
   have hOL := hOL.below hbz
   have hOX := hOX.below hbz
   have hB := hB.trans (hbz.mono hB.size)
   have hS := And.intro (cells13 hKX) (cells13 hKL)
   clear hbz
   refine hK.out _ _ hS (fun hHeld => ?_)
   clear hK K
   refine tkH 18 ?_ rfl (Or.inl ⟨by rfl, ?_⟩) ?_; rotate_left
   ·intro wq hSw; (try dsimp only at hSw); (try simp only [gT, gS, gZ]); go_simp; (try with_reducible rfl)
   simp only [Act.put, gT, gS, gZ, sT, sZ, sS]
   refine tkH 19 ?_ rfl (Or.inl ⟨by rfl, ?_⟩) ?_; rotate_left
   ·intro wq hSw; (try dsimp only at hSw); (try simp only [gT, gS, gZ]); go_simp; (try with_reducible rfl)
   simp only [Act.put, gT, gS, gZ, sT, sZ, sS]
   refine tkH 20 ?_ rfl (Or.inl ⟨by rfl, ?_⟩) ?_; rotate_left
   ·intro wq hSw; (try dsimp only at hSw); (try simp only [gT, gS, gZ]); go_simp; (try with_reducible rfl)
   simp only [Act.put, gT, gS, gZ, sT, sZ, sS]
   refine wpAnyH_done (by kernel_rfl) ?_ _
   have HKL := Lib.hid hKL
   have HKX := Lib.hid hKX
   have HOL := Lib.hid hOL
   have HOX := Lib.hid hOX
   have HB := Lib.hid hB
   clear hKL hKX hOL hOX hB hS
   go_wp2
   go_ret
   exact ⟨rfl, HB.out⟩
  ·have HOK := Lib.hid hok
   obtain ⟨hsok, hsnx⟩ := okLn_yes hok ⟨HF.out.2.2.2.1, HF.out.2.2.2.2.1, HF.out.2.2.2.2.2⟩
   have HTA := Lib.hid (told_again hok ⟨HF.out.2.2.2.1, HF.out.2.2.2.2.1, HF.out.2.2.2.2.2⟩)
   have HCR := Lib.hid (show ∀ k : Nat, k ≤ 12 → calmRes (mkLs a b d m ms nx gs T tO H hO ts bs) (okLn a b d m ms nx gs T tO H hO ts bs) (k : Int) = Ls.calmN k (mkLs a b d m ms nx gs T tO H hO ts bs) from fun k hk => by unfold calmRes; rw [if_pos ⟨hok, by omega, by omega⟩]; rfl)
   have HSO := Lib.hid hsok
   have hc0 : (a == 0) = false := by
    have h := (confB_yes hsok.conf).1
    exact beq_eq_false_iff_ne.2 (by have h2 : a = 1 ∨ a = 2 ∨ a = 3 := h; omega)
   have HC0 := Lib.hid hc0
   clear hok hsok hsnx hc0
   obtain ⟨q, hq⟩ : ∃ q, q = Ls.calmN n (mkLs a b d m ms nx gs T tO H hO ts bs) := ⟨_, rfl⟩
   obtain ⟨p, hp⟩ : ∃ p, p = Ls.calmN (n - 1) (mkLs a b d m ms nx gs T tO H hO ts bs) := ⟨_, rfl⟩
   have hpq : q = p.calmP := by rw [hq, hp]; obtain ⟨k, rfl⟩ : ∃ k, n = k + 1 := ⟨n - 1, by omega⟩; rfl
   have HPO := Lib.hid (show p.Ok by rw [hp]; exact Ls.Ok.calmN _ HSO.out)
   have HQO := Lib.hid (show q.Ok by rw [hq]; exact Ls.Ok.calmN _ HSO.out)
   have hqc : (q.c.codec == 0) = false := by rw [hq, (calmN_c n _).1]; exact HC0.out
   have HQ := Lib.hid (show calmRes (mkLs a b d m ms nx gs T tO H hO ts bs) (okLn a b d m ms nx gs T tO H hO ts bs) (n : Int) = q by rw [hq]; exact HCR.out n hn12)
   have HP := Lib.hid (show calmRes (mkLs a b d m ms nx gs T tO H hO ts bs) (okLn a b d m ms nx gs T tO H hO ts bs) ((n : Int) - 1) = p by rw [hp]; have h := HCR.out (n - 1) (by omega); rwa [show ((n - 1 : Nat) : Int) = (n : Int) - 1 by omega] at h)
   have HFW := Lib.hid (few (q := q) (.inl HQO.out))
   have HPQ := Lib.hid hpq
   clear hq hp hpq
   have HIM := Lib.hid (fun (W : World) (v1 v2 v3 v4 : Value) (h : OL W 0 v1 ms v2 gs v3 ts v4 bs) => by have h2 := HIMP.out (n : Int) W v1 v2 v3 v4 h; rw [HQ.out] at h2; exact h2)
   have HSP := Lib.hid (fun (W : World) (v1 v2 v3 v4 : Value) (h : OL W 0 v1 ms v2 gs v3 ts v4 bs) => by have h2 := HSPC.out (n : Int) W v1 v2 v3 v4 h; rw [HQ.out] at h2; exact h2)
   have HIP := Lib.hid (fun (W : World) (v1 v2 v3 v4 : Value) (h : OL W 0 v1 ms v2 gs v3 ts v4 bs) => by have h2 := HIMP.out ((n : Int) - 1) W v1 v2 v3 v4 h; rw [HP.out] at h2; exact h2)
   have hn0 : ((n : Int) == 0) = false := beq_eq_false_iff_ne.2 (by omega)
   have hw1 : IntKind.i64.wrap ((n : Int) - 1) = (n : Int) - 1 := by rw [IntKind.wrap_i64]; omega
   obtain ⟨cl0, cl1, cl2, cl3, cl4, cl5, cl6, cl7, cl8, cl9, cl10, cl11, cl12⟩ := cells13 HKL.out
   go_wp2_with fail
   clear cl0 cl1 cl2 cl3 cl4 cl5 cl6 cl7 cl8 cl9 cl10 cl11 cl12
   refine (HIM.out _ _ _ _ _ HOL.out).mono ?_
   rintro e x2 ⟨um, ub, ug, ut, rfl, ⟨hox, _⟩, hbx⟩
   obtain ⟨AmX, CmX, hsh⟩ := hox.1.reads.shape
   subst hsh
   obtain ⟨AgX, CgX, hsh⟩ := hox.2.1.reads.shape
   subst hsh
   obtain ⟨AtX, CtX, hsh⟩ := hox.2.2.1.reads.shape
   subst hsh
   obtain ⟨AbX, CbX, hsh⟩ := hox.2.2.2.reads.shape
   subst hsh
   have hba := (Below.refl _ x2).alloc (Nat.le_refl _) (.cells #[.int .i64 q.c.codec, .int .i64 q.c.sum, .int .i64 q.c.most, .int .i64 q.c.map, .slice AmX q.ms.length CmX, .int .i64 (q.nx : Int), .slice AgX q.gs.length CgX, .string (bzL q.f.held), .bool q.f.over, .string (bzL q.h.held), .bool q.h.over, .slice AtX q.ts.length CtX, .slice AbX q.bs.length CbX] 32)
   have HKL := Lib.hid ((HKL.out.from hbx).from hba)
   have HOL := Lib.hid ((HOL.out.below hbx).below hba)
   have HB := Lib.hid ((HB.out.trans (hbx.mono HB.out.size)).trans (hba.mono (Nat.le_trans HB.out.size hbx.size)))
   have HKX := Lib.hid (BK.new x2 #[.int .i64 q.c.codec, .int .i64 q.c.sum, .int .i64 q.c.most, .int .i64 q.c.map, .slice AmX q.ms.length CmX, .int .i64 (q.nx : Int), .slice AgX q.gs.length CgX, .string (bzL q.f.held), .bool q.f.over, .string (bzL q.h.held), .bool q.h.over, .slice AtX q.ts.length CtX, .slice AbX q.bs.length CbX] 32)
   have HOX := Lib.hid (show OL _ 0 _ q.ms _ q.gs _ q.ts _ q.bs from ⟨(hox.below hba).1.mono (Nat.zero_le _), (hox.below hba).2.1.mono (Nat.zero_le _), (hox.below hba).2.2.1.mono (Nat.zero_le _), (hox.below hba).2.2.2.mono (Nat.zero_le _)⟩)
   clear hox hbx hba
   obtain ⟨cl0, cl1, cl2, cl3, cl4, cl5, cl6, cl7, cl8, cl9, cl10, cl11, cl12⟩ := cells13 HKL.out
   obtain ⟨cX0, cX1, cX2, cX3, cX4, cX5, cX6, cX7, cX8, cX9, cX10, cX11, cX12⟩ := cells13 HKX.out
   go_wp2_with fail
   clear cl0 cl1 cl2 cl3 cl4 cl5 cl6 cl7 cl8 cl9 cl10 cl11 cl12
   clear cX0 cX1 cX2 cX3 cX4 cX5 cX6 cX7 cX8 cX9 cX10 cX11 cX12
   have hKL := HKL.out.drew
   have hKX := HKX.out.drew
   have hOL := HOL.out.below (Below.refl _ _).drew
   have hOX := HOX.out.below (Below.refl _ _).drew
   have hB := HB.out.drew
   have hS := And.intro (cells13 hKX) (cells13 hKL)
   refine wp_region_held_drew (S := (fun wx => (wx.cell? ⟨x2.heap.size, 0, none⟩ = some (.int .i64 q.c.codec) ∧ wx.cell? ⟨x2.heap.size, 1, none⟩ = some (.int .i64 q.c.sum) ∧ wx.cell? ⟨x2.heap.size, 2, none⟩ = some (.int .i64 q.c.most) ∧ wx.cell? ⟨x2.heap.size, 3, none⟩ = some (.int .i64 q.c.map) ∧ wx.cell? ⟨x2.heap.size, 4, none⟩ = some (.slice AmX q.ms.length CmX) ∧ wx.cell? ⟨x2.heap.size, 5, none⟩ = some (.int .i64 (q.nx : Int)) ∧ wx.cell? ⟨x2.heap.size, 6, none⟩ = some (.slice AgX q.gs.length CgX) ∧ wx.cell? ⟨x2.heap.size, 7, none⟩ = some (.string (bzL q.f.held)) ∧ wx.cell? ⟨x2.heap.size, 8, none⟩ = some (.bool q.f.over) ∧ wx.cell? ⟨x2.heap.size, 9, none⟩ = some (.string (bzL q.h.held)) ∧ wx.cell? ⟨x2.heap.size, 10, none⟩ = some (.bool q.h.over) ∧ wx.cell? ⟨x2.heap.size, 11, none⟩ = some (.slice AtX q.ts.length CtX) ∧ wx.cell? ⟨x2.heap.size, 12, none⟩ = some (.slice AbX q.bs.length CbX)) ∧ (wx.cell? ⟨x1.heap.size, 0, none⟩ = some (.int .i64 a) ∧ wx.cell? ⟨x1.heap.size, 1, none⟩ = some (.int .i64 b) ∧ wx.cell? ⟨x1.heap.size, 2, none⟩ = some (.int .i64 d) ∧ wx.cell? ⟨x1.heap.size, 3, none⟩ = some (.int .i64 m) ∧ wx.cell? ⟨x1.heap.size, 4, none⟩ = some (.slice AmL ms.length CmL) ∧ wx.cell? ⟨x1.heap.size, 5, none⟩ = some (.int .i64 nx) ∧ wx.cell? ⟨x1.heap.size, 6, none⟩ = some (.slice AgL gs.length CgL) ∧ wx.cell? ⟨x1.heap.size, 7, none⟩ = some (.string T) ∧ wx.cell? ⟨x1.heap.size, 8, none⟩ = some (.bool tO) ∧ wx.cell? ⟨x1.heap.size, 9, none⟩ = some (.string H) ∧ wx.cell? ⟨x1.heap.size, 10, none⟩ = some (.bool hO) ∧ wx.cell? ⟨x1.heap.size, 11, none⟩ = some (.slice AtL ts.length CtL) ∧ wx.cell? ⟨x1.heap.size, 12, none⟩ = some (.slice AbL bs.length CbL)))) (by kernel_rfl) hS (fun hHeld => ?_)
   refine tkH 0 ?_ rfl (Or.inl ⟨by rfl, ?_⟩) ?_; rotate_left
   ·intro wq hSw; (try dsimp only at hSw); (try simp only [gT, gZ]); go_simp; (try with_reducible rfl)
   simp only [Act.put, gT, gZ, sT, sZ, sS]
   refine tkH 1 ?_ rfl (Or.inl ⟨by rfl, ?_⟩) ?_; rotate_left
   ·intro wq hSw; (try dsimp only at hSw); (try simp only [gT, gS, gZ]); go_simp; (try with_reducible rfl)
   simp only [Act.put, gT, gS, gZ, sT, sZ, sS]
   refine tkH 2 ?_ rfl (Or.inl ⟨by rfl, ?_⟩) ?_; rotate_left
   ·intro wq hSw; (try dsimp only at hSw); (try simp only [gT, gS, gZ]); go_simp; (try with_reducible rfl)
   simp only [Act.put, gT, gS, gZ, sT, sZ, sS]
   refine wpAnyH_ready (rs := [3]) (by kernel_rfl) (by simp) ?_
   refine AllReadyH.cons rfl (fun K hK => ?_) AllReadyH.nil
   (try simp only [gT, gS, gZ])
   go_simp
   go_at_call 20
   refine (HSP.out _ _ _ _ _ hOL).mono ?_
   rintro e x3 ⟨tm, tb, tg, tt, rfl, hot, hbx⟩
   have hKL := hKL.from hbx
   have hKX := hKX.from hbx
   have hOL := hOL.below hbx
   have hOX := hOX.below hbx
   have hB := hB.trans (hbx.mono hB.size)
   have hS := And.intro (cells13 hKX) (cells13 hKL)
   refine hK.out _ _ hS (fun hHeld => ?_)
   clear hK K
   refine wpAnyH_ready (rs := [4]) (by kernel_rfl) (by simp) ?_
   refine AllReadyH.cons rfl (fun K hK => ?_) AllReadyH.nil
   (try simp only [gT, gS, gZ])
   go_simp
   go_at_call 11
   refine (ctLine_same _ _ _ _ _ _ _ _ _ _ _ _ _ _ _ _ _ _ _ _ _ _ _ _ hOX.reads hot.reads (Nat.le_refl _) (Nat.le_refl _) HFW.out.1 HFW.out.2.1 HFW.out.2.2.1 HFW.out.2.2.2).mono ?_
   rintro e x4 ⟨rfl, hby⟩
   have hKL := hKL.from hby
   have hKX := hKX.from hby
   have hOL := hOL.below hby
   have hOX := hOX.below hby
   have hB := hB.trans (hby.mono hB.size)
   have hS := And.intro (cells13 hKX) (cells13 hKL)
   clear hot hbx hby
   refine hK.out _ _ hS (fun hHeld => ?_)
   clear hK K
   refine tkH 5 ?_ rfl (Or.inl ⟨by rfl, ?_⟩) ?_; rotate_left
   ·intro wq hSw; (try dsimp only at hSw); (try simp only [gT, gS, gZ]); go_simp; (try with_reducible rfl)
   simp only [Act.put, gT, gS, gZ, sT, sZ, sS]
   refine tkH 6 ?_ rfl (Or.inl ⟨by rfl, ?_⟩) ?_; rotate_left
   ·intro wq hSw; (try dsimp only at hSw); (try simp only [gT, gS, gZ]); go_simp; (try with_reducible rfl)
   simp only [Act.put, gT, gS, gZ, sT, sZ, sS]
   refine tkH 7 ?_ rfl (Or.inl ⟨by rfl, ?_⟩) ?_; rotate_left
   ·intro wq hSw; (try dsimp only at hSw); (try simp only [gT, gS, gZ]); go_simp; (try with_reducible rfl)
   simp only [Act.put, gT, gS, gZ, sT, sZ, sS]
   refine tkH 8 ?_ rfl (Or.inl ⟨by rfl, ?_⟩) ?_; rotate_left
   ·intro wq hSw; (try dsimp only at hSw); (try simp only [gT, gS, gZ]); go_simp; (try with_reducible rfl)
   simp only [Act.put, gT, gS, gZ, sT, sZ, sS]
   refine tkH 9 ?_ rfl (Or.inl ⟨by rfl, ?_⟩) ?_; rotate_left
   ·intro wq hSw; (try dsimp only at hSw); (try simp only [gT, gS, gZ]); go_simp; (try with_reducible rfl)
   simp only [Act.put, gT, gS, gZ, sT, sZ, sS]
   refine tkH 10 ?_ rfl (Or.inl ⟨by rfl, ?_⟩) ?_; rotate_left
   ·intro wq hSw; (try dsimp only at hSw); (try simp only [gT, gS, gZ]); go_simp; (try with_reducible rfl)
   simp only [Act.put, gT, gS, gZ, sT, sZ, sS]
   refine tkH 11 ?_ rfl (Or.inl ⟨by rfl, ?_⟩) ?_; rotate_left
   ·intro wq hSw; (try dsimp only at hSw); (try simp only [gT, gS, gZ]); go_simp; (try with_reducible rfl)
   simp only [Act.put, gT, gS, gZ, sT, sZ, sS]
   refine tkH 12 ?_ rfl (Or.inl ⟨by rfl, ?_⟩) ?_; rotate_left
   ·intro wq hSw; (try dsimp only at hSw); (try simp only [gT, gS, gZ]); go_simp; (try with_reducible rfl)
   simp only [Act.put, gT, gS, gZ, sT, sZ, sS]
   refine tkH 13 ?_ rfl (Or.inl ⟨by rfl, ?_⟩) ?_; rotate_left
   ·intro wq hSw; (try dsimp only at hSw); (try simp only [gT, gS, gZ]); go_simp; (try with_reducible rfl)
   simp only [Act.put, gT, gS, gZ, sT, sZ, sS]
   refine tkH 14 ?_ rfl (Or.inl ⟨by rfl, ?_⟩) ?_; rotate_left
   ·intro wq hSw; (try dsimp only at hSw); (try simp only [gT, gS, gZ]); go_simp; (try with_reducible rfl)
   simp only [Act.put, gT, gS, gZ, sT, sZ, sS]
   refine tkH 15 ?_ rfl (Or.inl ⟨by rfl, ?_⟩) ?_; rotate_left
   ·intro wq hSw; (try dsimp only at hSw); (try simp only [gT, gS, gZ]); go_simp; (try with_reducible rfl)
   simp only [Act.put, gT, gS, gZ, sT, sZ, sS]
   refine wpAnyH_done (by kernel_rfl) ?_ _
   have HKL := Lib.hid hKL
   have HKX := Lib.hid hKX
   have HOL := Lib.hid hOL
   have HOX := Lib.hid hOX
   have HB := Lib.hid hB
   clear hKL hKX hOL hOX hB hS
   obtain ⟨cl0, cl1, cl2, cl3, cl4, cl5, cl6, cl7, cl8, cl9, cl10, cl11, cl12⟩ := cells13 HKL.out
   obtain ⟨cX0, cX1, cX2, cX3, cX4, cX5, cX6, cX7, cX8, cX9, cX10, cX11, cX12⟩ := cells13 HKX.out
   go_wp2_with fail
   clear cl0 cl1 cl2 cl3 cl4 cl5 cl6 cl7 cl8 cl9 cl10 cl11 cl12
   clear cX0 cX1 cX2 cX3 cX4 cX5 cX6 cX7 cX8 cX9 cX10 cX11 cX12
   have hKL := HKL.out.drew
   have hKX := HKX.out.drew
   have hOL := HOL.out.below (Below.refl _ _).drew
   have hOX := HOX.out.below (Below.refl _ _).drew
   have hB := HB.out.drew
   have hS := And.intro (cells13 hKX) (cells13 hKL)
   refine wp_region_held_drew (S := (fun wx => (wx.cell? ⟨x2.heap.size, 0, none⟩ = some (.int .i64 q.c.codec) ∧ wx.cell? ⟨x2.heap.size, 1, none⟩ = some (.int .i64 q.c.sum) ∧ wx.cell? ⟨x2.heap.size, 2, none⟩ = some (.int .i64 q.c.most) ∧ wx.cell? ⟨x2.heap.size, 3, none⟩ = some (.int .i64 q.c.map) ∧ wx.cell? ⟨x2.heap.size, 4, none⟩ = some (.slice AmX q.ms.length CmX) ∧ wx.cell? ⟨x2.heap.size, 5, none⟩ = some (.int .i64 (q.nx : Int)) ∧ wx.cell? ⟨x2.heap.size, 6, none⟩ = some (.slice AgX q.gs.length CgX) ∧ wx.cell? ⟨x2.heap.size, 7, none⟩ = some (.string (bzL q.f.held)) ∧ wx.cell? ⟨x2.heap.size, 8, none⟩ = some (.bool q.f.over) ∧ wx.cell? ⟨x2.heap.size, 9, none⟩ = some (.string (bzL q.h.held)) ∧ wx.cell? ⟨x2.heap.size, 10, none⟩ = some (.bool q.h.over) ∧ wx.cell? ⟨x2.heap.size, 11, none⟩ = some (.slice AtX q.ts.length CtX) ∧ wx.cell? ⟨x2.heap.size, 12, none⟩ = some (.slice AbX q.bs.length CbX)) ∧ (wx.cell? ⟨x1.heap.size, 0, none⟩ = some (.int .i64 a) ∧ wx.cell? ⟨x1.heap.size, 1, none⟩ = some (.int .i64 b) ∧ wx.cell? ⟨x1.heap.size, 2, none⟩ = some (.int .i64 d) ∧ wx.cell? ⟨x1.heap.size, 3, none⟩ = some (.int .i64 m) ∧ wx.cell? ⟨x1.heap.size, 4, none⟩ = some (.slice AmL ms.length CmL) ∧ wx.cell? ⟨x1.heap.size, 5, none⟩ = some (.int .i64 nx) ∧ wx.cell? ⟨x1.heap.size, 6, none⟩ = some (.slice AgL gs.length CgL) ∧ wx.cell? ⟨x1.heap.size, 7, none⟩ = some (.string T) ∧ wx.cell? ⟨x1.heap.size, 8, none⟩ = some (.bool tO) ∧ wx.cell? ⟨x1.heap.size, 9, none⟩ = some (.string H) ∧ wx.cell? ⟨x1.heap.size, 10, none⟩ = some (.bool hO) ∧ wx.cell? ⟨x1.heap.size, 11, none⟩ = some (.slice AtL ts.length CtL) ∧ wx.cell? ⟨x1.heap.size, 12, none⟩ = some (.slice AbL bs.length CbL)))) (by kernel_rfl) hS (fun hHeld => ?_)
   refine tkH 0 ?_ rfl (Or.inl ⟨by rfl, ?_⟩) ?_; rotate_left
   ·intro wq hSw; (try dsimp only at hSw); (try simp only [gT, gZ]); go_simp; (try with_reducible rfl)
   simp only [Act.put, gT, gZ, sT, sZ, sS]
   refine tkH 1 ?_ rfl (Or.inl ⟨by rfl, ?_⟩) ?_; rotate_left
   ·intro wq hSw; (try dsimp only at hSw); (try simp only [gT, gS, gZ]); go_simp; (try with_reducible rfl)
   simp only [Act.put, gT, gS, gZ, sT, sZ, sS]
   refine tkH 2 ?_ rfl (Or.inl ⟨by rfl, ?_⟩) ?_; rotate_left
   ·intro wq hSw; (try dsimp only at hSw); (try simp only [gT, gS, gZ]); go_simp; (try with_reducible rfl)
   simp only [Act.put, gT, gS, gZ, sT, sZ, sS]
   refine tkH 5 ?_ rfl (Or.inl ⟨by rfl, ?_⟩) ?_; rotate_left
   ·intro wq hSw; (try dsimp only at hSw); (try simp only [gT, gS, gZ]); go_simp; (try with_reducible rfl)
   simp only [Act.put, gT, gS, gZ, sT, sZ, sS]
   refine wpAnyH_ready (rs := [3]) (by kernel_rfl) (by simp) ?_
   refine AllReadyH.cons rfl (fun K hK => ?_) AllReadyH.nil
   (try simp only [gT, gS, gZ])
   go_simp
   go_at_call 17
   refine (HIP.out _ _ _ _ _ hOL).mono ?_
   rintro e x5 ⟨pm, pb, pg, pt, rfl, ⟨hop, _⟩, hbx⟩
   have hop0 : OL _ 0 _ p.ms _ p.gs _ p.ts _ p.bs := ⟨hop.1.mono (Nat.zero_le _), hop.2.1.mono (Nat.zero_le _), hop.2.2.1.mono (Nat.zero_le _), hop.2.2.2.mono (Nat.zero_le _)⟩
   have hKL := hKL.from hbx
   have hKX := hKX.from hbx
   have hOL := hOL.below hbx
   have hOX := hOX.below hbx
   have hB := hB.trans (hbx.mono hB.size)
   have hS := And.intro (cells13 hKX) (cells13 hKL)
   refine hK.out _ _ hS (fun hHeld => ?_)
   clear hK K
   refine wpAnyH_ready (rs := [4]) (by kernel_rfl) (by simp) ?_
   refine AllReadyH.cons rfl (fun K hK => ?_) AllReadyH.nil
   (try simp only [gT, gS, gZ])
   go_simp
   go_at_call 17
   refine (one_round p HPO.out _ _ _ _ _ hop0).mono ?_
   rintro e x6 ⟨rm, rb, rg, rt, rfl, ⟨hor, _⟩, hby⟩
   have hKL := hKL.from hby
   have hKX := hKX.from hby
   have hOL := hOL.below hby
   have hOX := hOX.below hby
   have hB := hB.trans (hby.mono hB.size)
   have hS := And.intro (cells13 hKX) (cells13 hKL)
   rw [← HPQ.out] at hor ⊢
   refine hK.out _ _ hS (fun hHeld => ?_)
   clear hK K
   refine wpAnyH_ready (rs := [6]) (by kernel_rfl) (by simp) ?_
   refine AllReadyH.cons rfl (fun K hK => ?_) AllReadyH.nil
   (try simp only [gT, gS, gZ])
   go_simp
   go_at_call 11
   refine (ctLine_same _ _ _ _ _ _ _ _ _ _ _ _ _ _ _ _ _ _ _ _ _ _ _ _ hor.reads hOX.reads (Nat.le_refl _) (Nat.le_refl _) HFW.out.1 HFW.out.2.1 HFW.out.2.2.1 HFW.out.2.2.2).mono ?_
   rintro e x7 ⟨rfl, hbz⟩
   have hKL := hKL.from hbz
   have hKX := hKX.from hbz
   have hOL := hOL.below hbz
   have hOX := hOX.below hbz
   have hB := hB.trans (hbz.mono hB.size)
   have hS := And.intro (cells13 hKX) (cells13 hKL)
   refine hK.out _ _ hS (fun hHeld => ?_)
   clear hK K
   refine tkH 7 ?_ rfl (Or.inl ⟨by rfl, ?_⟩) ?_; rotate_left
   ·intro wq hSw; (try dsimp only at hSw); (try simp only [gT, gS, gZ]); go_simp; (try with_reducible rfl)
   simp only [Act.put, gT, gS, gZ, sT, sZ, sS]
   refine wpAnyH_done (by kernel_rfl) ?_ _
   have HB := Lib.hid hB
   clear hKL hKX hOL hOX hB hS hop hop0 hor hbx hby hbz
   go_wp2
   go_ret
   exact ⟨rfl, HB.out⟩
 ·rcases Nat.eq_zero_or_pos n with hn0 | hnp
  ·obtain ⟨q, hq⟩ : ∃ q, q = zeroLs := ⟨_, rfl⟩
   have hqc : (q.c.codec == 0) = true := by rw [hq]; rfl
   have HFW := Lib.hid (few (q := q) (.inr hq))
   rw [← hq] at hz
   have HQ := Lib.hid hz
   have HIM := Lib.hid (fun (W : World) (v1 v2 v3 v4 : Value) (h : OL W 0 v1 ms v2 gs v3 ts v4 bs) => by have h2 := HIMP.out (n : Int) W v1 v2 v3 v4 h; rw [HQ.out] at h2; exact h2)
   have HSP := Lib.hid (fun (W : World) (v1 v2 v3 v4 : Value) (h : OL W 0 v1 ms v2 gs v3 ts v4 bs) => by have h2 := HSPC.out (n : Int) W v1 v2 v3 v4 h; rw [HQ.out] at h2; exact h2)
   clear hq hz
   subst hn0
   obtain ⟨cl0, cl1, cl2, cl3, cl4, cl5, cl6, cl7, cl8, cl9, cl10, cl11, cl12⟩ := cells13 HKL.out
   go_wp2_with fail
   clear cl0 cl1 cl2 cl3 cl4 cl5 cl6 cl7 cl8 cl9 cl10 cl11 cl12
   refine (HIM.out _ _ _ _ _ HOL.out).mono ?_
   rintro e x2 ⟨um, ub, ug, ut, rfl, ⟨hox, _⟩, hbx⟩
   obtain ⟨AmX, CmX, hsh⟩ := hox.1.reads.shape
   subst hsh
   obtain ⟨AgX, CgX, hsh⟩ := hox.2.1.reads.shape
   subst hsh
   obtain ⟨AtX, CtX, hsh⟩ := hox.2.2.1.reads.shape
   subst hsh
   obtain ⟨AbX, CbX, hsh⟩ := hox.2.2.2.reads.shape
   subst hsh
   have hba := (Below.refl _ x2).alloc (Nat.le_refl _) (.cells #[.int .i64 q.c.codec, .int .i64 q.c.sum, .int .i64 q.c.most, .int .i64 q.c.map, .slice AmX q.ms.length CmX, .int .i64 (q.nx : Int), .slice AgX q.gs.length CgX, .string (bzL q.f.held), .bool q.f.over, .string (bzL q.h.held), .bool q.h.over, .slice AtX q.ts.length CtX, .slice AbX q.bs.length CbX] 32)
   have HKL := Lib.hid ((HKL.out.from hbx).from hba)
   have HOL := Lib.hid ((HOL.out.below hbx).below hba)
   have HB := Lib.hid ((HB.out.trans (hbx.mono HB.out.size)).trans (hba.mono (Nat.le_trans HB.out.size hbx.size)))
   have HKX := Lib.hid (BK.new x2 #[.int .i64 q.c.codec, .int .i64 q.c.sum, .int .i64 q.c.most, .int .i64 q.c.map, .slice AmX q.ms.length CmX, .int .i64 (q.nx : Int), .slice AgX q.gs.length CgX, .string (bzL q.f.held), .bool q.f.over, .string (bzL q.h.held), .bool q.h.over, .slice AtX q.ts.length CtX, .slice AbX q.bs.length CbX] 32)
   have HOX := Lib.hid (show OL _ 0 _ q.ms _ q.gs _ q.ts _ q.bs from ⟨(hox.below hba).1.mono (Nat.zero_le _), (hox.below hba).2.1.mono (Nat.zero_le _), (hox.below hba).2.2.1.mono (Nat.zero_le _), (hox.below hba).2.2.2.mono (Nat.zero_le _)⟩)
   clear hox hbx hba
   obtain ⟨cl0, cl1, cl2, cl3, cl4, cl5, cl6, cl7, cl8, cl9, cl10, cl11, cl12⟩ := cells13 HKL.out
   obtain ⟨cX0, cX1, cX2, cX3, cX4, cX5, cX6, cX7, cX8, cX9, cX10, cX11, cX12⟩ := cells13 HKX.out
   go_wp2_with fail
   clear cl0 cl1 cl2 cl3 cl4 cl5 cl6 cl7 cl8 cl9 cl10 cl11 cl12
   clear cX0 cX1 cX2 cX3 cX4 cX5 cX6 cX7 cX8 cX9 cX10 cX11 cX12
   have hKL := HKL.out.drew
   have hKX := HKX.out.drew
   have hOL := HOL.out.below (Below.refl _ _).drew
   have hOX := HOX.out.below (Below.refl _ _).drew
   have hB := HB.out.drew
   have hS := And.intro (cells13 hKX) (cells13 hKL)
   refine wp_region_held_drew (S := (fun wx => (wx.cell? ⟨x2.heap.size, 0, none⟩ = some (.int .i64 q.c.codec) ∧ wx.cell? ⟨x2.heap.size, 1, none⟩ = some (.int .i64 q.c.sum) ∧ wx.cell? ⟨x2.heap.size, 2, none⟩ = some (.int .i64 q.c.most) ∧ wx.cell? ⟨x2.heap.size, 3, none⟩ = some (.int .i64 q.c.map) ∧ wx.cell? ⟨x2.heap.size, 4, none⟩ = some (.slice AmX q.ms.length CmX) ∧ wx.cell? ⟨x2.heap.size, 5, none⟩ = some (.int .i64 (q.nx : Int)) ∧ wx.cell? ⟨x2.heap.size, 6, none⟩ = some (.slice AgX q.gs.length CgX) ∧ wx.cell? ⟨x2.heap.size, 7, none⟩ = some (.string (bzL q.f.held)) ∧ wx.cell? ⟨x2.heap.size, 8, none⟩ = some (.bool q.f.over) ∧ wx.cell? ⟨x2.heap.size, 9, none⟩ = some (.string (bzL q.h.held)) ∧ wx.cell? ⟨x2.heap.size, 10, none⟩ = some (.bool q.h.over) ∧ wx.cell? ⟨x2.heap.size, 11, none⟩ = some (.slice AtX q.ts.length CtX) ∧ wx.cell? ⟨x2.heap.size, 12, none⟩ = some (.slice AbX q.bs.length CbX)) ∧ (wx.cell? ⟨x1.heap.size, 0, none⟩ = some (.int .i64 a) ∧ wx.cell? ⟨x1.heap.size, 1, none⟩ = some (.int .i64 b) ∧ wx.cell? ⟨x1.heap.size, 2, none⟩ = some (.int .i64 d) ∧ wx.cell? ⟨x1.heap.size, 3, none⟩ = some (.int .i64 m) ∧ wx.cell? ⟨x1.heap.size, 4, none⟩ = some (.slice AmL ms.length CmL) ∧ wx.cell? ⟨x1.heap.size, 5, none⟩ = some (.int .i64 nx) ∧ wx.cell? ⟨x1.heap.size, 6, none⟩ = some (.slice AgL gs.length CgL) ∧ wx.cell? ⟨x1.heap.size, 7, none⟩ = some (.string T) ∧ wx.cell? ⟨x1.heap.size, 8, none⟩ = some (.bool tO) ∧ wx.cell? ⟨x1.heap.size, 9, none⟩ = some (.string H) ∧ wx.cell? ⟨x1.heap.size, 10, none⟩ = some (.bool hO) ∧ wx.cell? ⟨x1.heap.size, 11, none⟩ = some (.slice AtL ts.length CtL) ∧ wx.cell? ⟨x1.heap.size, 12, none⟩ = some (.slice AbL bs.length CbL)))) (by kernel_rfl) hS (fun hHeld => ?_)
   refine tkH 0 ?_ rfl (Or.inl ⟨by rfl, ?_⟩) ?_; rotate_left
   ·intro wq hSw; (try dsimp only at hSw); (try simp only [gT, gZ]); go_simp; (try with_reducible rfl)
   simp only [Act.put, gT, gZ, sT, sZ, sS]
   refine tkH 1 ?_ rfl (Or.inl ⟨by rfl, ?_⟩) ?_; rotate_left
   ·intro wq hSw; (try dsimp only at hSw); (try simp only [gT, gS, gZ]); go_simp; (try with_reducible rfl)
   simp only [Act.put, gT, gS, gZ, sT, sZ, sS]
   refine tkH 2 ?_ rfl (Or.inl ⟨by rfl, ?_⟩) ?_; rotate_left
   ·intro wq hSw; (try dsimp only at hSw); (try simp only [gT, gS, gZ]); go_simp; (try with_reducible rfl)
   simp only [Act.put, gT, gS, gZ, sT, sZ, sS]
   refine wpAnyH_ready (rs := [3]) (by kernel_rfl) (by simp) ?_
   refine AllReadyH.cons rfl (fun K hK => ?_) AllReadyH.nil
   (try simp only [gT, gS, gZ])
   go_simp
   go_at_call 20
   refine (HSP.out _ _ _ _ _ hOL).mono ?_
   rintro e x3 ⟨tm, tb, tg, tt, rfl, hot, hbx⟩
   have hKL := hKL.from hbx
   have hKX := hKX.from hbx
   have hOL := hOL.below hbx
   have hOX := hOX.below hbx
   have hB := hB.trans (hbx.mono hB.size)
   have hS := And.intro (cells13 hKX) (cells13 hKL)
   refine hK.out _ _ hS (fun hHeld => ?_)
   clear hK K
   refine wpAnyH_ready (rs := [4]) (by kernel_rfl) (by simp) ?_
   refine AllReadyH.cons rfl (fun K hK => ?_) AllReadyH.nil
   (try simp only [gT, gS, gZ])
   go_simp
   go_at_call 11
   refine (ctLine_same _ _ _ _ _ _ _ _ _ _ _ _ _ _ _ _ _ _ _ _ _ _ _ _ hOX.reads hot.reads (Nat.le_refl _) (Nat.le_refl _) HFW.out.1 HFW.out.2.1 HFW.out.2.2.1 HFW.out.2.2.2).mono ?_
   rintro e x4 ⟨rfl, hby⟩
   have hKL := hKL.from hby
   have hKX := hKX.from hby
   have hOL := hOL.below hby
   have hOX := hOX.below hby
   have hB := hB.trans (hby.mono hB.size)
   have hS := And.intro (cells13 hKX) (cells13 hKL)
   clear hot hbx hby
   refine hK.out _ _ hS (fun hHeld => ?_)
   clear hK K
   refine tkH 5 ?_ rfl (Or.inl ⟨by rfl, ?_⟩) ?_; rotate_left
   ·intro wq hSw; (try dsimp only at hSw); (try simp only [gT, gS, gZ]); go_simp; (try with_reducible rfl)
   simp only [Act.put, gT, gS, gZ, sT, sZ, sS]
   refine tkH 6 ?_ rfl (Or.inl ⟨by rfl, ?_⟩) ?_; rotate_left
   ·intro wq hSw; (try dsimp only at hSw); (try simp only [gT, gS, gZ]); go_simp; (try with_reducible rfl)
   simp only [Act.put, gT, gS, gZ, sT, sZ, sS]
   refine tkH 7 ?_ rfl (Or.inl ⟨by rfl, ?_⟩) ?_; rotate_left
   ·intro wq hSw; (try dsimp only at hSw); (try simp only [gT, gS, gZ]); go_simp; (try with_reducible rfl)
   simp only [Act.put, gT, gS, gZ, sT, sZ, sS]
   refine tkH 8 ?_ rfl (Or.inl ⟨by rfl, ?_⟩) ?_; rotate_left
   ·intro wq hSw; (try dsimp only at hSw); (try simp only [gT, gS, gZ]); go_simp; (try with_reducible rfl)
   simp only [Act.put, gT, gS, gZ, sT, sZ, sS]
   refine tkH 9 ?_ rfl (Or.inl ⟨by rfl, ?_⟩) ?_; rotate_left
   ·intro wq hSw; (try dsimp only at hSw); (try simp only [gT, gS, gZ]); go_simp; (try with_reducible rfl)
   simp only [Act.put, gT, gS, gZ, sT, sZ, sS]
   refine tkH 10 ?_ rfl (Or.inl ⟨by rfl, ?_⟩) ?_; rotate_left
   ·intro wq hSw; (try dsimp only at hSw); (try simp only [gT, gS, gZ]); go_simp; (try with_reducible rfl)
   simp only [Act.put, gT, gS, gZ, sT, sZ, sS]
   refine tkH 11 ?_ rfl (Or.inl ⟨by rfl, ?_⟩) ?_; rotate_left
   ·intro wq hSw; (try dsimp only at hSw); (try simp only [gT, gS, gZ]); go_simp; (try with_reducible rfl)
   simp only [Act.put, gT, gS, gZ, sT, sZ, sS]
   refine tkH 12 ?_ rfl (Or.inl ⟨by rfl, ?_⟩) ?_; rotate_left
   ·intro wq hSw; (try dsimp only at hSw); (try simp only [gT, gS, gZ]); go_simp; (try with_reducible rfl)
   simp only [Act.put, gT, gS, gZ, sT, sZ, sS]
   refine tkH 13 undef rfl (Or.inr ⟨by rfl, rfl⟩) ?_
   simp only [Act.put, gT, gS, gZ, sT, sZ, sS]
   refine tkH 14 undef rfl (Or.inr ⟨by rfl, rfl⟩) ?_
   simp only [Act.put, gT, gS, gZ, sT, sZ, sS]
   refine tkH 15 ?_ rfl (Or.inl ⟨by rfl, ?_⟩) ?_; rotate_left
   ·intro wq hSw; (try dsimp only at hSw); (try simp only [gT, gS, gZ]); go_simp; (try with_reducible rfl)
   simp only [Act.put, gT, gS, gZ, sT, sZ, sS]
   refine wpAnyH_done (by kernel_rfl) ?_ _
   have HKL := Lib.hid hKL
   have HKX := Lib.hid hKX
   have HOL := Lib.hid hOL
   have HOX := Lib.hid hOX
   have HB := Lib.hid hB
   clear hKL hKX hOL hOX hB hS
   obtain ⟨cl0, cl1, cl2, cl3, cl4, cl5, cl6, cl7, cl8, cl9, cl10, cl11, cl12⟩ := cells13 HKL.out
   obtain ⟨cX0, cX1, cX2, cX3, cX4, cX5, cX6, cX7, cX8, cX9, cX10, cX11, cX12⟩ := cells13 HKX.out
   go_wp2_with fail
   clear cl0 cl1 cl2 cl3 cl4 cl5 cl6 cl7 cl8 cl9 cl10 cl11 cl12
   clear cX0 cX1 cX2 cX3 cX4 cX5 cX6 cX7 cX8 cX9 cX10 cX11 cX12
   have hKL := HKL.out.drew
   have hKX := HKX.out.drew
   have hOL := HOL.out.below (Below.refl _ _).drew
   have hOX := HOX.out.below (Below.refl _ _).drew
   have hB := HB.out.drew
   have hS := And.intro (cells13 hKX) (cells13 hKL)
   refine wp_region_held_drew (S := (fun wx => (wx.cell? ⟨x2.heap.size, 0, none⟩ = some (.int .i64 q.c.codec) ∧ wx.cell? ⟨x2.heap.size, 1, none⟩ = some (.int .i64 q.c.sum) ∧ wx.cell? ⟨x2.heap.size, 2, none⟩ = some (.int .i64 q.c.most) ∧ wx.cell? ⟨x2.heap.size, 3, none⟩ = some (.int .i64 q.c.map) ∧ wx.cell? ⟨x2.heap.size, 4, none⟩ = some (.slice AmX q.ms.length CmX) ∧ wx.cell? ⟨x2.heap.size, 5, none⟩ = some (.int .i64 (q.nx : Int)) ∧ wx.cell? ⟨x2.heap.size, 6, none⟩ = some (.slice AgX q.gs.length CgX) ∧ wx.cell? ⟨x2.heap.size, 7, none⟩ = some (.string (bzL q.f.held)) ∧ wx.cell? ⟨x2.heap.size, 8, none⟩ = some (.bool q.f.over) ∧ wx.cell? ⟨x2.heap.size, 9, none⟩ = some (.string (bzL q.h.held)) ∧ wx.cell? ⟨x2.heap.size, 10, none⟩ = some (.bool q.h.over) ∧ wx.cell? ⟨x2.heap.size, 11, none⟩ = some (.slice AtX q.ts.length CtX) ∧ wx.cell? ⟨x2.heap.size, 12, none⟩ = some (.slice AbX q.bs.length CbX)) ∧ (wx.cell? ⟨x1.heap.size, 0, none⟩ = some (.int .i64 a) ∧ wx.cell? ⟨x1.heap.size, 1, none⟩ = some (.int .i64 b) ∧ wx.cell? ⟨x1.heap.size, 2, none⟩ = some (.int .i64 d) ∧ wx.cell? ⟨x1.heap.size, 3, none⟩ = some (.int .i64 m) ∧ wx.cell? ⟨x1.heap.size, 4, none⟩ = some (.slice AmL ms.length CmL) ∧ wx.cell? ⟨x1.heap.size, 5, none⟩ = some (.int .i64 nx) ∧ wx.cell? ⟨x1.heap.size, 6, none⟩ = some (.slice AgL gs.length CgL) ∧ wx.cell? ⟨x1.heap.size, 7, none⟩ = some (.string T) ∧ wx.cell? ⟨x1.heap.size, 8, none⟩ = some (.bool tO) ∧ wx.cell? ⟨x1.heap.size, 9, none⟩ = some (.string H) ∧ wx.cell? ⟨x1.heap.size, 10, none⟩ = some (.bool hO) ∧ wx.cell? ⟨x1.heap.size, 11, none⟩ = some (.slice AtL ts.length CtL) ∧ wx.cell? ⟨x1.heap.size, 12, none⟩ = some (.slice AbL bs.length CbL)))) (by kernel_rfl) hS (fun hHeld => ?_)
   refine tkH 0 ?_ rfl (Or.inl ⟨by rfl, ?_⟩) ?_; rotate_left
   ·intro wq hSw; (try dsimp only at hSw); (try simp only [gT, gZ]); go_simp; (try with_reducible rfl)
   simp only [Act.put, gT, gZ, sT, sZ, sS]
   refine tkH 1 ?_ rfl (Or.inl ⟨by rfl, ?_⟩) ?_; rotate_left
   ·intro wq hSw; (try dsimp only at hSw); (try simp only [gT, gS, gZ]); go_simp; (try with_reducible rfl)
   simp only [Act.put, gT, gS, gZ, sT, sZ, sS]
   refine tkH 2 ?_ rfl (Or.inl ⟨by rfl, ?_⟩) ?_; rotate_left
   ·intro wq hSw; (try dsimp only at hSw); (try simp only [gT, gS, gZ]); go_simp; (try with_reducible rfl)
   simp only [Act.put, gT, gS, gZ, sT, sZ, sS]
   refine wpAnyH_ready (rs := [3]) (by kernel_rfl) (by simp) ?_
   refine AllReadyH.cons rfl (fun K hK => ?_) AllReadyH.nil
   (try simp only [gT, gS, gZ])
   go_simp
   go_at_call 20
   refine (HSP.out _ _ _ _ _ hOL).mono ?_
   rintro e x8 ⟨tm, tb, tg, tt, rfl, hot, hbx⟩
   have hKL := hKL.from hbx
   have hKX := hKX.from hbx
   have hOL := hOL.below hbx
   have hOX := hOX.below hbx
   have hB := hB.trans (hbx.mono hB.size)
   have hS := And.intro (cells13 hKX) (cells13 hKL)
   refine hK.out _ _ hS (fun hHeld => ?_)
   clear hK K
   refine wpAnyH_ready (rs := [4]) (by kernel_rfl) (by simp) ?_
   refine AllReadyH.cons rfl (fun K hK => ?_) AllReadyH.nil
   (try simp only [gT, gS, gZ])
   go_simp
   go_at_call 11
   refine (ctLine_same _ _ _ _ _ _ _ _ _ _ _ _ _ _ _ _ _ _ _ _ _ _ _ _ hOX.reads hot.reads (Nat.le_refl _) (Nat.le_refl _) HFW.out.1 HFW.out.2.1 HFW.out.2.2.1 HFW.out.2.2.2).mono ?_
   rintro e x9 ⟨rfl, hby⟩
   have hKL := hKL.from hby
   have hKX := hKX.from hby
   have hOL := hOL.below hby
   have hOX := hOX.below hby
   have hB := hB.trans (hby.mono hB.size)
   have hS := And.intro (cells13 hKX) (cells13 hKL)
   clear hot hbx hby
   refine hK.out _ _ hS (fun hHeld => ?_)
   clear hK K
   refine tkH 5 ?_ rfl (Or.inl ⟨by rfl, ?_⟩) ?_; rotate_left
   ·intro wq hSw; (try dsimp only at hSw); (try simp only [gT, gS, gZ]); go_simp; (try with_reducible rfl)
   simp only [Act.put, gT, gS, gZ, sT, sZ, sS]
   refine tkH 6 ?_ rfl (Or.inl ⟨by rfl, ?_⟩) ?_; rotate_left
   ·intro wq hSw; (try dsimp only at hSw); (try simp only [gT, gS, gZ]); go_simp; (try with_reducible rfl)
   simp only [Act.put, gT, gS, gZ, sT, sZ, sS]
   refine tkH 7 ?_ rfl (Or.inl ⟨by rfl, ?_⟩) ?_; rotate_left
   ·intro wq hSw; (try dsimp only at hSw); (try simp only [gT, gS, gZ]); go_simp; (try with_reducible rfl)
   simp only [Act.put, gT, gS, gZ, sT, sZ, sS]
   refine tkH 8 ?_ rfl (Or.inl ⟨by rfl, ?_⟩) ?_; rotate_left
   ·intro wq hSw; (try dsimp only at hSw); (try simp only [gT, gS, gZ]); go_simp; (try with_reducible rfl)
   simp only [Act.put, gT, gS, gZ, sT, sZ, sS]
   refine tkH 9 ?_ rfl (Or.inl ⟨by rfl, ?_⟩) ?_; rotate_left
   ·intro wq hSw; (try dsimp only at hSw); (try simp only [gT, gS, gZ]); go_simp; (try with_reducible rfl)
   simp only [Act.put, gT, gS, gZ, sT, sZ, sS]
   refine tkH 10 ?_ rfl (Or.inl ⟨by rfl, ?_⟩) ?_; rotate_left
   ·intro wq hSw; (try dsimp only at hSw); (try simp only [gT, gS, gZ]); go_simp; (try with_reducible rfl)
   simp only [Act.put, gT, gS, gZ, sT, sZ, sS]
   refine tkH 11 ?_ rfl (Or.inl ⟨by rfl, ?_⟩) ?_; rotate_left
   ·intro wq hSw; (try dsimp only at hSw); (try simp only [gT, gS, gZ]); go_simp; (try with_reducible rfl)
   simp only [Act.put, gT, gS, gZ, sT, sZ, sS]
   refine tkH 12 ?_ rfl (Or.inl ⟨by rfl, ?_⟩) ?_; rotate_left
   ·intro wq hSw; (try dsimp only at hSw); (try simp only [gT, gS, gZ]); go_simp; (try with_reducible rfl)
   simp only [Act.put, gT, gS, gZ, sT, sZ, sS]
   refine tkH 13 ?_ rfl (Or.inl ⟨by rfl, ?_⟩) ?_; rotate_left
   ·intro wq hSw; (try dsimp only at hSw); (try simp only [gT, gS, gZ]); go_simp; (try with_reducible rfl)
   simp only [Act.put, gT, gS, gZ, sT, sZ, sS]
   refine tkH 14 ?_ rfl (Or.inl ⟨by rfl, ?_⟩) ?_; rotate_left
   ·intro wq hSw; (try dsimp only at hSw); (try simp only [gT, gS, gZ]); go_simp; (try with_reducible rfl)
   simp only [Act.put, gT, gS, gZ, sT, sZ, sS]
   refine tkH 15 undef rfl (Or.inr ⟨by rfl, rfl⟩) ?_
   simp only [Act.put, gT, gS, gZ, sT, sZ, sS]
   refine tkH 16 undef rfl (Or.inr ⟨by rfl, rfl⟩) ?_
   simp only [Act.put, gT, gS, gZ, sT, sZ, sS]
   refine tkH 17 undef rfl (Or.inr ⟨by rfl, rfl⟩) ?_
   simp only [Act.put, gT, gS, gZ, sT, sZ, sS]
   refine tkH 18 ?_ rfl (Or.inl ⟨by rfl, ?_⟩) ?_; rotate_left
   ·intro wq hSw; (try dsimp only at hSw); (try simp only [gT, gS, gZ]); go_simp; (try with_reducible rfl)
   simp only [Act.put, gT, gS, gZ, sT, sZ, sS]
   refine tkH 19 ?_ rfl (Or.inl ⟨by rfl, ?_⟩) ?_; rotate_left
   ·intro wq hSw; (try dsimp only at hSw); (try simp only [gT, gS, gZ]); go_simp; (try with_reducible rfl)
   simp only [Act.put, gT, gS, gZ, sT, sZ, sS]
   refine tkH 20 ?_ rfl (Or.inl ⟨by rfl, ?_⟩) ?_; rotate_left
   ·intro wq hSw; (try dsimp only at hSw); (try simp only [gT, gS, gZ]); go_simp; (try with_reducible rfl)
   simp only [Act.put, gT, gS, gZ, sT, sZ, sS]
   refine wpAnyH_done (by kernel_rfl) ?_ _
   have HKL := Lib.hid hKL
   have HKX := Lib.hid hKX
   have HOL := Lib.hid hOL
   have HOX := Lib.hid hOX
   have HB := Lib.hid hB
   clear hKL hKX hOL hOX hB hS
   go_wp2
   go_ret
   exact ⟨rfl, HB.out⟩
  ·obtain ⟨q, hq⟩ : ∃ q, q = zeroLs := ⟨_, rfl⟩
   have hqc : (q.c.codec == 0) = true := by rw [hq]; rfl
   have HFW := Lib.hid (few (q := q) (.inr hq))
   rw [← hq] at hz
   have HQ := Lib.hid hz
   have HIM := Lib.hid (fun (W : World) (v1 v2 v3 v4 : Value) (h : OL W 0 v1 ms v2 gs v3 ts v4 bs) => by have h2 := HIMP.out (n : Int) W v1 v2 v3 v4 h; rw [HQ.out] at h2; exact h2)
   have HSP := Lib.hid (fun (W : World) (v1 v2 v3 v4 : Value) (h : OL W 0 v1 ms v2 gs v3 ts v4 bs) => by have h2 := HSPC.out (n : Int) W v1 v2 v3 v4 h; rw [HQ.out] at h2; exact h2)
   clear hq hz
   have hn1 : ((n : Int) != 0) = true := by simp; omega
   obtain ⟨cl0, cl1, cl2, cl3, cl4, cl5, cl6, cl7, cl8, cl9, cl10, cl11, cl12⟩ := cells13 HKL.out
   go_wp2_with fail
   clear cl0 cl1 cl2 cl3 cl4 cl5 cl6 cl7 cl8 cl9 cl10 cl11 cl12
   refine (HIM.out _ _ _ _ _ HOL.out).mono ?_
   rintro e x2 ⟨um, ub, ug, ut, rfl, ⟨hox, _⟩, hbx⟩
   obtain ⟨AmX, CmX, hsh⟩ := hox.1.reads.shape
   subst hsh
   obtain ⟨AgX, CgX, hsh⟩ := hox.2.1.reads.shape
   subst hsh
   obtain ⟨AtX, CtX, hsh⟩ := hox.2.2.1.reads.shape
   subst hsh
   obtain ⟨AbX, CbX, hsh⟩ := hox.2.2.2.reads.shape
   subst hsh
   have hba := (Below.refl _ x2).alloc (Nat.le_refl _) (.cells #[.int .i64 q.c.codec, .int .i64 q.c.sum, .int .i64 q.c.most, .int .i64 q.c.map, .slice AmX q.ms.length CmX, .int .i64 (q.nx : Int), .slice AgX q.gs.length CgX, .string (bzL q.f.held), .bool q.f.over, .string (bzL q.h.held), .bool q.h.over, .slice AtX q.ts.length CtX, .slice AbX q.bs.length CbX] 32)
   have HKL := Lib.hid ((HKL.out.from hbx).from hba)
   have HOL := Lib.hid ((HOL.out.below hbx).below hba)
   have HB := Lib.hid ((HB.out.trans (hbx.mono HB.out.size)).trans (hba.mono (Nat.le_trans HB.out.size hbx.size)))
   have HKX := Lib.hid (BK.new x2 #[.int .i64 q.c.codec, .int .i64 q.c.sum, .int .i64 q.c.most, .int .i64 q.c.map, .slice AmX q.ms.length CmX, .int .i64 (q.nx : Int), .slice AgX q.gs.length CgX, .string (bzL q.f.held), .bool q.f.over, .string (bzL q.h.held), .bool q.h.over, .slice AtX q.ts.length CtX, .slice AbX q.bs.length CbX] 32)
   have HOX := Lib.hid (show OL _ 0 _ q.ms _ q.gs _ q.ts _ q.bs from ⟨(hox.below hba).1.mono (Nat.zero_le _), (hox.below hba).2.1.mono (Nat.zero_le _), (hox.below hba).2.2.1.mono (Nat.zero_le _), (hox.below hba).2.2.2.mono (Nat.zero_le _)⟩)
   clear hox hbx hba
   obtain ⟨cl0, cl1, cl2, cl3, cl4, cl5, cl6, cl7, cl8, cl9, cl10, cl11, cl12⟩ := cells13 HKL.out
   obtain ⟨cX0, cX1, cX2, cX3, cX4, cX5, cX6, cX7, cX8, cX9, cX10, cX11, cX12⟩ := cells13 HKX.out
   go_wp2_with fail
   clear cl0 cl1 cl2 cl3 cl4 cl5 cl6 cl7 cl8 cl9 cl10 cl11 cl12
   clear cX0 cX1 cX2 cX3 cX4 cX5 cX6 cX7 cX8 cX9 cX10 cX11 cX12
   have hKL := HKL.out.drew
   have hKX := HKX.out.drew
   have hOL := HOL.out.below (Below.refl _ _).drew
   have hOX := HOX.out.below (Below.refl _ _).drew
   have hB := HB.out.drew
   have hS := And.intro (cells13 hKX) (cells13 hKL)
   refine wp_region_held_drew (S := (fun wx => (wx.cell? ⟨x2.heap.size, 0, none⟩ = some (.int .i64 q.c.codec) ∧ wx.cell? ⟨x2.heap.size, 1, none⟩ = some (.int .i64 q.c.sum) ∧ wx.cell? ⟨x2.heap.size, 2, none⟩ = some (.int .i64 q.c.most) ∧ wx.cell? ⟨x2.heap.size, 3, none⟩ = some (.int .i64 q.c.map) ∧ wx.cell? ⟨x2.heap.size, 4, none⟩ = some (.slice AmX q.ms.length CmX) ∧ wx.cell? ⟨x2.heap.size, 5, none⟩ = some (.int .i64 (q.nx : Int)) ∧ wx.cell? ⟨x2.heap.size, 6, none⟩ = some (.slice AgX q.gs.length CgX) ∧ wx.cell? ⟨x2.heap.size, 7, none⟩ = some (.string (bzL q.f.held)) ∧ wx.cell? ⟨x2.heap.size, 8, none⟩ = some (.bool q.f.over) ∧ wx.cell? ⟨x2.heap.size, 9, none⟩ = some (.string (bzL q.h.held)) ∧ wx.cell? ⟨x2.heap.size, 10, none⟩ = some (.bool q.h.over) ∧ wx.cell? ⟨x2.heap.size, 11, none⟩ = some (.slice AtX q.ts.length CtX) ∧ wx.cell? ⟨x2.heap.size, 12, none⟩ = some (.slice AbX q.bs.length CbX)) ∧ (wx.cell? ⟨x1.heap.size, 0, none⟩ = some (.int .i64 a) ∧ wx.cell? ⟨x1.heap.size, 1, none⟩ = some (.int .i64 b) ∧ wx.cell? ⟨x1.heap.size, 2, none⟩ = some (.int .i64 d) ∧ wx.cell? ⟨x1.heap.size, 3, none⟩ = some (.int .i64 m) ∧ wx.cell? ⟨x1.heap.size, 4, none⟩ = some (.slice AmL ms.length CmL) ∧ wx.cell? ⟨x1.heap.size, 5, none⟩ = some (.int .i64 nx) ∧ wx.cell? ⟨x1.heap.size, 6, none⟩ = some (.slice AgL gs.length CgL) ∧ wx.cell? ⟨x1.heap.size, 7, none⟩ = some (.string T) ∧ wx.cell? ⟨x1.heap.size, 8, none⟩ = some (.bool tO) ∧ wx.cell? ⟨x1.heap.size, 9, none⟩ = some (.string H) ∧ wx.cell? ⟨x1.heap.size, 10, none⟩ = some (.bool hO) ∧ wx.cell? ⟨x1.heap.size, 11, none⟩ = some (.slice AtL ts.length CtL) ∧ wx.cell? ⟨x1.heap.size, 12, none⟩ = some (.slice AbL bs.length CbL)))) (by kernel_rfl) hS (fun hHeld => ?_)
   refine tkH 0 ?_ rfl (Or.inl ⟨by rfl, ?_⟩) ?_; rotate_left
   ·intro wq hSw; (try dsimp only at hSw); (try simp only [gT, gZ]); go_simp; (try with_reducible rfl)
   simp only [Act.put, gT, gZ, sT, sZ, sS]
   refine tkH 1 ?_ rfl (Or.inl ⟨by rfl, ?_⟩) ?_; rotate_left
   ·intro wq hSw; (try dsimp only at hSw); (try simp only [gT, gS, gZ]); go_simp; (try with_reducible rfl)
   simp only [Act.put, gT, gS, gZ, sT, sZ, sS]
   refine tkH 2 ?_ rfl (Or.inl ⟨by rfl, ?_⟩) ?_; rotate_left
   ·intro wq hSw; (try dsimp only at hSw); (try simp only [gT, gS, gZ]); go_simp; (try with_reducible rfl)
   simp only [Act.put, gT, gS, gZ, sT, sZ, sS]
   refine wpAnyH_ready (rs := [3]) (by kernel_rfl) (by simp) ?_
   refine AllReadyH.cons rfl (fun K hK => ?_) AllReadyH.nil
   (try simp only [gT, gS, gZ])
   go_simp
   go_at_call 20
   refine (HSP.out _ _ _ _ _ hOL).mono ?_
   rintro e x3 ⟨tm, tb, tg, tt, rfl, hot, hbx⟩
   have hKL := hKL.from hbx
   have hKX := hKX.from hbx
   have hOL := hOL.below hbx
   have hOX := hOX.below hbx
   have hB := hB.trans (hbx.mono hB.size)
   have hS := And.intro (cells13 hKX) (cells13 hKL)
   refine hK.out _ _ hS (fun hHeld => ?_)
   clear hK K
   refine wpAnyH_ready (rs := [4]) (by kernel_rfl) (by simp) ?_
   refine AllReadyH.cons rfl (fun K hK => ?_) AllReadyH.nil
   (try simp only [gT, gS, gZ])
   go_simp
   go_at_call 11
   refine (ctLine_same _ _ _ _ _ _ _ _ _ _ _ _ _ _ _ _ _ _ _ _ _ _ _ _ hOX.reads hot.reads (Nat.le_refl _) (Nat.le_refl _) HFW.out.1 HFW.out.2.1 HFW.out.2.2.1 HFW.out.2.2.2).mono ?_
   rintro e x4 ⟨rfl, hby⟩
   have hKL := hKL.from hby
   have hKX := hKX.from hby
   have hOL := hOL.below hby
   have hOX := hOX.below hby
   have hB := hB.trans (hby.mono hB.size)
   have hS := And.intro (cells13 hKX) (cells13 hKL)
   clear hot hbx hby
   refine hK.out _ _ hS (fun hHeld => ?_)
   clear hK K
   refine tkH 5 ?_ rfl (Or.inl ⟨by rfl, ?_⟩) ?_; rotate_left
   ·intro wq hSw; (try dsimp only at hSw); (try simp only [gT, gS, gZ]); go_simp; (try with_reducible rfl)
   simp only [Act.put, gT, gS, gZ, sT, sZ, sS]
   refine tkH 6 ?_ rfl (Or.inl ⟨by rfl, ?_⟩) ?_; rotate_left
   ·intro wq hSw; (try dsimp only at hSw); (try simp only [gT, gS, gZ]); go_simp; (try with_reducible rfl)
   simp only [Act.put, gT, gS, gZ, sT, sZ, sS]
   refine tkH 7 ?_ rfl (Or.inl ⟨by rfl, ?_⟩) ?_; rotate_left
   ·intro wq hSw; (try dsimp only at hSw); (try simp only [gT, gS, gZ]); go_simp; (try with_reducible rfl)
   simp only [Act.put, gT, gS, gZ, sT, sZ, sS]
   refine tkH 8 ?_ rfl (Or.inl ⟨by rfl, ?_⟩) ?_; rotate_left
   ·intro wq hSw; (try dsimp only at hSw); (try simp only [gT, gS, gZ]); go_simp; (try with_reducible rfl)
   simp only [Act.put, gT, gS, gZ, sT, sZ, sS]
   refine tkH 9 ?_ rfl (Or.inl ⟨by rfl, ?_⟩) ?_; rotate_left
   ·intro wq hSw; (try dsimp only at hSw); (try simp only [gT, gS, gZ]); go_simp; (try with_reducible rfl)
   simp only [Act.put, gT, gS, gZ, sT, sZ, sS]
   refine tkH 10 ?_ rfl (Or.inl ⟨by rfl, ?_⟩) ?_; rotate_left
   ·intro wq hSw; (try dsimp only at hSw); (try simp only [gT, gS, gZ]); go_simp; (try with_reducible rfl)
   simp only [Act.put, gT, gS, gZ, sT, sZ, sS]
   refine tkH 11 ?_ rfl (Or.inl ⟨by rfl, ?_⟩) ?_; rotate_left
   ·intro wq hSw; (try dsimp only at hSw); (try simp only [gT, gS, gZ]); go_simp; (try with_reducible rfl)
   simp only [Act.put, gT, gS, gZ, sT, sZ, sS]
   refine tkH 12 ?_ rfl (Or.inl ⟨by rfl, ?_⟩) ?_; rotate_left
   ·intro wq hSw; (try dsimp only at hSw); (try simp only [gT, gS, gZ]); go_simp; (try with_reducible rfl)
   simp only [Act.put, gT, gS, gZ, sT, sZ, sS]
   refine tkH 13 undef rfl (Or.inr ⟨by rfl, rfl⟩) ?_
   simp only [Act.put, gT, gS, gZ, sT, sZ, sS]
   refine tkH 14 undef rfl (Or.inr ⟨by rfl, rfl⟩) ?_
   simp only [Act.put, gT, gS, gZ, sT, sZ, sS]
   refine tkH 15 ?_ rfl (Or.inl ⟨by rfl, ?_⟩) ?_; rotate_left
   ·intro wq hSw; (try dsimp only at hSw); (try simp only [gT, gS, gZ]); go_simp; (try with_reducible rfl)
   simp only [Act.put, gT, gS, gZ, sT, sZ, sS]
   refine wpAnyH_done (by kernel_rfl) ?_ _
   have HKL := Lib.hid hKL
   have HKX := Lib.hid hKX
   have HOL := Lib.hid hOL
   have HOX := Lib.hid hOX
   have HB := Lib.hid hB
   clear hKL hKX hOL hOX hB hS
   obtain ⟨cl0, cl1, cl2, cl3, cl4, cl5, cl6, cl7, cl8, cl9, cl10, cl11, cl12⟩ := cells13 HKL.out
   obtain ⟨cX0, cX1, cX2, cX3, cX4, cX5, cX6, cX7, cX8, cX9, cX10, cX11, cX12⟩ := cells13 HKX.out
   go_wp2_with fail
   clear cl0 cl1 cl2 cl3 cl4 cl5 cl6 cl7 cl8 cl9 cl10 cl11 cl12
   clear cX0 cX1 cX2 cX3 cX4 cX5 cX6 cX7 cX8 cX9 cX10 cX11 cX12
   have hKL := HKL.out.drew
   have hKX := HKX.out.drew
   have hOL := HOL.out.below (Below.refl _ _).drew
   have hOX := HOX.out.below (Below.refl _ _).drew
   have hB := HB.out.drew
   have hS := And.intro (cells13 hKX) (cells13 hKL)
   refine wp_region_held_drew (S := (fun wx => (wx.cell? ⟨x2.heap.size, 0, none⟩ = some (.int .i64 q.c.codec) ∧ wx.cell? ⟨x2.heap.size, 1, none⟩ = some (.int .i64 q.c.sum) ∧ wx.cell? ⟨x2.heap.size, 2, none⟩ = some (.int .i64 q.c.most) ∧ wx.cell? ⟨x2.heap.size, 3, none⟩ = some (.int .i64 q.c.map) ∧ wx.cell? ⟨x2.heap.size, 4, none⟩ = some (.slice AmX q.ms.length CmX) ∧ wx.cell? ⟨x2.heap.size, 5, none⟩ = some (.int .i64 (q.nx : Int)) ∧ wx.cell? ⟨x2.heap.size, 6, none⟩ = some (.slice AgX q.gs.length CgX) ∧ wx.cell? ⟨x2.heap.size, 7, none⟩ = some (.string (bzL q.f.held)) ∧ wx.cell? ⟨x2.heap.size, 8, none⟩ = some (.bool q.f.over) ∧ wx.cell? ⟨x2.heap.size, 9, none⟩ = some (.string (bzL q.h.held)) ∧ wx.cell? ⟨x2.heap.size, 10, none⟩ = some (.bool q.h.over) ∧ wx.cell? ⟨x2.heap.size, 11, none⟩ = some (.slice AtX q.ts.length CtX) ∧ wx.cell? ⟨x2.heap.size, 12, none⟩ = some (.slice AbX q.bs.length CbX)) ∧ (wx.cell? ⟨x1.heap.size, 0, none⟩ = some (.int .i64 a) ∧ wx.cell? ⟨x1.heap.size, 1, none⟩ = some (.int .i64 b) ∧ wx.cell? ⟨x1.heap.size, 2, none⟩ = some (.int .i64 d) ∧ wx.cell? ⟨x1.heap.size, 3, none⟩ = some (.int .i64 m) ∧ wx.cell? ⟨x1.heap.size, 4, none⟩ = some (.slice AmL ms.length CmL) ∧ wx.cell? ⟨x1.heap.size, 5, none⟩ = some (.int .i64 nx) ∧ wx.cell? ⟨x1.heap.size, 6, none⟩ = some (.slice AgL gs.length CgL) ∧ wx.cell? ⟨x1.heap.size, 7, none⟩ = some (.string T) ∧ wx.cell? ⟨x1.heap.size, 8, none⟩ = some (.bool tO) ∧ wx.cell? ⟨x1.heap.size, 9, none⟩ = some (.string H) ∧ wx.cell? ⟨x1.heap.size, 10, none⟩ = some (.bool hO) ∧ wx.cell? ⟨x1.heap.size, 11, none⟩ = some (.slice AtL ts.length CtL) ∧ wx.cell? ⟨x1.heap.size, 12, none⟩ = some (.slice AbL bs.length CbL)))) (by kernel_rfl) hS (fun hHeld => ?_)
   refine tkH 0 ?_ rfl (Or.inl ⟨by rfl, ?_⟩) ?_; rotate_left
   ·intro wq hSw; (try dsimp only at hSw); (try simp only [gT, gZ]); go_simp; (try with_reducible rfl)
   simp only [Act.put, gT, gZ, sT, sZ, sS]
   refine tkH 1 ?_ rfl (Or.inl ⟨by rfl, ?_⟩) ?_; rotate_left
   ·intro wq hSw; (try dsimp only at hSw); (try simp only [gT, gS, gZ]); go_simp; (try with_reducible rfl)
   simp only [Act.put, gT, gS, gZ, sT, sZ, sS]
   refine tkH 2 ?_ rfl (Or.inl ⟨by rfl, ?_⟩) ?_; rotate_left
   ·intro wq hSw; (try dsimp only at hSw); (try simp only [gT, gS, gZ]); go_simp; (try with_reducible rfl)
   simp only [Act.put, gT, gS, gZ, sT, sZ, sS]
   refine wpAnyH_ready (rs := [3]) (by kernel_rfl) (by simp) ?_
   refine AllReadyH.cons rfl (fun K hK => ?_) AllReadyH.nil
   (try simp only [gT, gS, gZ])
   go_simp
   go_at_call 20
   refine (HSP.out _ _ _ _ _ hOL).mono ?_
   rintro e x8 ⟨tm, tb, tg, tt, rfl, hot, hbx⟩
   have hKL := hKL.from hbx
   have hKX := hKX.from hbx
   have hOL := hOL.below hbx
   have hOX := hOX.below hbx
   have hB := hB.trans (hbx.mono hB.size)
   have hS := And.intro (cells13 hKX) (cells13 hKL)
   refine hK.out _ _ hS (fun hHeld => ?_)
   clear hK K
   refine wpAnyH_ready (rs := [4]) (by kernel_rfl) (by simp) ?_
   refine AllReadyH.cons rfl (fun K hK => ?_) AllReadyH.nil
   (try simp only [gT, gS, gZ])
   go_simp
   go_at_call 11
   refine (ctLine_same _ _ _ _ _ _ _ _ _ _ _ _ _ _ _ _ _ _ _ _ _ _ _ _ hOX.reads hot.reads (Nat.le_refl _) (Nat.le_refl _) HFW.out.1 HFW.out.2.1 HFW.out.2.2.1 HFW.out.2.2.2).mono ?_
   rintro e x9 ⟨rfl, hby⟩
   have hKL := hKL.from hby
   have hKX := hKX.from hby
   have hOL := hOL.below hby
   have hOX := hOX.below hby
   have hB := hB.trans (hby.mono hB.size)
   have hS := And.intro (cells13 hKX) (cells13 hKL)
   clear hot hbx hby
   refine hK.out _ _ hS (fun hHeld => ?_)
   clear hK K
   refine tkH 5 ?_ rfl (Or.inl ⟨by rfl, ?_⟩) ?_; rotate_left
   ·intro wq hSw; (try dsimp only at hSw); (try simp only [gT, gS, gZ]); go_simp; (try with_reducible rfl)
   simp only [Act.put, gT, gS, gZ, sT, sZ, sS]
   refine tkH 6 ?_ rfl (Or.inl ⟨by rfl, ?_⟩) ?_; rotate_left
   ·intro wq hSw; (try dsimp only at hSw); (try simp only [gT, gS, gZ]); go_simp; (try with_reducible rfl)
   simp only [Act.put, gT, gS, gZ, sT, sZ, sS]
   refine tkH 7 ?_ rfl (Or.inl ⟨by rfl, ?_⟩) ?_; rotate_left
   ·intro wq hSw; (try dsimp only at hSw); (try simp only [gT, gS, gZ]); go_simp; (try with_reducible rfl)
   simp only [Act.put, gT, gS, gZ, sT, sZ, sS]
   refine tkH 8 ?_ rfl (Or.inl ⟨by rfl, ?_⟩) ?_; rotate_left
   ·intro wq hSw; (try dsimp only at hSw); (try simp only [gT, gS, gZ]); go_simp; (try with_reducible rfl)
   simp only [Act.put, gT, gS, gZ, sT, sZ, sS]
   refine tkH 9 undef rfl (Or.inr ⟨by rfl, rfl⟩) ?_
   simp only [Act.put, gT, gS, gZ, sT, sZ, sS]
   refine tkH 10 undef rfl (Or.inr ⟨by rfl, rfl⟩) ?_
   simp only [Act.put, gT, gS, gZ, sT, sZ, sS]
   refine tkH 11 undef rfl (Or.inr ⟨by rfl, rfl⟩) ?_
   simp only [Act.put, gT, gS, gZ, sT, sZ, sS]
   refine tkH 12 undef rfl (Or.inr ⟨by rfl, rfl⟩) ?_
   simp only [Act.put, gT, gS, gZ, sT, sZ, sS]
   refine tkH 13 ?_ rfl (Or.inl ⟨by rfl, ?_⟩) ?_; rotate_left
   ·intro wq hSw; (try dsimp only at hSw); (try simp only [gT, gS, gZ]); go_simp; (try with_reducible rfl)
   simp only [Act.put, gT, gS, gZ, sT, sZ, sS]
   refine tkH 14 ?_ rfl (Or.inl ⟨by rfl, ?_⟩) ?_; rotate_left
   ·intro wq hSw; (try dsimp only at hSw); (try simp only [gT, gS, gZ]); go_simp; (try with_reducible rfl)
   simp only [Act.put, gT, gS, gZ, sT, sZ, sS]
   refine tkH 15 undef rfl (Or.inr ⟨by rfl, rfl⟩) ?_
   simp only [Act.put, gT, gS, gZ, sT, sZ, sS]
   refine tkH 16 undef rfl (Or.inr ⟨by rfl, rfl⟩) ?_
   simp only [Act.put, gT, gS, gZ, sT, sZ, sS]
   refine tkH 17 undef rfl (Or.inr ⟨by rfl, rfl⟩) ?_
   simp only [Act.put, gT, gS, gZ, sT, sZ, sS]
   refine tkH 18 ?_ rfl (Or.inl ⟨by rfl, ?_⟩) ?_; rotate_left
   ·intro wq hSw; (try dsimp only at hSw); (try simp only [gT, gS, gZ]); go_simp; (try with_reducible rfl)
   simp only [Act.put, gT, gS, gZ, sT, sZ, sS]
   refine tkH 19 ?_ rfl (Or.inl ⟨by rfl, ?_⟩) ?_; rotate_left
   ·intro wq hSw; (try dsimp only at hSw); (try simp only [gT, gS, gZ]); go_simp; (try with_reducible rfl)
   simp only [Act.put, gT, gS, gZ, sT, sZ, sS]
   refine tkH 20 ?_ rfl (Or.inl ⟨by rfl, ?_⟩) ?_; rotate_left
   ·intro wq hSw; (try dsimp only at hSw); (try simp only [gT, gS, gZ]); go_simp; (try with_reducible rfl)
   simp only [Act.put, gT, gS, gZ, sT, sZ, sS]
   refine wpAnyH_done (by kernel_rfl) ?_ _
   have HKL := Lib.hid hKL
   have HKX := Lib.hid hKX
   have HOL := Lib.hid hOL
   have HOX := Lib.hid hOX
   have HB := Lib.hid hB
   clear hKL hKX hOL hOX hB hS
   go_wp2
   go_ret
   exact ⟨rfl, HB.out⟩
theorem own : ownKnob Tryz.prog.godebug = none := by kernel_rfl
theorem laidOut : laidOutB Tryz.prog = true := by kernel_rfl
set_option maxRecDepth 100000 in
theorem lifted (os : Os) (started : os.Started) (H : Type) (enc : TypeId × Value → H) :
  ReturnsInHanded {} Tryz.checked os 6 .any (Rows.fnCalmRoundsSpec.pre6 enc Tryz.prog Tryz.f6 Rows.fnCalmRoundsRow.domain false) (Rows.fnCalmRoundsSpec.post enc Tryz.prog Tryz.f6 false true false false) := by
 refine returnsInHanded_of_change (C := Tryz.checked) own started (by kernel_rfl) Tryz.func6
  (ChangeSpec.witness6 (enc := enc) (C := Tryz.checked) false ⟨#[], #[.slice none 0 0], []⟩ 8 (by kernel_rfl) (by kernel_rfl) (by kernel_rfl) (by kernel_rfl)) ?_
 intro W base args ds gs before hval0 hW hcnd _
 have hval : ∀ (j : Nat) t v, Tryz.f6.params[j]? = some t → args[j]? = some v → Value.okWide Tryz.prog W .any base t v := hval0
 have hW' := hW
 obtain ⟨p, q, hA0, hV, rfl, hfz, hnd⟩ := hW
 have hA : DataW.TrodAll enc Tryz.prog W 0 (fun _ => true) true Tryz.f6.params.toList args.toList ds p := hA0
 rw [Tryz.params6] at hA hval
 obtain ⟨v0, vs0, d0, ds0, p0, q0, hargs, rfl, rfl, h0, r0⟩ := trodAll_cons hA
 obtain ⟨rfl, rfl, rfl⟩ := trodAll_nil r0
 obtain rfl : args = #[v0] := by cases args; simp_all
 obtain ⟨rfl, rfl⟩ := trodVars_none hV
 obtain ⟨a0, len0, cap0, rfl⟩ := okWide_slice Tryz.underlying22 (hval 0 22 v0 rfl rfl)
 have k0 := h0
 have lt0 : ∀ x ∈ p0, x.block < W.heap.size := by obtain ⟨m, hm⟩ := k0; exact DataW.trod_lt m _ _ _ hm
 obtain ⟨z0, w0⟩ : ∃ zs, IsRow .u8 W a0 len0 cap0 zs := by
  obtain ⟨fuel, hf⟩ := h0
  rcases open_ints Tryz.underlying22 Tryz.underlying5 (by kernel_rfl) hf with ⟨hcs, _⟩ | ⟨x, l, c, zs, hcs, _, hl, hm, hz, _, hcell, hwz⟩
  ·simp [Value.cells] at hcs
   obtain ⟨rfl, rfl, rfl⟩ := hcs
   exact ⟨[], .inl ⟨rfl, rfl, rfl, rfl⟩⟩
  ·simp [Value.cells] at hcs
   obtain ⟨rfl, rfl, rfl⟩ := hcs
   exact ⟨zs, .inr ⟨_, rfl, hl, hm, by simpa using hz, hcell, hwz⟩⟩
 clear hA0 hval0
 refine (walk a0 len0 cap0 z0 W w0).mono fun e W' ⟨he, bel⟩ => ?_
 subst he
 exact ⟨_, rfl, _, _, _, [], _, [], hW', trodAll_mk1 (shut_bool Tryz.underlying4 _), (trodAll_cons_mk (Below.trod laidOut (by kernel_rfl) (of_decide_eq_true (by kernel_rfl)) k0 bel lt0) trodAll_mk0), rfl, bel.frame _, fun h => by cases h⟩
theorem over : Rows.fnCalmRoundsRow.holds Tryz.pinned (OpenSpec.ofChange Rows.fnCalmRoundsSpec) :=
 OpenClaim.holds_of_wide 6 Tryz.f6 rfl rfl rfl rfl rfl rfl rfl ⟨rfl, rfl, rfl, rfl, rfl⟩ rfl rfl rfl rfl rfl (by kernel_rfl) Tryz.func6 (by kernel_rfl)
  (of_decide_eq_true (by kernel_rfl)) (by unfold Func.isWrapper; first | (rw [if_pos (by decide +kernel)]; kernel_rfl) | (rw [if_neg (by decide +kernel)]; exact ⟨rfl, rfl⟩))
  (fun os started H enc _ => lifted os started H enc)
theorem proved : Rows.FnCalmRoundsSaid := over
end Go.Proofs.YtmggoiabcboaiaaGreat.fnCalmRounds
