/- FnLineFold: a play is its steps, one by one: of every draw of a way to write, messages and steps. For every code that the law draws from. No condition. -/
import Derived.Test.YtmggoiabcboaiaaGreatZd1
import Derived.Test.YtmggoiabcboaiaaGreatZd2
import Derived.Test.YtmggoiabcboaiaaGreatZd3
import Derived.Test.YtmggoiabcboaiaaGreatZd4
import Derived.Test.YtmggoiabcboaiaaGreatZd5
import Derived.Test.YtmggoiabcboaiaaGreatZd6
import Derived.Test.YtmggoiabcboaiaaGreatZd7
import Derived.Test.YtmggoiabcboaiaaGreatZd8
import Derived.Test.YtmggoiabcboaiaaGreatZd9
import Derived.Test.YtmggoiabcboaiaaGreatZd10
import Derived.Test.YtmggoiabcboaiaaGreatZd11
import Derived.Test.YtmggoiabcboaiaaGreatZd12
import Derived.Test.YtmggoiabcboaiaaGreatZd13
import Derived.Test.YtmggoiabcboaiaaGreatZd14
import Derived.Test.YtmggoiabcboaiaaGreatZd15
import Derived.Test.YtmggoiabcboaiaaGreatZd16
import Derived.Test.YtmggoiabcboaiaaGreatZd17
import Derived.Test.YtmggoiabcboaiaaGreatZd18
import Derived.Test.YtmggoiabcboaiaaGreatZd19
import Derived.Test.YtmggoiabcboaiaaGreatZd20
import Derived.Test.YtmggoiabcboaiaaGreatZd21
import Derived.Test.YtmggoiabcboaiaaGreatZd22
import Derived.Test.YtmggoiabcboaiaaGreatZd23
import Derived.Test.YtmggoiabcboaiaaGreatZd24
import Derived.Test.YtmggoiabcboaiaaGreatZd25
import Derived.Test.YtmggoiabcboaiaaGreatZd26
import Derived.Test.YtmggoiabcboaiaaGreatZd27
import Derived.Test.YtmggoiabcboaiaaGreatZd28
import Derived.Test.YtmggoiabcboaiaaGreatZd29
import Derived.Test.YtmggoiabcboaiaaGreatZd30
import Derived.Test.YtmggoiabcboaiaaGreatZd31
namespace Go.Proofs.YtmggoiabcboaiaaGreat.fnLineFold
open Go.ChangeShapes Go.WideShapes Go.ChangeAt Go.RowKit
set_option linter.unusedVariables false
theorem wf_steps {zs : List Int} (h : ∀ z ∈ zs, 1 ≤ z ∧ z ≤ 7) : ∀ z ∈ zs, (Lit.int .i64 z).wf = true := by
 intro z hz
 have := h z hz
 simp [Lit.wf, IntKind.min, IntKind.max, IntKind.signed, IntKind.bits]
 omega
theorem wf_conf {c : Cf} (h : confB c = true) : (Lit.int .i64 c.codec).wf = true := by
 have := (confB_yes h).1
 simp [Lit.wf, IntKind.min, IntKind.max, IntKind.signed, IntKind.bits]
 omega
theorem few {q : Ls} (h : q.Ok ∨ q = zeroLs) : q.ms.length ≤ 1048576 ∧ q.gs.length ≤ 1048576 ∧ q.ts.length ≤ 1048576 ∧ q.bs.length ≤ 1048576 := by
 rcases h with h | rfl
 ·have h1 := h.ml
  have h2 := h.gl
  have h3 := h.tl
  have h4 := h.bl
  exact ⟨by omega, by omega, by omega, by omega⟩
 ·exact ⟨Nat.zero_le _, Nat.zero_le _, Nat.zero_le _, Nat.zero_le _⟩
theorem held_few {q : Ls} (h : q.Ok) : q.f.held.length ≤ 1048576 ∧ q.h.held.length ≤ 1048576 := by
 have h1 := (okF_yes h.okf).2.1
 have h2 := (okF_yes h.okh).2.1
 have h3 := (confB_yes h.conf)
 have h4 := h3.2.2.1.2
 have h5 := kind_or h3.2.1
 unfold holdN at h1 h2
 constructor <;> omega
theorem ok_few {q : Ls} (h : q.Ok) : fewLn q.ms q.gs (bzL q.f.held) (bzL q.h.held) q.ts q.bs := by
 have h1 := held_few h
 have h2 := h.ml
 have h3 := h.gl
 have h4 := h.tl
 have h5 := h.bl
 have h6 := (confB_yes h.conf).2.2.1.2
 exact ⟨⟨by rw [bzL_size]; exact h1.1, by rw [bzL_size]; exact h1.2⟩, ⟨by omega, by omega, by omega, by omega⟩, fun s hs => by have := h.mz s hs; omega, h.gz, h.tz, h.bz⟩
/-- a line's box, its rows own -/
def FoldAt (W : World) (g : Nat) (p : Ls) : Prop := ∃ vm vb vg vt, BK W g (lsC p vm vb vg vt) 32 ∧ OL W 0 vm p.ms vg p.gs vt p.ts vb p.bs
theorem do_contract (p : Ls) (h : p.Ok) (z : Int) (wz : (Lit.int .i64 z).wf = true) (wa : (Lit.int .i64 p.c.codec).wf = true) (W : World) (x1 x2 x3 x4 : Value) (ho : OL W 0 x1 p.ms x3 p.gs x4 p.ts x2 p.bs) :
  Calls Tryz.prog 15 #[lsV p x1 x2 x3 x4, .int .i64 z] W (ResD W (p.doP z)) := by
 have hres : doRes (mkLs p.c.codec p.c.sum p.c.most p.c.map p.ms (p.nx : Int) p.gs (bzL p.f.held) p.f.over (bzL p.h.held) p.h.over p.ts p.bs) (okLn p.c.codec p.c.sum p.c.most p.c.map p.ms (p.nx : Int) p.gs (bzL p.f.held) p.f.over (bzL p.h.held) p.h.over p.ts p.bs) z = p.doP z := by
  unfold doRes okLn
  rw [if_pos (ok_line h)]
  unfold mkLs
  rw [bzL_list, bzL_list]
  rfl
 rw [← hres]
 exact implLineDo_any p.c.codec p.c.sum p.c.most p.c.map (p.nx : Int) x1 p.ms x3 p.gs x4 p.ts x2 p.bs (bzL p.f.held) (bzL p.h.held) p.f.over p.h.over z W W.heap.size ho.reads (Nat.le_refl _) wa wz (ok_few h)
set_option maxRecDepth 100000 in
set_option maxHeartbeats 4000000 in
theorem walk (a0 : Option Addr) (len0 cap0 : Nat) (z0 : List Int) (w : World) (w0 : IsRow .u8 w a0 len0 cap0 z0) :
  Calls Tryz.prog 3 #[.slice a0 len0 cap0] w fun e w' => e = .returned (.bool true) ∧ Below w.heap.size w w' := by
 by_cases hbig : 1048576 < len0
 ·go_enter Tryz.func3, Tryz.ntmps3
  go_wp2
  go_ret
  exact ⟨rfl, Below.refl _ _⟩
 have HH := Lib.hid w0
 have hzl := zero_line
 have hzc := zero_conf
 clear w0
 go_enter Tryz.func3, Tryz.ntmps3
 go_wp2_with fail
 refine (drawLinePlay_any a0 len0 cap0 z0 HH.out).mono ?_
 rintro e x1 ⟨a, b, d, m, v, ms, vz, zs, rfl, hcf, ⟨ho1, hl, hzs⟩, ⟨hz1, hzl2, hzz⟩, hb1⟩
 obtain ⟨Av, capv, hsh⟩ := ho1.reads.shape
 subst hsh
 obtain ⟨Az, capz, hsh⟩ := hz1.reads.shape
 subst hsh
 have wa : (Lit.int .i64 a).wf = true := wf_conf (c := ⟨a, b, d, m⟩) hcf
 have hba := (Below.refl _ x1).alloc (Nat.le_refl _) (.cells #[.int .i64 a, .int .i64 b, .int .i64 d, .int .i64 m] 24)
 have HK := Lib.hid (BK.new x1 #[.int .i64 a, .int .i64 b, .int .i64 d, .int .i64 m] 24)
 have HO := Lib.hid (ho1.below hba)
 have HZ := Lib.hid (hz1.below hba)
 have HB := Lib.hid (hb1.trans (hba.mono hb1.size))
 have HZS := Lib.hid (show ∀ s ∈ ms, s.size ≤ 1048576 from fun s hs => by have := hzs s hs; omega)
 have HWF := Lib.hid (wf_steps hzz)
 have HML := Lib.hid (show ms.length ≤ 1048576 by omega)
 have HZL := Lib.hid (show zs.length ≤ 1048576 by omega)
 have HCF := Lib.hid hcf
 clear hba ho1 hz1 hb1 hzs hzz hcf hl hzl2
 obtain ⟨q, hq⟩ : ∃ q, q = playRes ⟨a, b, d, m⟩ ms zs := ⟨_, rfl⟩
 have HIM := Lib.hid (show ∀ (W : World) (vm vv : Value), RS W W.heap.size vm ms → RZ W W.heap.size vv zs → Calls Tryz.prog 10 #[cfV a b d m, vm, vv] W (ResL W q) from fun W vm vv h1 h2 => by rw [hq]; exact implLinePlay_any a b d m vm ms vv zs W W.heap.size h1 h2 (Nat.le_refl _) wa HML.out HZS.out (by have := HZL.out; unfold maxLen; omega) HWF.out)
 have HSP := Lib.hid (show ∀ (W : World) (vm vv : Value), RS W W.heap.size vm ms → RZ W W.heap.size vv zs → Calls Tryz.prog 12 #[cfV a b d m, vm, vv] W (TPost W q) from fun W vm vv h1 h2 => by rw [hq]; exact specLinePlay_any a b d m vm ms vv zs W W.heap.size h1 h2 (Nat.le_refl _) HML.out HZS.out HZL.out)
 have hcase : (newB ⟨a, b, d, m⟩ ms = true ∧ Inv q ∧ q.c = ⟨a, b, d, m⟩ ∧ q.ms = ms ∧ q.Ok) ∨ q = zeroLs := by
  cases hn : newB ⟨a, b, d, m⟩ ms with
  | true => left; rw [hq]; have h := play_yes (zs := zs) hn; exact ⟨rfl, h.1, h.2.1, h.2.2.1, h.2.2.2⟩
  | false => right; rw [hq]; exact play_no hn
 have HFW := Lib.hid (few (q := q) (hcase.elim (fun h => .inl h.2.2.2.2) .inr))
 have HCS := Lib.hid hcase
 have HQE := Lib.hid hq
 clear hcase hq
 obtain ⟨cf0, cf1, cf2, cf3⟩ := cells4 HK.out
 go_wp2_with fail
 clear cf0 cf1 cf2 cf3
 refine (HIM.out _ _ _ HO.out.reads HZ.out.reads).mono ?_
 rintro e x2 ⟨um, ub, ug, ut, rfl, ⟨hol, hap⟩, hbx⟩
 obtain ⟨Aml, Cml, hsh⟩ := hol.1.reads.shape
 subst hsh
 obtain ⟨Agl, Cgl, hsh⟩ := hol.2.1.reads.shape
 subst hsh
 obtain ⟨Atl, Ctl, hsh⟩ := hol.2.2.1.reads.shape
 subst hsh
 obtain ⟨Abl, Cbl, hsh⟩ := hol.2.2.2.reads.shape
 subst hsh
 have HK := Lib.hid (HK.out.from hbx)
 have HO := Lib.hid (HO.out.below hbx)
 have HZ := Lib.hid (HZ.out.below hbx)
 have HB := Lib.hid (HB.out.trans (hbx.mono HB.out.size))
 have HOl := Lib.hid hol
 clear hol hap hbx
 have hba := (Below.refl _ x2).alloc (Nat.le_refl _) (.cells #[.int .i64 q.c.codec, .int .i64 q.c.sum, .int .i64 q.c.most, .int .i64 q.c.map, .slice Aml q.ms.length Cml, .int .i64 (q.nx : Int), .slice Agl q.gs.length Cgl, .string (bzL q.f.held), .bool q.f.over, .string (bzL q.h.held), .bool q.h.over, .slice Atl q.ts.length Ctl, .slice Abl q.bs.length Cbl] 32)
 have hnew := BK.new x2 #[.int .i64 q.c.codec, .int .i64 q.c.sum, .int .i64 q.c.most, .int .i64 q.c.map, .slice Aml q.ms.length Cml, .int .i64 (q.nx : Int), .slice Agl q.gs.length Cgl, .string (bzL q.f.held), .bool q.f.over, .string (bzL q.h.held), .bool q.h.over, .slice Atl q.ts.length Ctl, .slice Abl q.bs.length Cbl] 32
 have HK := Lib.hid (HK.out.from hba)
 have HOl := Lib.hid (HOl.out.below hba)
 have HO := Lib.hid (HO.out.below hba)
 have HZ := Lib.hid (HZ.out.below hba)
 have HB := Lib.hid (HB.out.trans (hba.mono HB.out.size))
 have HKl := Lib.hid hnew
 clear hnew hba
 rcases HCS.out with ⟨hn, hinv, hqc, hqm, hqo⟩ | hz
 ·have HN := Lib.hid hn
  have HQO := Lib.hid hqo
  have wq : (Lit.int .i64 q.c.codec).wf = true := by rw [hqc]; exact wa
  clear hn hinv hqc hqm hqo
  obtain ⟨cf0, cf1, cf2, cf3⟩ := cells4 HK.out
  obtain ⟨cl0, cl1, cl2, cl3, cl4, cl5, cl6, cl7, cl8, cl9, cl10, cl11, cl12⟩ := cells13 HKl.out
  go_wp2_with fail
  clear cf0 cf1 cf2 cf3
  clear cl0 cl1 cl2 cl3 cl4 cl5 cl6 cl7 cl8 cl9 cl10 cl11 cl12
  have hKq := HK.out.drew
  have hL := HKl.out.drew
  have hO := HO.out.drew
  have hZ := HZ.out.drew
  have hOl := HOl.out.below (Below.refl _ _).drew
  have hB := HB.out.drew
  have hS := And.intro (cells13 hL) (cells4 hKq)
  refine wp_region_held_drew (S := (fun wx => (wx.cell? ⟨x2.heap.size, 0, none⟩ = some (.int .i64 q.c.codec) ∧ wx.cell? ⟨x2.heap.size, 1, none⟩ = some (.int .i64 q.c.sum) ∧ wx.cell? ⟨x2.heap.size, 2, none⟩ = some (.int .i64 q.c.most) ∧ wx.cell? ⟨x2.heap.size, 3, none⟩ = some (.int .i64 q.c.map) ∧ wx.cell? ⟨x2.heap.size, 4, none⟩ = some (.slice Aml q.ms.length Cml) ∧ wx.cell? ⟨x2.heap.size, 5, none⟩ = some (.int .i64 (q.nx : Int)) ∧ wx.cell? ⟨x2.heap.size, 6, none⟩ = some (.slice Agl q.gs.length Cgl) ∧ wx.cell? ⟨x2.heap.size, 7, none⟩ = some (.string (bzL q.f.held)) ∧ wx.cell? ⟨x2.heap.size, 8, none⟩ = some (.bool q.f.over) ∧ wx.cell? ⟨x2.heap.size, 9, none⟩ = some (.string (bzL q.h.held)) ∧ wx.cell? ⟨x2.heap.size, 10, none⟩ = some (.bool q.h.over) ∧ wx.cell? ⟨x2.heap.size, 11, none⟩ = some (.slice Atl q.ts.length Ctl) ∧ wx.cell? ⟨x2.heap.size, 12, none⟩ = some (.slice Abl q.bs.length Cbl)) ∧ (wx.cell? ⟨x1.heap.size, 0, none⟩ = some (.int .i64 a) ∧ wx.cell? ⟨x1.heap.size, 1, none⟩ = some (.int .i64 b) ∧ wx.cell? ⟨x1.heap.size, 2, none⟩ = some (.int .i64 d) ∧ wx.cell? ⟨x1.heap.size, 3, none⟩ = some (.int .i64 m)))) (by kernel_rfl) hS (fun hHeld => ?_)
  refine tkH 0 ?_ rfl (Or.inl ⟨by rfl, ?_⟩) ?_; rotate_left
  ·intro wq hSw; (try dsimp only at hSw); (try simp only [gT, gZ]); go_simp; (try with_reducible rfl)
  simp only [Act.put, gT, gZ, sT, sZ, sS]
  refine tkH 1 ?_ rfl (Or.inl ⟨by rfl, ?_⟩) ?_; rotate_left
  ·intro wq hSw; (try dsimp only at hSw); (try simp only [gT, gS, gZ]); go_simp; (try with_reducible rfl)
  simp only [Act.put, gT, gS, gZ, sT, sZ, sS]
  refine tkH 2 ?_ rfl (Or.inl ⟨by rfl, ?_⟩) ?_; rotate_left
  ·intro wq hSw; (try dsimp only at hSw); (try simp only [gT, gS, gZ]); go_simp; (try with_reducible rfl)
  simp only [Act.put, gT, gS, gZ, sT, sZ, sS]
  refine tkH 3 ?_ rfl (Or.inl ⟨by rfl, ?_⟩) ?_; rotate_left
  ·intro wq hSw; (try dsimp only at hSw); (try simp only [gT, gS, gZ]); go_simp; (try with_reducible rfl)
  simp only [Act.put, gT, gS, gZ, sT, sZ, sS]
  refine wpAnyH_ready (rs := [4]) (by kernel_rfl) (by simp) ?_
  refine AllReadyH.cons rfl (fun K hK => ?_) AllReadyH.nil
  (try simp only [gT, gS, gZ])
  go_simp
  go_at_call 12
  refine (HSP.out _ _ _ hO.reads hZ.reads).mono ?_
  rintro e x3 ⟨tm, tb, tg, tt, rfl, hol, hbx⟩
  have hKq := hKq.from hbx
  have hL := hL.from hbx
  have hOl := hOl.below hbx
  have hO := hO.below hbx
  have hZ := hZ.below hbx
  have hB := hB.trans (hbx.mono hB.size)
  have hS := And.intro (cells13 hL) (cells4 hKq)
  refine hK.out _ _ hS (fun hHeld => ?_)
  clear hK K
  refine wpAnyH_ready (rs := [5]) (by kernel_rfl) (by simp) ?_
  refine AllReadyH.cons rfl (fun K hK => ?_) AllReadyH.nil
  (try simp only [gT, gS, gZ])
  go_simp
  go_at_call 11
  refine (ctLine_same _ _ _ _ _ _ _ _ _ _ _ _ _ _ _ _ _ _ _ _ _ _ _ _ hOl.reads hol.reads (Nat.le_refl _) (Nat.le_refl _) HFW.out.1 HFW.out.2.1 HFW.out.2.2.1 HFW.out.2.2.2).mono ?_
  rintro e x4 ⟨rfl, hby⟩
  have hKq := hKq.from hby
  have hL := hL.from hby
  have hOl := hOl.below hby
  have hO := hO.below hby
  have hZ := hZ.below hby
  have hB := hB.trans (hby.mono hB.size)
  have hS := And.intro (cells13 hL) (cells4 hKq)
  refine hK.out _ _ hS (fun hHeld => ?_)
  clear hK K
  refine tkH 6 ?_ rfl (Or.inl ⟨by rfl, ?_⟩) ?_; rotate_left
  ·intro wq hSw; (try dsimp only at hSw); (try simp only [gT, gS, gZ]); go_simp; (try with_reducible rfl)
  simp only [Act.put, gT, gS, gZ, sT, sZ, sS]
  refine tkH 7 ?_ rfl (Or.inl ⟨by rfl, ?_⟩) ?_; rotate_left
  ·intro wq hSw; (try dsimp only at hSw); (try simp only [gT, gS, gZ]); go_simp; (try with_reducible rfl)
  simp only [Act.put, gT, gS, gZ, sT, sZ, sS]
  refine tkH 8 ?_ rfl (Or.inl ⟨by rfl, ?_⟩) ?_; rotate_left
  ·intro wq hSw; (try dsimp only at hSw); (try simp only [gT, gS, gZ]); go_simp; (try with_reducible rfl)
  simp only [Act.put, gT, gS, gZ, sT, sZ, sS]
  refine wpAnyH_ready (rs := [9]) (by kernel_rfl) (by simp) ?_
  refine AllReadyH.cons rfl (fun K hK => ?_) AllReadyH.nil
  (try simp only [gT, gS, gZ])
  go_simp
  go_at_call 13
  refine (implLineOk_any _ _ _ _ _ _ q.ms _ _ _ _ _ _ _ _ _ _ _ _ _ _ _ hOl.1.reads (Nat.le_refl _) wq (by rw [bzL_size]; exact Nat.le_trans (held_few HQO.out).1 (by unfold maxLen; omega)) (by rw [bzL_size]; exact Nat.le_trans (held_few HQO.out).2 (by unfold maxLen; omega)) (Nat.le_trans HFW.out.1 (by unfold maxLen; omega)) (fun s hs => by have h1 := HQO.out.mz s hs; have h2 := (confB_yes HQO.out.conf).2.2.1; unfold maxLen; omega)).mono ?_
  rintro e x5 ⟨rfl, hbz⟩
  rw [show lineB _ _ _ _ _ _ _ _ = true from ok_line HQO.out]
  have hKq := hKq.from hbz
  have hL := hL.from hbz
  have hOl := hOl.below hbz
  have hO := hO.below hbz
  have hZ := hZ.below hbz
  have hB := hB.trans (hbz.mono hB.size)
  have hS := And.intro (cells13 hL) (cells4 hKq)
  refine hK.out _ _ hS (fun hHeld => ?_)
  clear hK K
  refine tkH 10 ?_ rfl (Or.inl ⟨by rfl, ?_⟩) ?_; rotate_left
  ·intro wq hSw; (try dsimp only at hSw); (try simp only [gT, gS, gZ]); go_simp; (try with_reducible rfl)
  simp only [Act.put, gT, gS, gZ, sT, sZ, sS]
  refine tkH 11 ?_ rfl (Or.inl ⟨by rfl, ?_⟩) ?_; rotate_left
  ·intro wq hSw; (try dsimp only at hSw); (try simp only [gT, gS, gZ]); go_simp; (try with_reducible rfl)
  simp only [Act.put, gT, gS, gZ, sT, sZ, sS]
  refine wpAnyH_done (by kernel_rfl) ?_ _
  have HK := Lib.hid hKq
  have HKl := Lib.hid hL
  have HO := Lib.hid hO
  have HZ := Lib.hid hZ
  have HOl := Lib.hid hOl
  have HB := Lib.hid hB
  clear hKq hL hO hZ hOl hB hS hol hbx hby hbz
  have HOl := Lib.hid (show OL _ 0 _ q.ms _ q.gs _ q.ts _ q.bs from ⟨HOl.out.1.mono (Nat.zero_le _), HOl.out.2.1.mono (Nat.zero_le _), HOl.out.2.2.1.mono (Nat.zero_le _), HOl.out.2.2.2.mono (Nat.zero_le _)⟩)
  obtain ⟨cf0, cf1, cf2, cf3⟩ := cells4 HK.out
  obtain ⟨cl0, cl1, cl2, cl3, cl4, cl5, cl6, cl7, cl8, cl9, cl10, cl11, cl12⟩ := cells13 HKl.out
  go_wp2_with fail
  clear cf0 cf1 cf2 cf3
  clear cl0 cl1 cl2 cl3 cl4 cl5 cl6 cl7 cl8 cl9 cl10 cl11 cl12
  refine (implLineNew_any a b d m _ ms _ _ HO.out.reads (Nat.le_refl _) wa HML.out HZS.out).mono ?_
  rintro e x6 (⟨_, u, rfl, ho3, hbx⟩ | ⟨hno, _⟩)
  rotate_left
  ·rw [HN.out] at hno; cases hno
  obtain ⟨Au, Cu, hsh⟩ := ho3.reads.shape
  subst hsh
  have HK := Lib.hid (HK.out.from hbx)
  have HKl := Lib.hid (HKl.out.from hbx)
  have HOl := Lib.hid (HOl.out.below hbx)
  have HO := Lib.hid (HO.out.below hbx)
  have HZ := Lib.hid (HZ.out.below hbx)
  have HB := Lib.hid (HB.out.trans (hbx.mono HB.out.size))
  have HNB := Lib.hid (OS.mono (base' := 0) ho3 (Nat.zero_le _))
  clear ho3 hbx
  have hba := (Below.refl _ x6).alloc (Nat.le_refl _) (.cells (lsC (newLs ⟨a, b, d, m⟩ ms) (.slice Au ms.length Cu) (.slice none 0 0) (.slice none 0 0) (.slice none 0 0)) 32)
  have HX0 := Lib.hid (show FoldAt (x6.alloc (.cells (lsC (newLs ⟨a, b, d, m⟩ ms) (.slice Au ms.length Cu) (.slice none 0 0) (.slice none 0 0) (.slice none 0 0)) 32)) x6.heap.size (newLs ⟨a, b, d, m⟩ ms) from ⟨_, _, _, _, BK.new _ _ _, ⟨HNB.out.below hba, OS_nil _ _, OS_nil _ _, OS_nil _ _⟩⟩)
  have HBA := Lib.hid hba
  have HZ6 := Lib.hid HZ.out.reads
  have HGL := Lib.hid HKl.out.lt
  clear hba HNB
  have HNO := Lib.hid (newLs_ok HN.out)
  have HV := Lib.hid (show (zs.take 80).foldl Ls.doP (newLs ⟨a, b, d, m⟩ ms) = q by rw [HQE.out]; unfold playRes; rw [if_pos HN.out])
  go_wp2
  go_loopw [8] (fun i wr => ∃ k : Nat, k ≤ zs.length ∧ k ≤ 80 ∧ i = .int .i64 (k : Int) ∧ FoldAt wr x6.heap.size ((zs.take k).foldl Ls.doP (newLs ⟨a, b, d, m⟩ ms)) ∧ Below x6.heap.size x6 wr) (fun i _ => 80 - (intOf i).toNat)
  case atStart => exact ⟨0, Nat.zero_le _, Nat.zero_le _, rfl, HX0.out, HBA.out⟩
  case round =>
   obtain ⟨k, hk, hk80, rfl, hx, hb⟩ := hrel
   have HX := Lib.hid hx
   have HBr := Lib.hid hb
   clear hx hb HX0 HBA
   have HOQ := Lib.hid (Ls.Ok.plays (zs.take k) HNO.out)
   by_cases hlt : k < zs.length ∧ k < 80
   ·obtain ⟨hlt1, hlt2⟩ := hlt
    obtain ⟨xa, rfl, hxB, d0⟩ := (HZ6.out.below HBr.out).at_ hlt1
    have HST := Lib.hid (show (zs.take (k + 1)).foldl Ls.doP (newLs ⟨a, b, d, m⟩ ms) = ((zs.take k).foldl Ls.doP (newLs ⟨a, b, d, m⟩ ms)).doP zs[k] by rw [List.take_succ_eq_append_getElem hlt1, List.foldl_append]; rfl)
    have hzw := HWF.out zs[k] (List.getElem_mem hlt1)
    have hcq := (plays_c (zs.take k) (newLs ⟨a, b, d, m⟩ ms)).1
    generalize zs[k] = z at *
    generalize (zs.take k).foldl Ls.doP (newLs ⟨a, b, d, m⟩ ms) = p at *
    have HDO := Lib.hid (fun (W : World) (x1 x2 x3 x4 : Value) (h : OL W 0 x1 p.ms x3 p.gs x4 p.ts x2 p.bs) => do_contract p HOQ.out z hzw (by rw [hcq]; exact wa) W x1 x2 x3 x4 h)
    generalize p.doP z = p2 at *
    clear hzw hcq
    obtain ⟨um, ub, ug, ut, hbk, hol⟩ := HX.out
    obtain ⟨Am4, Cm4, hsh⟩ := hol.1.reads.shape
    subst hsh
    obtain ⟨Ag4, Cg4, hsh⟩ := hol.2.1.reads.shape
    subst hsh
    obtain ⟨At4, Ct4, hsh⟩ := hol.2.2.1.reads.shape
    subst hsh
    obtain ⟨Ab4, Cb4, hsh⟩ := hol.2.2.2.reads.shape
    subst hsh
    have HD := Lib.hid hbk
    have HOd := Lib.hid hol
    have HD0 := Lib.hid d0
    clear hbk hol d0
    go_wp2_with fail
    have hD := HD.out.drew
    have hOd := HOd.out.below (Below.refl _ _).drew
    have hS : wr.drew.cell? (xa.add k) = some (.int .i64 z) := HD0.out
    obtain ⟨c0, c1, c2, c3, c4, c5, c6, c7, c8, c9, c10, c11, c12⟩ := cells13 hD
    refine wp_region_held_drew (S := (fun wx => wx.cell? (xa.add k) = some (.int .i64 z))) (by kernel_rfl) hS (fun hHeld => ?_)
    refine tkH 1 ?_ rfl (Or.inl ⟨by rfl, ?_⟩) ?_; rotate_left
    ·intro wq hSw; (try dsimp only at hSw); (try simp only [gT, gS, gZ]); go_simp; (try with_reducible rfl)
    simp only [Act.put, gT, gS, gZ, sT, sZ, sS]
    refine tkH 2 ?_ rfl (Or.inl ⟨by rfl, ?_⟩) ?_; rotate_left
    ·intro wq hSw; (try dsimp only at hSw); (try simp only [gT, gS, gZ]); go_simp; (try with_reducible rfl)
    simp only [Act.put, gT, gS, gZ, sT, sZ, sS]
    refine tkH 3 ?_ rfl (Or.inl ⟨by rfl, ?_⟩) ?_; rotate_left
    ·intro wq hSw; (try dsimp only at hSw); (try simp only [gT, gS, gZ]); go_simp; (try with_reducible rfl)
    simp only [Act.put, gT, gS, gZ, sT, sZ, sS]
    refine tkH 4 ?_ rfl (Or.inl ⟨by rfl, ?_⟩) ?_; rotate_left
    ·intro wq hSw; (try dsimp only at hSw); (try simp only [gT, gS, gZ]); go_simp; (try with_reducible rfl)
    simp only [Act.put, gT, gS, gZ, sT, sZ, sS]
    refine wpAnyH_ready (rs := [0]) (by kernel_rfl) (by simp) ?_
    refine AllReadyH.cons rfl (fun K hK => ?_) AllReadyH.nil
    (try simp only [gT, gZ])
    skip
    go_simp
    skip
    refine hK.out _ _ hS (fun hHeld => ?_)
    clear hK K
    clear c0 c1 c2 c3 c4 c5 c6 c7 c8 c9 c10 c11 c12
    have hwx : x6.heap.size ≤ wr.drew.heap.size := HBr.out.size
    refine wpAnyH_ready (rs := [5]) (by kernel_rfl) (by simp) ?_
    refine AllReadyH.cons rfl (fun K hK => ?_) AllReadyH.nil
    (try simp only [gT, gS, gZ])
    go_simp
    go_at_call 15
    refine (HDO.out _ _ _ _ _ hOd).mono ?_
    rintro e x7 ⟨tm, tb, tg, tt, q7, rfl, ⟨hol7, hap7⟩, hb7⟩
    have hD := hD.from hb7
    have hS := (hb7.cell (p := xa.add k) (by rw [add_block]; exact Nat.lt_of_lt_of_le hxB hwx)).trans hS
    refine hK.out _ _ hS (fun hHeld => ?_)
    clear hK K
    obtain ⟨Am7, Cm7, hsh⟩ := hol7.1.reads.shape
    subst hsh
    obtain ⟨Ag7, Cg7, hsh⟩ := hol7.2.1.reads.shape
    subst hsh
    obtain ⟨At7, Ct7, hsh⟩ := hol7.2.2.1.reads.shape
    subst hsh
    obtain ⟨Ab7, Cb7, hsh⟩ := hol7.2.2.2.reads.shape
    subst hsh
    have hb8 := HBr.out.trans ((Below.refl wr.heap.size wr).drew.trans hb7 |>.mono HBr.out.size)
    obtain ⟨c0, c1, c2, c3, c4, c5, c6, c7, c8, c9, c10, c11, c12⟩ := cells13 hD
    obtain ⟨f0, f1, f2, f3, f4, f5, f6, f7, f8, f9, f10, f11, f12⟩ := free13 hD
    refine tkH 6 ?_ rfl (Or.inl ⟨by rfl, ?_⟩) ?_; rotate_left
    ·intro wq hSw; (try dsimp only at hSw); (try simp only [gT, gS, gZ]); go_simp; (try with_reducible rfl)
    simp only [Act.put, gT, gS, gZ, sT, sZ, sS]
    refine tkH 7 ?_ rfl (Or.inl ⟨by rfl, ?_⟩) ?_; rotate_left
    ·intro wq hSw; (try dsimp only at hSw); (try simp only [gT, gS, gZ]); go_simp; (try with_reducible rfl)
    simp only [Act.put, gT, gS, gZ, sT, sZ, sS]
    refine tkH 8 ?_ rfl (Or.inl ⟨by rfl, ?_⟩) ?_; rotate_left
    ·intro wq hSw; (try dsimp only at hSw); (try simp only [gT, gS, gZ]); go_simp; (try with_reducible rfl)
    simp only [Act.put, gT, gS, gZ, sT, sZ, sS]
    have hb9 : Below x6.heap.size x6 (set13 x7 x6.heap.size (.int .i64 p2.c.codec) (.int .i64 p2.c.sum) (.int .i64 p2.c.most) (.int .i64 p2.c.map) (.slice Am7 p2.ms.length Cm7) (.int .i64 (p2.nx : Int)) (.slice Ag7 p2.gs.length Cg7) (.string (bzL p2.f.held)) (.bool p2.f.over) (.string (bzL p2.h.held)) (.bool p2.h.over) (.slice At7 p2.ts.length Ct7) (.slice Ab7 p2.bs.length Cb7)) := set13_below hb8 (Nat.le_refl _)
    have hS := (set13_below (Below.refl x6.heap.size x7) (Nat.le_refl _) (v0 := .int .i64 p2.c.codec) (v1 := .int .i64 p2.c.sum) (v2 := .int .i64 p2.c.most) (v3 := .int .i64 p2.c.map) (v4 := .slice Am7 p2.ms.length Cm7) (v5 := .int .i64 (p2.nx : Int)) (v6 := .slice Ag7 p2.gs.length Cg7) (v7 := .string (bzL p2.f.held)) (v8 := .bool p2.f.over) (v9 := .string (bzL p2.h.held)) (v10 := .bool p2.h.over) (v11 := .slice At7 p2.ts.length Ct7) (v12 := .slice Ab7 p2.bs.length Cb7)).cell (p := xa.add k) (by rw [add_block]; exact hxB) |>.trans hS
    refine wpAnyH_ready (rs := [9]) (by kernel_rfl) (by simp) ?_
    refine AllReadyH.cons rfl (fun K hK => ?_) AllReadyH.nil
    (try simp only [gT, gS, gZ])
    skip
    go_simp
    skip
    refine hK.out _ _ hS (fun hHeld => ?_)
    clear hK K
    refine wpAnyH_done (by kernel_rfl) ?_ _
    have hq7 : OL x7 0 (.slice Am7 p2.ms.length Cm7) p2.ms (.slice Ag7 p2.gs.length Cg7) p2.gs (.slice At7 p2.ts.length Ct7) p2.ts (.slice Ab7 p2.bs.length Cb7) p2.bs := ⟨hol7.1.mono (Nat.zero_le _), hol7.2.1.mono (Nat.zero_le _), hol7.2.2.1.mono (Nat.zero_le _), hol7.2.2.2.mono (Nat.zero_le _)⟩
    have HXN := Lib.hid (show FoldAt (set13 x7 x6.heap.size (.int .i64 p2.c.codec) (.int .i64 p2.c.sum) (.int .i64 p2.c.most) (.int .i64 p2.c.map) (.slice Am7 p2.ms.length Cm7) (.int .i64 (p2.nx : Int)) (.slice Ag7 p2.gs.length Cg7) (.string (bzL p2.f.held)) (.bool p2.f.over) (.string (bzL p2.h.held)) (.bool p2.h.over) (.slice At7 p2.ts.length Ct7) (.slice Ab7 p2.bs.length Cb7)) x6.heap.size p2 from ⟨_, _, _, _, set13_bk hD rfl, ⟨set13_own hq7.1 (own_ne hD line_str hq7.1), set13_own hq7.2.1 (own_ne hD line_str hq7.2.1), set13_own hq7.2.2.1 (own_ne hD line_str hq7.2.2.1), set13_own hq7.2.2.2 (own_ne hD line_str hq7.2.2.2)⟩⟩)
    have HB9 := Lib.hid hb9
    clear hD hS hOd hol7 hap7 hb7 hb8 hb9 hq7 c0 c1 c2 c3 c4 c5 c6 c7 c8 c9 c10 c11 c12 f0 f1 f2 f3 f4 f5 f6 f7 f8 f9 f10 f11 f12
    go_wp2
    go_roundw
    case rel => exact ⟨k + 1, hlt1, hlt2, by go_num, by rw [HST.out]; exact HXN.out, HB9.out⟩
    case measure => simp [intOf]; omega
   ·have HPQ := Lib.hid (show (zs.take k).foldl Ls.doP (newLs ⟨a, b, d, m⟩ ms) = q by
     rw [← HV.out]
     rcases (show k = 80 ∨ (k = zs.length ∧ k ≤ 80) by omega) with h | ⟨h, h2⟩
     ·rw [h]
     ·rw [h, List.take_length, List.take_of_length_le (by omega)])
    have hno : (k < zs.length ∧ 80 ≤ k) ∨ zs.length ≤ k := by omega
    obtain ⟨um, ub, ug, ut, hbk, hol⟩ := HX.out
    rw [HPQ.out] at hbk hol
    obtain ⟨Am4, Cm4, hsh⟩ := hol.1.reads.shape
    subst hsh
    obtain ⟨Ag4, Cg4, hsh⟩ := hol.2.1.reads.shape
    subst hsh
    obtain ⟨At4, Ct4, hsh⟩ := hol.2.2.1.reads.shape
    subst hsh
    obtain ⟨Ab4, Cb4, hsh⟩ := hol.2.2.2.reads.shape
    subst hsh
    have hbl := HKl.out.below HBr.out HGL.out
    have hll := OL.under HOl.out HBr.out (Nat.le_refl _)
    have HB9 := Lib.hid (HB.out.trans (HBr.out.mono HB.out.size))
    obtain ⟨c0, c1, c2, c3, c4, c5, c6, c7, c8, c9, c10, c11, c12⟩ := cells13 hbk
    obtain ⟨e0, e1, e2, e3, e4, e5, e6, e7, e8, e9, e10, e11, e12⟩ := cells13 hbl
    have HC1 := Lib.hid hol
    have HC2 := Lib.hid hll
    clear hlt hbk hol hbl hll HX HPQ HV
    rcases hno with ⟨h1, h2⟩ | h1
    ·clear hk hk80
     have h3 : decide ((k : Int) < 80) = false := by simp; omega
     go_wp2_with fail
     refine (ctLine_same _ _ _ _ _ _ _ _ _ _ _ _ _ _ _ _ _ _ _ _ _ _ _ _ HC1.out.reads HC2.out.reads (Nat.le_refl _) (Nat.le_refl _) HFW.out.1 HFW.out.2.1 HFW.out.2.2.1 HFW.out.2.2.2).mono ?_
     rintro e x9 ⟨rfl, hbz⟩
     have HB9 := Lib.hid (HB9.out.trans (hbz.mono HB9.out.size))
     clear hbz c0 c1 c2 c3 c4 c5 c6 c7 c8 c9 c10 c11 c12 e0 e1 e2 e3 e4 e5 e6 e7 e8 e9 e10 e11 e12
     go_wp2
     go_ret
     exact ⟨rfl, HB9.out⟩
    ·clear hk hk80
     have h3 : decide ((k : Int) < (zs.length : Int)) = false := by simp; omega
     go_wp2_with fail
     refine (ctLine_same _ _ _ _ _ _ _ _ _ _ _ _ _ _ _ _ _ _ _ _ _ _ _ _ HC1.out.reads HC2.out.reads (Nat.le_refl _) (Nat.le_refl _) HFW.out.1 HFW.out.2.1 HFW.out.2.2.1 HFW.out.2.2.2).mono ?_
     rintro e x9 ⟨rfl, hbz⟩
     have HB9 := Lib.hid (HB9.out.trans (hbz.mono HB9.out.size))
     clear hbz c0 c1 c2 c3 c4 c5 c6 c7 c8 c9 c10 c11 c12 e0 e1 e2 e3 e4 e5 e6 e7 e8 e9 e10 e11 e12
     go_wp2
     go_ret
     exact ⟨rfl, HB9.out⟩
 ·subst hz
  obtain ⟨cf0, cf1, cf2, cf3⟩ := cells4 HK.out
  obtain ⟨cl0, cl1, cl2, cl3, cl4, cl5, cl6, cl7, cl8, cl9, cl10, cl11, cl12⟩ := cells13 HKl.out
  go_wp2_with fail
  clear cf0 cf1 cf2 cf3
  clear cl0 cl1 cl2 cl3 cl4 cl5 cl6 cl7 cl8 cl9 cl10 cl11 cl12
  have hKq := HK.out.drew
  have hL := HKl.out.drew
  have hO := HO.out.drew
  have hZ := HZ.out.drew
  have hOl := HOl.out.below (Below.refl _ _).drew
  have hB := HB.out.drew
  have hS := And.intro (cells13 hL) (cells4 hKq)
  refine wp_region_held_drew (S := (fun wx => (wx.cell? ⟨x2.heap.size, 0, none⟩ = some (.int .i64 zeroLs.c.codec) ∧ wx.cell? ⟨x2.heap.size, 1, none⟩ = some (.int .i64 zeroLs.c.sum) ∧ wx.cell? ⟨x2.heap.size, 2, none⟩ = some (.int .i64 zeroLs.c.most) ∧ wx.cell? ⟨x2.heap.size, 3, none⟩ = some (.int .i64 zeroLs.c.map) ∧ wx.cell? ⟨x2.heap.size, 4, none⟩ = some (.slice Aml zeroLs.ms.length Cml) ∧ wx.cell? ⟨x2.heap.size, 5, none⟩ = some (.int .i64 (zeroLs.nx : Int)) ∧ wx.cell? ⟨x2.heap.size, 6, none⟩ = some (.slice Agl zeroLs.gs.length Cgl) ∧ wx.cell? ⟨x2.heap.size, 7, none⟩ = some (.string (bzL zeroLs.f.held)) ∧ wx.cell? ⟨x2.heap.size, 8, none⟩ = some (.bool zeroLs.f.over) ∧ wx.cell? ⟨x2.heap.size, 9, none⟩ = some (.string (bzL zeroLs.h.held)) ∧ wx.cell? ⟨x2.heap.size, 10, none⟩ = some (.bool zeroLs.h.over) ∧ wx.cell? ⟨x2.heap.size, 11, none⟩ = some (.slice Atl zeroLs.ts.length Ctl) ∧ wx.cell? ⟨x2.heap.size, 12, none⟩ = some (.slice Abl zeroLs.bs.length Cbl)) ∧ (wx.cell? ⟨x1.heap.size, 0, none⟩ = some (.int .i64 a) ∧ wx.cell? ⟨x1.heap.size, 1, none⟩ = some (.int .i64 b) ∧ wx.cell? ⟨x1.heap.size, 2, none⟩ = some (.int .i64 d) ∧ wx.cell? ⟨x1.heap.size, 3, none⟩ = some (.int .i64 m)))) (by kernel_rfl) hS (fun hHeld => ?_)
  refine tkH 0 ?_ rfl (Or.inl ⟨by rfl, ?_⟩) ?_; rotate_left
  ·intro wq hSw; (try dsimp only at hSw); (try simp only [gT, gZ]); go_simp; (try with_reducible rfl)
  simp only [Act.put, gT, gZ, sT, sZ, sS]
  refine tkH 1 ?_ rfl (Or.inl ⟨by rfl, ?_⟩) ?_; rotate_left
  ·intro wq hSw; (try dsimp only at hSw); (try simp only [gT, gS, gZ]); go_simp; (try with_reducible rfl)
  simp only [Act.put, gT, gS, gZ, sT, sZ, sS]
  refine tkH 2 ?_ rfl (Or.inl ⟨by rfl, ?_⟩) ?_; rotate_left
  ·intro wq hSw; (try dsimp only at hSw); (try simp only [gT, gS, gZ]); go_simp; (try with_reducible rfl)
  simp only [Act.put, gT, gS, gZ, sT, sZ, sS]
  refine tkH 3 ?_ rfl (Or.inl ⟨by rfl, ?_⟩) ?_; rotate_left
  ·intro wq hSw; (try dsimp only at hSw); (try simp only [gT, gS, gZ]); go_simp; (try with_reducible rfl)
  simp only [Act.put, gT, gS, gZ, sT, sZ, sS]
  refine wpAnyH_ready (rs := [4]) (by kernel_rfl) (by simp) ?_
  refine AllReadyH.cons rfl (fun K hK => ?_) AllReadyH.nil
  (try simp only [gT, gS, gZ])
  go_simp
  go_at_call 12
  refine (HSP.out _ _ _ hO.reads hZ.reads).mono ?_
  rintro e x3 ⟨tm, tb, tg, tt, rfl, hol, hbx⟩
  have hKq := hKq.from hbx
  have hL := hL.from hbx
  have hOl := hOl.below hbx
  have hO := hO.below hbx
  have hZ := hZ.below hbx
  have hB := hB.trans (hbx.mono hB.size)
  have hS := And.intro (cells13 hL) (cells4 hKq)
  refine hK.out _ _ hS (fun hHeld => ?_)
  clear hK K
  refine wpAnyH_ready (rs := [5]) (by kernel_rfl) (by simp) ?_
  refine AllReadyH.cons rfl (fun K hK => ?_) AllReadyH.nil
  (try simp only [gT, gS, gZ])
  go_simp
  go_at_call 11
  refine (ctLine_same _ _ _ _ _ _ _ _ _ _ _ _ _ _ _ _ _ _ _ _ _ _ _ _ hOl.reads hol.reads (Nat.le_refl _) (Nat.le_refl _) HFW.out.1 HFW.out.2.1 HFW.out.2.2.1 HFW.out.2.2.2).mono ?_
  rintro e x4 ⟨rfl, hby⟩
  have hKq := hKq.from hby
  have hL := hL.from hby
  have hOl := hOl.below hby
  have hO := hO.below hby
  have hZ := hZ.below hby
  have hB := hB.trans (hby.mono hB.size)
  have hS := And.intro (cells13 hL) (cells4 hKq)
  refine hK.out _ _ hS (fun hHeld => ?_)
  clear hK K
  refine tkH 6 ?_ rfl (Or.inl ⟨by rfl, ?_⟩) ?_; rotate_left
  ·intro wq hSw; (try dsimp only at hSw); (try simp only [gT, gS, gZ]); go_simp; (try with_reducible rfl)
  simp only [Act.put, gT, gS, gZ, sT, sZ, sS]
  refine tkH 7 ?_ rfl (Or.inl ⟨by rfl, ?_⟩) ?_; rotate_left
  ·intro wq hSw; (try dsimp only at hSw); (try simp only [gT, gS, gZ]); go_simp; (try with_reducible rfl)
  simp only [Act.put, gT, gS, gZ, sT, sZ, sS]
  refine tkH 8 ?_ rfl (Or.inl ⟨by rfl, ?_⟩) ?_; rotate_left
  ·intro wq hSw; (try dsimp only at hSw); (try simp only [gT, gS, gZ]); go_simp; (try with_reducible rfl)
  simp only [Act.put, gT, gS, gZ, sT, sZ, sS]
  refine wpAnyH_ready (rs := [9]) (by kernel_rfl) (by simp) ?_
  refine AllReadyH.cons rfl (fun K hK => ?_) AllReadyH.nil
  (try simp only [gT, gS, gZ])
  go_simp
  go_at_call 13
  refine (implLineOk_any 0 0 0 0 0 _ [] _ _ _ _ _ _ _ _ _ ⟨#[]⟩ ⟨#[]⟩ false false _ _ hOl.1.reads (Nat.le_refl _) (by decide) (by show 0 ≤ maxLen; exact Nat.zero_le _) (by show 0 ≤ maxLen; exact Nat.zero_le _) (by simp) (fun s hs => (by cases hs))).mono ?_
  rintro e x5 ⟨rfl, hbz⟩
  rw [show lineB _ _ _ _ _ _ _ _ = false from by decide]
  have hKq := hKq.from hbz
  have hL := hL.from hbz
  have hOl := hOl.below hbz
  have hO := hO.below hbz
  have hZ := hZ.below hbz
  have hB := hB.trans (hbz.mono hB.size)
  have hS := And.intro (cells13 hL) (cells4 hKq)
  refine hK.out _ _ hS (fun hHeld => ?_)
  clear hK K
  refine tkH 10 ?_ rfl (Or.inl ⟨by rfl, ?_⟩) ?_; rotate_left
  ·intro wq hSw; (try dsimp only at hSw); (try simp only [gT, gS, gZ]); go_simp; (try with_reducible rfl)
  simp only [Act.put, gT, gS, gZ, sT, sZ, sS]
  refine tkH 11 ?_ rfl (Or.inl ⟨by rfl, ?_⟩) ?_; rotate_left
  ·intro wq hSw; (try dsimp only at hSw); (try simp only [gT, gS, gZ]); go_simp; (try with_reducible rfl)
  simp only [Act.put, gT, gS, gZ, sT, sZ, sS]
  refine wpAnyH_done (by kernel_rfl) ?_ _
  have HK := Lib.hid hKq
  have HKl := Lib.hid hL
  have HO := Lib.hid hO
  have HZ := Lib.hid hZ
  have HOl := Lib.hid hOl
  have HB := Lib.hid hB
  clear hKq hL hO hZ hOl hB hS hol hbx hby hbz
  obtain ⟨cf0, cf1, cf2, cf3⟩ := cells4 HK.out
  obtain ⟨cl0, cl1, cl2, cl3, cl4, cl5, cl6, cl7, cl8, cl9, cl10, cl11, cl12⟩ := cells13 HKl.out
  go_wp2_with fail
  clear cf0 cf1 cf2 cf3
  clear cl0 cl1 cl2 cl3 cl4 cl5 cl6 cl7 cl8 cl9 cl10 cl11 cl12
  have hKq := HK.out.drew
  have hL := HKl.out.drew
  have hO := HO.out.drew
  have hZ := HZ.out.drew
  have hOl := HOl.out.below (Below.refl _ _).drew
  have hB := HB.out.drew
  have hS := And.intro (cells13 hL) (cells4 hKq)
  refine wp_region_held_drew (S := (fun wx => (wx.cell? ⟨x2.heap.size, 0, none⟩ = some (.int .i64 zeroLs.c.codec) ∧ wx.cell? ⟨x2.heap.size, 1, none⟩ = some (.int .i64 zeroLs.c.sum) ∧ wx.cell? ⟨x2.heap.size, 2, none⟩ = some (.int .i64 zeroLs.c.most) ∧ wx.cell? ⟨x2.heap.size, 3, none⟩ = some (.int .i64 zeroLs.c.map) ∧ wx.cell? ⟨x2.heap.size, 4, none⟩ = some (.slice Aml zeroLs.ms.length Cml) ∧ wx.cell? ⟨x2.heap.size, 5, none⟩ = some (.int .i64 (zeroLs.nx : Int)) ∧ wx.cell? ⟨x2.heap.size, 6, none⟩ = some (.slice Agl zeroLs.gs.length Cgl) ∧ wx.cell? ⟨x2.heap.size, 7, none⟩ = some (.string (bzL zeroLs.f.held)) ∧ wx.cell? ⟨x2.heap.size, 8, none⟩ = some (.bool zeroLs.f.over) ∧ wx.cell? ⟨x2.heap.size, 9, none⟩ = some (.string (bzL zeroLs.h.held)) ∧ wx.cell? ⟨x2.heap.size, 10, none⟩ = some (.bool zeroLs.h.over) ∧ wx.cell? ⟨x2.heap.size, 11, none⟩ = some (.slice Atl zeroLs.ts.length Ctl) ∧ wx.cell? ⟨x2.heap.size, 12, none⟩ = some (.slice Abl zeroLs.bs.length Cbl)) ∧ (wx.cell? ⟨x1.heap.size, 0, none⟩ = some (.int .i64 a) ∧ wx.cell? ⟨x1.heap.size, 1, none⟩ = some (.int .i64 b) ∧ wx.cell? ⟨x1.heap.size, 2, none⟩ = some (.int .i64 d) ∧ wx.cell? ⟨x1.heap.size, 3, none⟩ = some (.int .i64 m)))) (by kernel_rfl) hS (fun hHeld => ?_)
  refine tkH 0 ?_ rfl (Or.inl ⟨by rfl, ?_⟩) ?_; rotate_left
  ·intro wq hSw; (try dsimp only at hSw); (try simp only [gT, gZ]); go_simp; (try with_reducible rfl)
  simp only [Act.put, gT, gZ, sT, sZ, sS]
  refine tkH 1 ?_ rfl (Or.inl ⟨by rfl, ?_⟩) ?_; rotate_left
  ·intro wq hSw; (try dsimp only at hSw); (try simp only [gT, gS, gZ]); go_simp; (try with_reducible rfl)
  simp only [Act.put, gT, gS, gZ, sT, sZ, sS]
  refine tkH 2 ?_ rfl (Or.inl ⟨by rfl, ?_⟩) ?_; rotate_left
  ·intro wq hSw; (try dsimp only at hSw); (try simp only [gT, gS, gZ]); go_simp; (try with_reducible rfl)
  simp only [Act.put, gT, gS, gZ, sT, sZ, sS]
  refine tkH 3 ?_ rfl (Or.inl ⟨by rfl, ?_⟩) ?_; rotate_left
  ·intro wq hSw; (try dsimp only at hSw); (try simp only [gT, gS, gZ]); go_simp; (try with_reducible rfl)
  simp only [Act.put, gT, gS, gZ, sT, sZ, sS]
  refine wpAnyH_ready (rs := [4]) (by kernel_rfl) (by simp) ?_
  refine AllReadyH.cons rfl (fun K hK => ?_) AllReadyH.nil
  (try simp only [gT, gS, gZ])
  go_simp
  go_at_call 12
  refine (HSP.out _ _ _ hO.reads hZ.reads).mono ?_
  rintro e x3 ⟨tm, tb, tg, tt, rfl, hol, hbx⟩
  have hKq := hKq.from hbx
  have hL := hL.from hbx
  have hOl := hOl.below hbx
  have hO := hO.below hbx
  have hZ := hZ.below hbx
  have hB := hB.trans (hbx.mono hB.size)
  have hS := And.intro (cells13 hL) (cells4 hKq)
  refine hK.out _ _ hS (fun hHeld => ?_)
  clear hK K
  refine wpAnyH_ready (rs := [5]) (by kernel_rfl) (by simp) ?_
  refine AllReadyH.cons rfl (fun K hK => ?_) AllReadyH.nil
  (try simp only [gT, gS, gZ])
  go_simp
  go_at_call 11
  refine (ctLine_same _ _ _ _ _ _ _ _ _ _ _ _ _ _ _ _ _ _ _ _ _ _ _ _ hOl.reads hol.reads (Nat.le_refl _) (Nat.le_refl _) HFW.out.1 HFW.out.2.1 HFW.out.2.2.1 HFW.out.2.2.2).mono ?_
  rintro e x4 ⟨rfl, hby⟩
  have hKq := hKq.from hby
  have hL := hL.from hby
  have hOl := hOl.below hby
  have hO := hO.below hby
  have hZ := hZ.below hby
  have hB := hB.trans (hby.mono hB.size)
  have hS := And.intro (cells13 hL) (cells4 hKq)
  refine hK.out _ _ hS (fun hHeld => ?_)
  clear hK K
  refine tkH 6 ?_ rfl (Or.inl ⟨by rfl, ?_⟩) ?_; rotate_left
  ·intro wq hSw; (try dsimp only at hSw); (try simp only [gT, gS, gZ]); go_simp; (try with_reducible rfl)
  simp only [Act.put, gT, gS, gZ, sT, sZ, sS]
  refine wpAnyH_done (by kernel_rfl) ?_ _
  have HB := Lib.hid hB
  clear hKq hL hO hZ hOl hB hS hol hbx hby
  go_wp2
  go_ret
  exact ⟨rfl, HB.out⟩
theorem own : ownKnob Tryz.prog.godebug = none := by kernel_rfl
theorem laidOut : laidOutB Tryz.prog = true := by kernel_rfl
set_option maxRecDepth 100000 in
theorem lifted (os : Os) (started : os.Started) (H : Type) (enc : TypeId × Value → H) :
  ReturnsInHanded {} Tryz.checked os 3 .any (Rows.fnLineFoldSpec.pre6 enc Tryz.prog Tryz.f3 Rows.fnLineFoldRow.domain false) (Rows.fnLineFoldSpec.post enc Tryz.prog Tryz.f3 false true false false) := by
 refine returnsInHanded_of_change (C := Tryz.checked) own started (by kernel_rfl) Tryz.func3
  (ChangeSpec.witness6 (enc := enc) (C := Tryz.checked) false ⟨#[], #[.slice none 0 0], []⟩ 8 (by kernel_rfl) (by kernel_rfl) (by kernel_rfl) (by kernel_rfl)) ?_
 intro W base args ds gs before hval0 hW hcnd _
 have hval : ∀ (j : Nat) t v, Tryz.f3.params[j]? = some t → args[j]? = some v → Value.okWide Tryz.prog W .any base t v := hval0
 have hW' := hW
 obtain ⟨p, q, hA0, hV, rfl, hfz, hnd⟩ := hW
 have hA : DataW.TrodAll enc Tryz.prog W 0 (fun _ => true) true Tryz.f3.params.toList args.toList ds p := hA0
 rw [Tryz.params3] at hA hval
 obtain ⟨v0, vs0, d0, ds0, p0, q0, hargs, rfl, rfl, h0, r0⟩ := trodAll_cons hA
 obtain ⟨rfl, rfl, rfl⟩ := trodAll_nil r0
 obtain rfl : args = #[v0] := by cases args; simp_all
 obtain ⟨rfl, rfl⟩ := trodVars_none hV
 obtain ⟨a0, len0, cap0, rfl⟩ := okWide_slice Tryz.underlying22 (hval 0 22 v0 rfl rfl)
 have k0 := h0
 have lt0 : ∀ x ∈ p0, x.block < W.heap.size := by obtain ⟨m, hm⟩ := k0; exact DataW.trod_lt m _ _ _ hm
 obtain ⟨z0, w0⟩ : ∃ zs, IsRow .u8 W a0 len0 cap0 zs := by
  obtain ⟨fuel, hf⟩ := h0
  rcases open_ints Tryz.underlying22 Tryz.underlying5 (by kernel_rfl) hf with ⟨hcs, _⟩ | ⟨x, l, c, zs, hcs, _, hl, hm, hz, _, hcell, hwz⟩
  ·simp [Value.cells] at hcs
   obtain ⟨rfl, rfl, rfl⟩ := hcs
   exact ⟨[], .inl ⟨rfl, rfl, rfl, rfl⟩⟩
  ·simp [Value.cells] at hcs
   obtain ⟨rfl, rfl, rfl⟩ := hcs
   exact ⟨zs, .inr ⟨_, rfl, hl, hm, by simpa using hz, hcell, hwz⟩⟩
 clear hA0 hval0
 refine (walk a0 len0 cap0 z0 W w0).mono fun e W' ⟨he, bel⟩ => ?_
 subst he
 exact ⟨_, rfl, _, _, _, [], _, [], hW', trodAll_mk1 (shut_bool Tryz.underlying4 _), (trodAll_cons_mk (Below.trod laidOut (by kernel_rfl) (of_decide_eq_true (by kernel_rfl)) k0 bel lt0) trodAll_mk0), rfl, bel.frame _, fun h => by cases h⟩
theorem over : Rows.fnLineFoldRow.holds Tryz.pinned (OpenSpec.ofChange Rows.fnLineFoldSpec) :=
 OpenClaim.holds_of_wide 3 Tryz.f3 rfl rfl rfl rfl rfl rfl rfl ⟨rfl, rfl, rfl, rfl, rfl⟩ rfl rfl rfl rfl rfl (by kernel_rfl) Tryz.func3 (by kernel_rfl)
  (of_decide_eq_true (by kernel_rfl)) (by unfold Func.isWrapper; first | (rw [if_pos (by decide +kernel)]; kernel_rfl) | (rw [if_neg (by decide +kernel)]; exact ⟨rfl, rfl⟩))
  (fun os started H enc _ => lifted os started H enc)
theorem proved : Rows.FnLineFoldSaid := over
end Go.Proofs.YtmggoiabcboaiaaGreat.fnLineFold
