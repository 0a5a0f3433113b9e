/- FnLineCalm: of every draw of a way to write, messages and steps, behind twelve rounds without a loss all messages have come, and are known to have come. For every code that the law draws from. No condition. -/
import Derived.Test.YtmggoiabcboaiaaGreatZd1
import Derived.Test.YtmggoiabcboaiaaGreatZd2
import Derived.Test.YtmggoiabcboaiaaGreatZd3
import Derived.Test.YtmggoiabcboaiaaGreatZd4
import Derived.Test.YtmggoiabcboaiaaGreatZd5
import Derived.Test.YtmggoiabcboaiaaGreatZd6
import Derived.Test.YtmggoiabcboaiaaGreatZd7
import Derived.Test.YtmggoiabcboaiaaGreatZd8
import Derived.Test.YtmggoiabcboaiaaGreatZd9
import Derived.Test.YtmggoiabcboaiaaGreatZd10
import Derived.Test.YtmggoiabcboaiaaGreatZd11
import Derived.Test.YtmggoiabcboaiaaGreatZd12
import Derived.Test.YtmggoiabcboaiaaGreatZd13
import Derived.Test.YtmggoiabcboaiaaGreatZd14
import Derived.Test.YtmggoiabcboaiaaGreatZd15
import Derived.Test.YtmggoiabcboaiaaGreatZd16
import Derived.Test.YtmggoiabcboaiaaGreatZd17
import Derived.Test.YtmggoiabcboaiaaGreatZd18
import Derived.Test.YtmggoiabcboaiaaGreatZd19
import Derived.Test.YtmggoiabcboaiaaGreatZd20
import Derived.Test.YtmggoiabcboaiaaGreatZd21
import Derived.Test.YtmggoiabcboaiaaGreatZd22
import Derived.Test.YtmggoiabcboaiaaGreatZd23
import Derived.Test.YtmggoiabcboaiaaGreatZd24
import Derived.Test.YtmggoiabcboaiaaGreatZd25
import Derived.Test.YtmggoiabcboaiaaGreatZd26
import Derived.Test.YtmggoiabcboaiaaGreatZd27
import Derived.Test.YtmggoiabcboaiaaGreatZd28
import Derived.Test.YtmggoiabcboaiaaGreatZd29
import Derived.Test.YtmggoiabcboaiaaGreatZd30
import Derived.Test.YtmggoiabcboaiaaGreatZd31
namespace Go.Proofs.YtmggoiabcboaiaaGreat.fnLineCalm
open Go.ChangeShapes Go.WideShapes Go.ChangeAt Go.RowKit
set_option linter.unusedVariables false
theorem wf_steps {zs : List Int} (h : ∀ z ∈ zs, 1 ≤ z ∧ z ≤ 7) : ∀ z ∈ zs, (Lit.int .i64 z).wf = true := by
 intro z hz
 have := h z hz
 simp [Lit.wf, IntKind.min, IntKind.max, IntKind.signed, IntKind.bits]
 omega
theorem wf_conf {c : Cf} (h : confB c = true) : (Lit.int .i64 c.codec).wf = true := by
 have := (confB_yes h).1
 simp [Lit.wf, IntKind.min, IntKind.max, IntKind.signed, IntKind.bits]
 omega
theorem few {q : Ls} (h : q.Ok ∨ q = zeroLs) : q.ms.length ≤ 1048576 ∧ q.gs.length ≤ 1048576 ∧ q.ts.length ≤ 1048576 ∧ q.bs.length ≤ 1048576 := by
 rcases h with h | rfl
 ·have h1 := h.ml
  have h2 := h.gl
  have h3 := h.tl
  have h4 := h.bl
  exact ⟨by omega, by omega, by omega, by omega⟩
 ·exact ⟨Nat.zero_le _, Nat.zero_le _, Nat.zero_le _, Nat.zero_le _⟩
theorem held_few {q : Ls} (h : q.Ok) : q.f.held.length ≤ 1048576 ∧ q.h.held.length ≤ 1048576 := by
 have h1 := (okF_yes h.okf).2.1
 have h2 := (okF_yes h.okh).2.1
 have h3 := (confB_yes h.conf)
 have h4 := h3.2.2.1.2
 have h5 := kind_or h3.2.1
 unfold holdN at h1 h2
 constructor <;> omega
theorem ok_few {q : Ls} (h : q.Ok) : fewLn q.ms q.gs (bzL q.f.held) (bzL q.h.held) q.ts q.bs := by
 have h1 := held_few h
 have h2 := h.ml
 have h3 := h.gl
 have h4 := h.tl
 have h5 := h.bl
 have h6 := (confB_yes h.conf).2.2.1.2
 exact ⟨⟨by rw [bzL_size]; exact h1.1, by rw [bzL_size]; exact h1.2⟩, ⟨by omega, by omega, by omega, by omega⟩, fun s hs => by have := h.mz s hs; omega, h.gz, h.tz, h.bz⟩
set_option maxRecDepth 100000 in
set_option maxHeartbeats 4000000 in
theorem walk (a0 : Option Addr) (len0 cap0 : Nat) (z0 : List Int) (w : World) (w0 : IsRow .u8 w a0 len0 cap0 z0) :
  Calls Tryz.prog 5 #[.slice a0 len0 cap0] w fun e w' => e = .returned (.bool true) ∧ Below w.heap.size w w' := by
 by_cases hbig : 1048576 < len0
 ·go_enter Tryz.func5, Tryz.ntmps5
  go_wp2
  go_ret
  exact ⟨rfl, Below.refl _ _⟩
 have HH := Lib.hid w0
 have hzl := zero_line
 have hzc := zero_conf
 clear w0
 go_enter Tryz.func5, Tryz.ntmps5
 go_wp2_with fail
 refine (drawLinePlay_any a0 len0 cap0 z0 HH.out).mono ?_
 rintro e x1 ⟨a, b, d, m, v, ms, vz, zs, rfl, hcf, ⟨ho1, hl, hzs⟩, ⟨hz1, hzl2, hzz⟩, hb1⟩
 obtain ⟨Av, capv, hsh⟩ := ho1.reads.shape
 subst hsh
 obtain ⟨Az, capz, hsh⟩ := hz1.reads.shape
 subst hsh
 have wa : (Lit.int .i64 a).wf = true := wf_conf (c := ⟨a, b, d, m⟩) hcf
 have hba := (Below.refl _ x1).alloc (Nat.le_refl _) (.cells #[.int .i64 a, .int .i64 b, .int .i64 d, .int .i64 m] 24)
 have HK := Lib.hid (BK.new x1 #[.int .i64 a, .int .i64 b, .int .i64 d, .int .i64 m] 24)
 have HO := Lib.hid (ho1.below hba)
 have HZ := Lib.hid (hz1.below hba)
 have HB := Lib.hid (hb1.trans (hba.mono hb1.size))
 have HZS := Lib.hid (show ∀ s ∈ ms, s.size ≤ 1048576 from fun s hs => by have := hzs s hs; omega)
 have HWF := Lib.hid (wf_steps hzz)
 have HML := Lib.hid (show ms.length ≤ 1048576 by omega)
 have HZL := Lib.hid (show zs.length ≤ 1048576 by omega)
 have HCF := Lib.hid hcf
 clear hba ho1 hz1 hb1 hzs hzz hcf hl hzl2
 obtain ⟨q, hq⟩ : ∃ q, q = playRes ⟨a, b, d, m⟩ ms zs := ⟨_, rfl⟩
 have HIM := Lib.hid (show ∀ (W : World) (vm vv : Value), RS W W.heap.size vm ms → RZ W W.heap.size vv zs → Calls Tryz.prog 10 #[cfV a b d m, vm, vv] W (ResL W q) from fun W vm vv h1 h2 => by rw [hq]; exact implLinePlay_any a b d m vm ms vv zs W W.heap.size h1 h2 (Nat.le_refl _) wa HML.out HZS.out (by have := HZL.out; unfold maxLen; omega) HWF.out)
 have HSP := Lib.hid (show ∀ (W : World) (vm vv : Value), RS W W.heap.size vm ms → RZ W W.heap.size vv zs → Calls Tryz.prog 12 #[cfV a b d m, vm, vv] W (TPost W q) from fun W vm vv h1 h2 => by rw [hq]; exact specLinePlay_any a b d m vm ms vv zs W W.heap.size h1 h2 (Nat.le_refl _) HML.out HZS.out HZL.out)
 have hcase : (newB ⟨a, b, d, m⟩ ms = true ∧ Inv q ∧ q.c = ⟨a, b, d, m⟩ ∧ q.ms = ms ∧ q.Ok) ∨ q = zeroLs := by
  cases hn : newB ⟨a, b, d, m⟩ ms with
  | true => left; rw [hq]; have h := play_yes (zs := zs) hn; exact ⟨rfl, h.1, h.2.1, h.2.2.1, h.2.2.2⟩
  | false => right; rw [hq]; exact play_no hn
 have HFW := Lib.hid (few (q := q) (hcase.elim (fun h => .inl h.2.2.2.2) .inr))
 have HCS := Lib.hid hcase
 have HQE := Lib.hid hq
 clear hcase hq
 obtain ⟨cf0, cf1, cf2, cf3⟩ := cells4 HK.out
 go_wp2_with fail
 clear cf0 cf1 cf2 cf3
 refine (HIM.out _ _ _ HO.out.reads HZ.out.reads).mono ?_
 rintro e x2 ⟨um, ub, ug, ut, rfl, ⟨hol, hap⟩, hbx⟩
 obtain ⟨Aml, Cml, hsh⟩ := hol.1.reads.shape
 subst hsh
 obtain ⟨Agl, Cgl, hsh⟩ := hol.2.1.reads.shape
 subst hsh
 obtain ⟨Atl, Ctl, hsh⟩ := hol.2.2.1.reads.shape
 subst hsh
 obtain ⟨Abl, Cbl, hsh⟩ := hol.2.2.2.reads.shape
 subst hsh
 have HK := Lib.hid (HK.out.from hbx)
 have HO := Lib.hid (HO.out.below hbx)
 have HZ := Lib.hid (HZ.out.below hbx)
 have HB := Lib.hid (HB.out.trans (hbx.mono HB.out.size))
 have HOl := Lib.hid hol
 clear hol hap hbx
 have hba := (Below.refl _ x2).alloc (Nat.le_refl _) (.cells #[.int .i64 q.c.codec, .int .i64 q.c.sum, .int .i64 q.c.most, .int .i64 q.c.map, .slice Aml q.ms.length Cml, .int .i64 (q.nx : Int), .slice Agl q.gs.length Cgl, .string (bzL q.f.held), .bool q.f.over, .string (bzL q.h.held), .bool q.h.over, .slice Atl q.ts.length Ctl, .slice Abl q.bs.length Cbl] 32)
 have hnew := BK.new x2 #[.int .i64 q.c.codec, .int .i64 q.c.sum, .int .i64 q.c.most, .int .i64 q.c.map, .slice Aml q.ms.length Cml, .int .i64 (q.nx : Int), .slice Agl q.gs.length Cgl, .string (bzL q.f.held), .bool q.f.over, .string (bzL q.h.held), .bool q.h.over, .slice Atl q.ts.length Ctl, .slice Abl q.bs.length Cbl] 32
 have HK := Lib.hid (HK.out.from hba)
 have HOl := Lib.hid (HOl.out.below hba)
 have HO := Lib.hid (HO.out.below hba)
 have HZ := Lib.hid (HZ.out.below hba)
 have HB := Lib.hid (HB.out.trans (hba.mono HB.out.size))
 have HKl := Lib.hid hnew
 clear hnew hba
 obtain ⟨cf0, cf1, cf2, cf3⟩ := cells4 HK.out
 obtain ⟨cl0, cl1, cl2, cl3, cl4, cl5, cl6, cl7, cl8, cl9, cl10, cl11, cl12⟩ := cells13 HKl.out
 go_wp2_with fail
 clear cf0 cf1 cf2 cf3
 clear cl0 cl1 cl2 cl3 cl4 cl5 cl6 cl7 cl8 cl9 cl10 cl11 cl12
 have hKq := HK.out.drew
 have hL := HKl.out.drew
 have hO := HO.out.drew
 have hZ := HZ.out.drew
 have hOl := HOl.out.below (Below.refl _ _).drew
 have hB := HB.out.drew
 have hS := And.intro (cells13 hL) (cells4 hKq)
 refine wp_region_held_drew (S := (fun wx => (wx.cell? ⟨x2.heap.size, 0, none⟩ = some (.int .i64 q.c.codec) ∧ wx.cell? ⟨x2.heap.size, 1, none⟩ = some (.int .i64 q.c.sum) ∧ wx.cell? ⟨x2.heap.size, 2, none⟩ = some (.int .i64 q.c.most) ∧ wx.cell? ⟨x2.heap.size, 3, none⟩ = some (.int .i64 q.c.map) ∧ wx.cell? ⟨x2.heap.size, 4, none⟩ = some (.slice Aml q.ms.length Cml) ∧ wx.cell? ⟨x2.heap.size, 5, none⟩ = some (.int .i64 (q.nx : Int)) ∧ wx.cell? ⟨x2.heap.size, 6, none⟩ = some (.slice Agl q.gs.length Cgl) ∧ wx.cell? ⟨x2.heap.size, 7, none⟩ = some (.string (bzL q.f.held)) ∧ wx.cell? ⟨x2.heap.size, 8, none⟩ = some (.bool q.f.over) ∧ wx.cell? ⟨x2.heap.size, 9, none⟩ = some (.string (bzL q.h.held)) ∧ wx.cell? ⟨x2.heap.size, 10, none⟩ = some (.bool q.h.over) ∧ wx.cell? ⟨x2.heap.size, 11, none⟩ = some (.slice Atl q.ts.length Ctl) ∧ wx.cell? ⟨x2.heap.size, 12, none⟩ = some (.slice Abl q.bs.length Cbl)) ∧ (wx.cell? ⟨x1.heap.size, 0, none⟩ = some (.int .i64 a) ∧ wx.cell? ⟨x1.heap.size, 1, none⟩ = some (.int .i64 b) ∧ wx.cell? ⟨x1.heap.size, 2, none⟩ = some (.int .i64 d) ∧ wx.cell? ⟨x1.heap.size, 3, none⟩ = some (.int .i64 m)))) (by kernel_rfl) hS (fun hHeld => ?_)
 refine tkH 0 ?_ rfl (Or.inl ⟨by rfl, ?_⟩) ?_; rotate_left
 ·intro wq hSw; (try dsimp only at hSw); (try simp only [gT, gZ]); go_simp; (try with_reducible rfl)
 simp only [Act.put, gT, gZ, sT, sZ, sS]
 refine tkH 1 ?_ rfl (Or.inl ⟨by rfl, ?_⟩) ?_; rotate_left
 ·intro wq hSw; (try dsimp only at hSw); (try simp only [gT, gS, gZ]); go_simp; (try with_reducible rfl)
 simp only [Act.put, gT, gS, gZ, sT, sZ, sS]
 refine tkH 2 ?_ rfl (Or.inl ⟨by rfl, ?_⟩) ?_; rotate_left
 ·intro wq hSw; (try dsimp only at hSw); (try simp only [gT, gS, gZ]); go_simp; (try with_reducible rfl)
 simp only [Act.put, gT, gS, gZ, sT, sZ, sS]
 refine tkH 3 ?_ rfl (Or.inl ⟨by rfl, ?_⟩) ?_; rotate_left
 ·intro wq hSw; (try dsimp only at hSw); (try simp only [gT, gS, gZ]); go_simp; (try with_reducible rfl)
 simp only [Act.put, gT, gS, gZ, sT, sZ, sS]
 refine wpAnyH_ready (rs := [4]) (by kernel_rfl) (by simp) ?_
 refine AllReadyH.cons rfl (fun K hK => ?_) AllReadyH.nil
 (try simp only [gT, gS, gZ])
 go_simp
 go_at_call 12
 refine (HSP.out _ _ _ hO.reads hZ.reads).mono ?_
 rintro e x3 ⟨tm, tb, tg, tt, rfl, hol, hbx⟩
 have hKq := hKq.from hbx
 have hL := hL.from hbx
 have hOl := hOl.below hbx
 have hO := hO.below hbx
 have hZ := hZ.below hbx
 have hB := hB.trans (hbx.mono hB.size)
 have hS := And.intro (cells13 hL) (cells4 hKq)
 refine hK.out _ _ hS (fun hHeld => ?_)
 clear hK K
 refine wpAnyH_ready (rs := [5]) (by kernel_rfl) (by simp) ?_
 refine AllReadyH.cons rfl (fun K hK => ?_) AllReadyH.nil
 (try simp only [gT, gS, gZ])
 go_simp
 go_at_call 11
 refine (ctLine_same _ _ _ _ _ _ _ _ _ _ _ _ _ _ _ _ _ _ _ _ _ _ _ _ hOl.reads hol.reads (Nat.le_refl _) (Nat.le_refl _) HFW.out.1 HFW.out.2.1 HFW.out.2.2.1 HFW.out.2.2.2).mono ?_
 rintro e x4 ⟨rfl, hby⟩
 have hKq := hKq.from hby
 have hL := hL.from hby
 have hOl := hOl.below hby
 have hO := hO.below hby
 have hZ := hZ.below hby
 have hB := hB.trans (hby.mono hB.size)
 have hS := And.intro (cells13 hL) (cells4 hKq)
 refine hK.out _ _ hS (fun hHeld => ?_)
 clear hK K
 refine tkH 6 ?_ rfl (Or.inl ⟨by rfl, ?_⟩) ?_; rotate_left
 ·intro wq hSw; (try dsimp only at hSw); (try simp only [gT, gS, gZ]); go_simp; (try with_reducible rfl)
 simp only [Act.put, gT, gS, gZ, sT, sZ, sS]
 refine tkH 7 ?_ rfl (Or.inl ⟨by rfl, ?_⟩) ?_; rotate_left
 ·intro wq hSw; (try dsimp only at hSw); (try simp only [gT, gS, gZ]); go_simp; (try with_reducible rfl)
 simp only [Act.put, gT, gS, gZ, sT, sZ, sS]
 refine tkH 8 ?_ rfl (Or.inl ⟨by rfl, ?_⟩) ?_; rotate_left
 ·intro wq hSw; (try dsimp only at hSw); (try simp only [gT, gS, gZ]); go_simp; (try with_reducible rfl)
 simp only [Act.put, gT, gS, gZ, sT, sZ, sS]
 refine tkH 9 ?_ rfl (Or.inl ⟨by rfl, ?_⟩) ?_; rotate_left
 ·intro wq hSw; (try dsimp only at hSw); (try simp only [gT, gS, gZ]); go_simp; (try with_reducible rfl)
 simp only [Act.put, gT, gS, gZ, sT, sZ, sS]
 refine tkH 10 ?_ rfl (Or.inl ⟨by rfl, ?_⟩) ?_; rotate_left
 ·intro wq hSw; (try dsimp only at hSw); (try simp only [gT, gS, gZ]); go_simp; (try with_reducible rfl)
 simp only [Act.put, gT, gS, gZ, sT, sZ, sS]
 refine tkH 11 ?_ rfl (Or.inl ⟨by rfl, ?_⟩) ?_; rotate_left
 ·intro wq hSw; (try dsimp only at hSw); (try simp only [gT, gS, gZ]); go_simp; (try with_reducible rfl)
 simp only [Act.put, gT, gS, gZ, sT, sZ, sS]
 refine tkH 12 ?_ rfl (Or.inl ⟨by rfl, ?_⟩) ?_; rotate_left
 ·intro wq hSw; (try dsimp only at hSw); (try simp only [gT, gS, gZ]); go_simp; (try with_reducible rfl)
 simp only [Act.put, gT, gS, gZ, sT, sZ, sS]
 refine wpAnyH_done (by kernel_rfl) ?_ _
 have HK := Lib.hid hKq
 have HKl := Lib.hid hL
 have HO := Lib.hid hO
 have HZ := Lib.hid hZ
 have HOl := Lib.hid hOl
 have HB := Lib.hid hB
 clear hKq hL hO hZ hOl hB hS hol hbx hby
 rcases HCS.out with ⟨hn, hinv, hqc, hqm, hqo⟩ | hz
 ·have hc0 : (q.c.codec == 0) = false := by
   have h := (confB_yes (c := ⟨a, b, d, m⟩) HCF.out).1
   rw [hqc]; exact beq_eq_false_iff_ne.2 (by simp only at h ⊢; omega)
  have HIN := Lib.hid hinv
  have HQM := Lib.hid hqm
  have HQO := Lib.hid hqo
  have wq : (Lit.int .i64 q.c.codec).wf = true := by rw [hqc]; exact wa
  clear hn hinv hqc hqm hqo
  have hres : calmRes (mkLs q.c.codec q.c.sum q.c.most q.c.map q.ms (q.nx : Int) q.gs (bzL q.f.held) q.f.over (bzL q.h.held) q.h.over q.ts q.bs) (okLn q.c.codec q.c.sum q.c.most q.c.map q.ms (q.nx : Int) q.gs (bzL q.f.held) q.f.over (bzL q.h.held) q.h.over q.ts q.bs) 12 = Ls.calmN 12 q := by
   unfold calmRes okLn
   rw [if_pos ⟨ok_line HQO.out, by decide, by decide⟩]
   unfold mkLs
   rw [bzL_list, bzL_list]
   rfl
  have HCM := Lib.hid (fun (W : World) (vm vg vt vb : Value) (h : RL W W.heap.size vm q.ms vg q.gs vt q.ts vb q.bs) => implLineCalm_any q.c.codec q.c.sum q.c.most q.c.map (q.nx : Int) vm q.ms vg q.gs vt q.ts vb q.bs (bzL q.f.held) (bzL q.h.held) q.f.over q.h.over 12 W W.heap.size h (Nat.le_refl _) wq (ok_few HQO.out))
  rw [hres] at HCM
  clear hres
  have HA := Lib.hid (calm_all HIN.out)
  have HO12 := Lib.hid (Ls.Ok.calmN 12 HQO.out)
  have HC12 := Lib.hid (calmN_c 12 q)
  generalize Ls.calmN 12 q = p at *
  obtain ⟨cf0, cf1, cf2, cf3⟩ := cells4 HK.out
  obtain ⟨cl0, cl1, cl2, cl3, cl4, cl5, cl6, cl7, cl8, cl9, cl10, cl11, cl12⟩ := cells13 HKl.out
  go_wp2_with fail
  clear cf0 cf1 cf2 cf3
  clear cl0 cl1 cl2 cl3 cl4 cl5 cl6 cl7 cl8 cl9 cl10 cl11 cl12
  refine (HCM.out _ _ _ _ _ HOl.out.reads).mono ?_
  rintro e x5 ⟨um, ub, ug, ut, rfl, ⟨hol, hap⟩, hbx⟩
  obtain ⟨Amp, Cmp, hsh⟩ := hol.1.reads.shape
  subst hsh
  obtain ⟨Agp, Cgp, hsh⟩ := hol.2.1.reads.shape
  subst hsh
  obtain ⟨Atp, Ctp, hsh⟩ := hol.2.2.1.reads.shape
  subst hsh
  obtain ⟨Abp, Cbp, hsh⟩ := hol.2.2.2.reads.shape
  subst hsh
  have HK := Lib.hid (HK.out.from hbx)
  have HKl := Lib.hid (HKl.out.from hbx)
  have HOl := Lib.hid (HOl.out.below hbx)
  have HO := Lib.hid (HO.out.below hbx)
  have HZ := Lib.hid (HZ.out.below hbx)
  have HB := Lib.hid (HB.out.trans (hbx.mono HB.out.size))
  have HOp := Lib.hid hol
  clear hol hap hbx
  have hba := (Below.refl _ x5).alloc (Nat.le_refl _) (.cells #[.int .i64 p.c.codec, .int .i64 p.c.sum, .int .i64 p.c.most, .int .i64 p.c.map, .slice Amp p.ms.length Cmp, .int .i64 (p.nx : Int), .slice Agp p.gs.length Cgp, .string (bzL p.f.held), .bool p.f.over, .string (bzL p.h.held), .bool p.h.over, .slice Atp p.ts.length Ctp, .slice Abp p.bs.length Cbp] 32)
  have hnew := BK.new x5 #[.int .i64 p.c.codec, .int .i64 p.c.sum, .int .i64 p.c.most, .int .i64 p.c.map, .slice Amp p.ms.length Cmp, .int .i64 (p.nx : Int), .slice Agp p.gs.length Cgp, .string (bzL p.f.held), .bool p.f.over, .string (bzL p.h.held), .bool p.h.over, .slice Atp p.ts.length Ctp, .slice Abp p.bs.length Cbp] 32
  have HK := Lib.hid (HK.out.from hba)
  have HKl := Lib.hid (HKl.out.from hba)
  have HOl := Lib.hid (HOl.out.below hba)
  have HOp := Lib.hid (HOp.out.below hba)
  have HO := Lib.hid (HO.out.below hba)
  have HZ := Lib.hid (HZ.out.below hba)
  have HB := Lib.hid (HB.out.trans (hba.mono HB.out.size))
  have HKp := Lib.hid hnew
  clear hnew hba
  have wp : (Lit.int .i64 p.c.codec).wf = true := by rw [HC12.out.1]; exact wq
  obtain ⟨cf0, cf1, cf2, cf3⟩ := cells4 HK.out
  obtain ⟨cl0, cl1, cl2, cl3, cl4, cl5, cl6, cl7, cl8, cl9, cl10, cl11, cl12⟩ := cells13 HKl.out
  obtain ⟨cp0, cp1, cp2, cp3, cp4, cp5, cp6, cp7, cp8, cp9, cp10, cp11, cp12⟩ := cells13 HKp.out
  go_wp2_with fail
  clear cf0 cf1 cf2 cf3
  clear cl0 cl1 cl2 cl3 cl4 cl5 cl6 cl7 cl8 cl9 cl10 cl11 cl12
  clear cp0 cp1 cp2 cp3 cp4 cp5 cp6 cp7 cp8 cp9 cp10 cp11 cp12
  refine (implLineOk_any _ _ _ _ _ _ p.ms _ _ _ _ _ _ _ _ _ _ _ _ _ _ _ HOp.out.1.reads (Nat.le_refl _) wp (by rw [bzL_size]; exact Nat.le_trans (held_few HO12.out).1 (by unfold maxLen; omega)) (by rw [bzL_size]; exact Nat.le_trans (held_few HO12.out).2 (by unfold maxLen; omega)) (by have h := HO12.out.ml; unfold maxLen; omega) (fun s hs => by have h1 := HO12.out.mz s hs; have h2 := (confB_yes HO12.out.conf).2.2.1; unfold maxLen; omega)).mono ?_
  rintro e x6 ⟨rfl, hbx⟩
  rw [show lineB ⟨p.c.codec, p.c.sum, p.c.most, p.c.map⟩ p.ms (p.nx : Int) p.gs.length ⟨(bzL p.f.held).data.toList, p.f.over⟩ ⟨(bzL p.h.held).data.toList, p.h.over⟩ p.ts.length p.bs.length = true from ok_line HO12.out]
  have HK := Lib.hid (HK.out.from hbx)
  have HKl := Lib.hid (HKl.out.from hbx)
  have HKp := Lib.hid (HKp.out.from hbx)
  have HOl := Lib.hid (HOl.out.below hbx)
  have HOp := Lib.hid (HOp.out.below hbx)
  have HO := Lib.hid (HO.out.below hbx)
  have HZ := Lib.hid (HZ.out.below hbx)
  have HB := Lib.hid (HB.out.trans (hbx.mono HB.out.size))
  clear hbx
  have HPG := Lib.hid (show p.gs = ms from HA.out.1.trans HQM.out)
  have HP2 := Lib.hid (show RS x6 x6.heap.size (.slice Agp p.gs.length Cgp) ms from by have h := HOp.out.2.1.reads; rw [HPG.out] at h ⊢; exact h)
  obtain ⟨cf0, cf1, cf2, cf3⟩ := cells4 HK.out
  obtain ⟨cl0, cl1, cl2, cl3, cl4, cl5, cl6, cl7, cl8, cl9, cl10, cl11, cl12⟩ := cells13 HKl.out
  obtain ⟨cp0, cp1, cp2, cp3, cp4, cp5, cp6, cp7, cp8, cp9, cp10, cp11, cp12⟩ := cells13 HKp.out
  go_wp2_with fail
  clear cf0 cf1 cf2 cf3
  clear cl0 cl1 cl2 cl3 cl4 cl5 cl6 cl7 cl8 cl9 cl10 cl11 cl12
  clear cp0 cp1 cp2 cp3 cp4 cp5 cp6 cp7 cp8 cp9 cp10 cp11 cp12
  refine (ctTexts_same _ _ ms _ _ _ HP2.out HO.out.reads (Nat.le_refl _) (Nat.le_refl _) HML.out).mono ?_
  rintro e x7 ⟨rfl, hbx⟩
  have HK := Lib.hid (HK.out.from hbx)
  have HKl := Lib.hid (HKl.out.from hbx)
  have HKp := Lib.hid (HKp.out.from hbx)
  have HOl := Lib.hid (HOl.out.below hbx)
  have HOp := Lib.hid (HOp.out.below hbx)
  have HO := Lib.hid (HO.out.below hbx)
  have HZ := Lib.hid (HZ.out.below hbx)
  have HB := Lib.hid (HB.out.trans (hbx.mono HB.out.size))
  clear hbx HP2
  have hnx : ((p.nx : Int) == (ms.length : Int)) = true := by have h := HA.out.2.1; rw [HQM.out] at h; rw [h]; simp
  obtain ⟨cf0, cf1, cf2, cf3⟩ := cells4 HK.out
  obtain ⟨cl0, cl1, cl2, cl3, cl4, cl5, cl6, cl7, cl8, cl9, cl10, cl11, cl12⟩ := cells13 HKl.out
  obtain ⟨cp0, cp1, cp2, cp3, cp4, cp5, cp6, cp7, cp8, cp9, cp10, cp11, cp12⟩ := cells13 HKp.out
  go_wp2
  go_ret
  exact ⟨by simp, HB.out⟩
 ·have hc0 : (q.c.codec == 0) = true := by rw [hz]; rfl
  clear hz
  obtain ⟨cf0, cf1, cf2, cf3⟩ := cells4 HK.out
  obtain ⟨cl0, cl1, cl2, cl3, cl4, cl5, cl6, cl7, cl8, cl9, cl10, cl11, cl12⟩ := cells13 HKl.out
  go_wp2_with fail
  clear cf0 cf1 cf2 cf3
  clear cl0 cl1 cl2 cl3 cl4 cl5 cl6 cl7 cl8 cl9 cl10 cl11 cl12
  have hKq := HK.out.drew
  have hL := HKl.out.drew
  have hO := HO.out.drew
  have hZ := HZ.out.drew
  have hOl := HOl.out.below (Below.refl _ _).drew
  have hB := HB.out.drew
  have hS := And.intro (cells13 hL) (cells4 hKq)
  refine wp_region_held_drew (S := (fun wx => (wx.cell? ⟨x2.heap.size, 0, none⟩ = some (.int .i64 q.c.codec) ∧ wx.cell? ⟨x2.heap.size, 1, none⟩ = some (.int .i64 q.c.sum) ∧ wx.cell? ⟨x2.heap.size, 2, none⟩ = some (.int .i64 q.c.most) ∧ wx.cell? ⟨x2.heap.size, 3, none⟩ = some (.int .i64 q.c.map) ∧ wx.cell? ⟨x2.heap.size, 4, none⟩ = some (.slice Aml q.ms.length Cml) ∧ wx.cell? ⟨x2.heap.size, 5, none⟩ = some (.int .i64 (q.nx : Int)) ∧ wx.cell? ⟨x2.heap.size, 6, none⟩ = some (.slice Agl q.gs.length Cgl) ∧ wx.cell? ⟨x2.heap.size, 7, none⟩ = some (.string (bzL q.f.held)) ∧ wx.cell? ⟨x2.heap.size, 8, none⟩ = some (.bool q.f.over) ∧ wx.cell? ⟨x2.heap.size, 9, none⟩ = some (.string (bzL q.h.held)) ∧ wx.cell? ⟨x2.heap.size, 10, none⟩ = some (.bool q.h.over) ∧ wx.cell? ⟨x2.heap.size, 11, none⟩ = some (.slice Atl q.ts.length Ctl) ∧ wx.cell? ⟨x2.heap.size, 12, none⟩ = some (.slice Abl q.bs.length Cbl)) ∧ (wx.cell? ⟨x1.heap.size, 0, none⟩ = some (.int .i64 a) ∧ wx.cell? ⟨x1.heap.size, 1, none⟩ = some (.int .i64 b) ∧ wx.cell? ⟨x1.heap.size, 2, none⟩ = some (.int .i64 d) ∧ wx.cell? ⟨x1.heap.size, 3, none⟩ = some (.int .i64 m)))) (by kernel_rfl) hS (fun hHeld => ?_)
  refine tkH 0 ?_ rfl (Or.inl ⟨by rfl, ?_⟩) ?_; rotate_left
  ·intro wq hSw; (try dsimp only at hSw); (try simp only [gT, gZ]); go_simp; (try with_reducible rfl)
  simp only [Act.put, gT, gZ, sT, sZ, sS]
  refine tkH 1 ?_ rfl (Or.inl ⟨by rfl, ?_⟩) ?_; rotate_left
  ·intro wq hSw; (try dsimp only at hSw); (try simp only [gT, gS, gZ]); go_simp; (try with_reducible rfl)
  simp only [Act.put, gT, gS, gZ, sT, sZ, sS]
  refine tkH 2 ?_ rfl (Or.inl ⟨by rfl, ?_⟩) ?_; rotate_left
  ·intro wq hSw; (try dsimp only at hSw); (try simp only [gT, gS, gZ]); go_simp; (try with_reducible rfl)
  simp only [Act.put, gT, gS, gZ, sT, sZ, sS]
  refine tkH 3 ?_ rfl (Or.inl ⟨by rfl, ?_⟩) ?_; rotate_left
  ·intro wq hSw; (try dsimp only at hSw); (try simp only [gT, gS, gZ]); go_simp; (try with_reducible rfl)
  simp only [Act.put, gT, gS, gZ, sT, sZ, sS]
  refine wpAnyH_ready (rs := [4]) (by kernel_rfl) (by simp) ?_
  refine AllReadyH.cons rfl (fun K hK => ?_) AllReadyH.nil
  (try simp only [gT, gS, gZ])
  go_simp
  go_at_call 12
  refine (HSP.out _ _ _ hO.reads hZ.reads).mono ?_
  rintro e x3 ⟨tm, tb, tg, tt, rfl, hol, hbx⟩
  have hKq := hKq.from hbx
  have hL := hL.from hbx
  have hOl := hOl.below hbx
  have hO := hO.below hbx
  have hZ := hZ.below hbx
  have hB := hB.trans (hbx.mono hB.size)
  have hS := And.intro (cells13 hL) (cells4 hKq)
  refine hK.out _ _ hS (fun hHeld => ?_)
  clear hK K
  refine wpAnyH_ready (rs := [5]) (by kernel_rfl) (by simp) ?_
  refine AllReadyH.cons rfl (fun K hK => ?_) AllReadyH.nil
  (try simp only [gT, gS, gZ])
  go_simp
  go_at_call 11
  refine (ctLine_same _ _ _ _ _ _ _ _ _ _ _ _ _ _ _ _ _ _ _ _ _ _ _ _ hOl.reads hol.reads (Nat.le_refl _) (Nat.le_refl _) HFW.out.1 HFW.out.2.1 HFW.out.2.2.1 HFW.out.2.2.2).mono ?_
  rintro e x4 ⟨rfl, hby⟩
  have hKq := hKq.from hby
  have hL := hL.from hby
  have hOl := hOl.below hby
  have hO := hO.below hby
  have hZ := hZ.below hby
  have hB := hB.trans (hby.mono hB.size)
  have hS := And.intro (cells13 hL) (cells4 hKq)
  refine hK.out _ _ hS (fun hHeld => ?_)
  clear hK K
  refine tkH 6 ?_ rfl (Or.inl ⟨by rfl, ?_⟩) ?_; rotate_left
  ·intro wq hSw; (try dsimp only at hSw); (try simp only [gT, gS, gZ]); go_simp; (try with_reducible rfl)
  simp only [Act.put, gT, gS, gZ, sT, sZ, sS]
  refine wpAnyH_done (by kernel_rfl) ?_ _
  have HB := Lib.hid hB
  clear hKq hL hO hZ hOl hB hS hol hbx hby
  go_wp2
  go_ret
  exact ⟨rfl, HB.out⟩
theorem own : ownKnob Tryz.prog.godebug = none := by kernel_rfl
theorem laidOut : laidOutB Tryz.prog = true := by kernel_rfl
set_option maxRecDepth 100000 in
theorem lifted (os : Os) (started : os.Started) (H : Type) (enc : TypeId × Value → H) :
  ReturnsInHanded {} Tryz.checked os 5 .any (Rows.fnLineCalmSpec.pre6 enc Tryz.prog Tryz.f5 Rows.fnLineCalmRow.domain false) (Rows.fnLineCalmSpec.post enc Tryz.prog Tryz.f5 false true false false) := by
 refine returnsInHanded_of_change (C := Tryz.checked) own started (by kernel_rfl) Tryz.func5
  (ChangeSpec.witness6 (enc := enc) (C := Tryz.checked) false ⟨#[], #[.slice none 0 0], []⟩ 8 (by kernel_rfl) (by kernel_rfl) (by kernel_rfl) (by kernel_rfl)) ?_
 intro W base args ds gs before hval0 hW hcnd _
 have hval : ∀ (j : Nat) t v, Tryz.f5.params[j]? = some t → args[j]? = some v → Value.okWide Tryz.prog W .any base t v := hval0
 have hW' := hW
 obtain ⟨p, q, hA0, hV, rfl, hfz, hnd⟩ := hW
 have hA : DataW.TrodAll enc Tryz.prog W 0 (fun _ => true) true Tryz.f5.params.toList args.toList ds p := hA0
 rw [Tryz.params5] at hA hval
 obtain ⟨v0, vs0, d0, ds0, p0, q0, hargs, rfl, rfl, h0, r0⟩ := trodAll_cons hA
 obtain ⟨rfl, rfl, rfl⟩ := trodAll_nil r0
 obtain rfl : args = #[v0] := by cases args; simp_all
 obtain ⟨rfl, rfl⟩ := trodVars_none hV
 obtain ⟨a0, len0, cap0, rfl⟩ := okWide_slice Tryz.underlying22 (hval 0 22 v0 rfl rfl)
 have k0 := h0
 have lt0 : ∀ x ∈ p0, x.block < W.heap.size := by obtain ⟨m, hm⟩ := k0; exact DataW.trod_lt m _ _ _ hm
 obtain ⟨z0, w0⟩ : ∃ zs, IsRow .u8 W a0 len0 cap0 zs := by
  obtain ⟨fuel, hf⟩ := h0
  rcases open_ints Tryz.underlying22 Tryz.underlying5 (by kernel_rfl) hf with ⟨hcs, _⟩ | ⟨x, l, c, zs, hcs, _, hl, hm, hz, _, hcell, hwz⟩
  ·simp [Value.cells] at hcs
   obtain ⟨rfl, rfl, rfl⟩ := hcs
   exact ⟨[], .inl ⟨rfl, rfl, rfl, rfl⟩⟩
  ·simp [Value.cells] at hcs
   obtain ⟨rfl, rfl, rfl⟩ := hcs
   exact ⟨zs, .inr ⟨_, rfl, hl, hm, by simpa using hz, hcell, hwz⟩⟩
 clear hA0 hval0
 refine (walk a0 len0 cap0 z0 W w0).mono fun e W' ⟨he, bel⟩ => ?_
 subst he
 exact ⟨_, rfl, _, _, _, [], _, [], hW', trodAll_mk1 (shut_bool Tryz.underlying4 _), (trodAll_cons_mk (Below.trod laidOut (by kernel_rfl) (of_decide_eq_true (by kernel_rfl)) k0 bel lt0) trodAll_mk0), rfl, bel.frame _, fun h => by cases h⟩
theorem over : Rows.fnLineCalmRow.holds Tryz.pinned (OpenSpec.ofChange Rows.fnLineCalmSpec) :=
 OpenClaim.holds_of_wide 5 Tryz.f5 rfl rfl rfl rfl rfl rfl rfl ⟨rfl, rfl, rfl, rfl, rfl⟩ rfl rfl rfl rfl rfl (by kernel_rfl) Tryz.func5 (by kernel_rfl)
  (of_decide_eq_true (by kernel_rfl)) (by unfold Func.isWrapper; first | (rw [if_pos (by decide +kernel)]; kernel_rfl) | (rw [if_neg (by decide +kernel)]; exact ⟨rfl, rfl⟩))
  (fun os started H enc _ => lifted os started H enc)
theorem proved : Rows.FnLineCalmSaid := over
end Go.Proofs.YtmggoiabcboaiaaGreat.fnLineCalm
