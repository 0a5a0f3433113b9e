/- Parts of a proof, 23: Abp LnQ LkM. -/
import Derived.Test.YtmggoiabcboaiaaGreatZe1
import Derived.Test.YtmggoiabcboaiaaGreatZe2
import Derived.Test.YtmggoiabcboaiaaGreatZe3
import Derived.Test.YtmggoiabcboaiaaGreatZe4
import Derived.Test.YtmggoiabcboaiaaGreatZe5
import Derived.Test.YtmggoiabcboaiaaGreatZe6
import Derived.Test.YtmggoiabcboaiaaGreatZe7
import Derived.Test.YtmggoiabcboaiaaGreatZe8
import Derived.Test.YtmggoiabcboaiaaGreatZe9
import Derived.Test.YtmggoiabcboaiaaGreatZe10
import Derived.Test.YtmggoiabcboaiaaGreatZe11
import Derived.Test.YtmggoiabcboaiaaGreatZe12
import Derived.Test.YtmggoiabcboaiaaGreatZe13
import Derived.Test.YtmggoiabcboaiaaGreatZe14
import Derived.Test.YtmggoiabcboaiaaGreatZe15
import Derived.Test.YtmggoiabcboaiaaGreatZe16
import Derived.Test.YtmggoiabcboaiaaGreatZe17
import Derived.Test.YtmggoiabcboaiaaGreatZe18
import Derived.Test.YtmggoiabcboaiaaGreatZe19
import Derived.Test.YtmggoiabcboaiaaGreatZe20
import Derived.Test.YtmggoiabcboaiaaGreatZe21
import Derived.Test.YtmggoiabcboaiaaGreatZe22
namespace Go.Proofs.YtmggoiabcboaiaaGreat
set_option linter.unusedVariables false
def frA (c : Cf) (ms : List ByteArray) (k : Nat) : ByteArray := bzL (sendA c (parB k :: (ms.getD k ⟨#[]⟩).data.toList))
def akA (c : Cf) (j : Nat) : ByteArray := bzL (sendA c [parB j])
theorem bzL_list (l : List UInt8) : (bzL l).data.toList = l := by unfold bzL; simp
theorem bzL_of (x : ByteArray) : bzL x.data.toList = x := by unfold bzL; simp
def Way4 (s : Ls) (ks js : List Nat) : Prop :=
 (s.gs.length = s.nx ∧ (∀ k ∈ ks, k = s.nx ∨ k + 1 = s.nx) ∧ ks.Pairwise (· ≤ ·) ∧ ∀ j ∈ js, j + 1 = s.nx) ∨
 (s.gs.length = s.nx + 1 ∧ (∀ k ∈ ks, k = s.nx) ∧ (∀ j ∈ js, j = s.nx ∨ j + 1 = s.nx) ∧ js.Pairwise (· ≤ ·))
structure InvAt (s : Ls) (ks js : List Nat) : Prop where
 ok : s.Ok
 rf : s.f = ⟨[], false⟩
 rh : s.h = ⟨[], false⟩
 gp : s.gs = s.ms.take s.gs.length
 ts : s.ts = ks.map (frA s.c s.ms)
 bs : s.bs = js.map (akA s.c)
 kl : ∀ k ∈ ks, k < s.ms.length
 jl : ∀ j ∈ js, j < s.ms.length
 wy : Way4 s ks js
end Go.Proofs.YtmggoiabcboaiaaGreat
namespace Go.Proofs.YtmggoiabcboaiaaGreat
open Go.ChangeShapes Go.WideShapes Go.ChangeAt Go.RowKit
set_option linter.unusedVariables false
theorem kept_c (s : Ls) (b : UInt8) (r : List UInt8) : (s.kept b r).c = s.c ∧ (s.kept b r).ms = s.ms := by unfold Ls.kept; split <;> exact ⟨rfl, rfl⟩
theorem told_c (s : Ls) (b : UInt8) : (s.told b).c = s.c ∧ (s.told b).ms = s.ms := by unfold Ls.told; split <;> exact ⟨rfl, rfl⟩
theorem takeL_c (s : Ls) (l : List UInt8) : (s.takeL l).c = s.c ∧ (s.takeL l).ms = s.ms := by
 cases l with
 | nil => exact ⟨rfl, rfl⟩
 | cons b r =>
  by_cases h : b = 48 ∨ b = 49
  ·rw [show s.takeL (b :: r) = (s.kept b r).told b by simp only [Ls.takeL]; rw [if_pos h]]
   have h1 := told_c (s.kept b r) b
   have h2 := kept_c s b r
   exact ⟨h1.1.trans h2.1, h1.2.trans h2.2⟩
  ·rw [show s.takeL (b :: r) = s by simp only [Ls.takeL]; rw [if_neg h]]
   exact ⟨rfl, rfl⟩
theorem takes_c (l : List ByteArray) : ∀ s : Ls, (l.foldl Ls.takeP s).c = s.c ∧ (l.foldl Ls.takeP s).ms = s.ms := by
 induction l with
 | nil => intro s; exact ⟨rfl, rfl⟩
 | cons F r ih => intro s; have h := ih (s.takeP F); have h2 := takeL_c s F.data.toList; exact ⟨h.1.trans h2.1, h.2.trans h2.2⟩
theorem confs_c (l : List ByteArray) : ∀ s : Ls, (l.foldl Ls.confP s).c = s.c ∧ (l.foldl Ls.confP s).ms = s.ms := by
 induction l with
 | nil => intro s; exact ⟨rfl, rfl⟩
 | cons F r ih =>
  intro s
  have h := ih (s.confP F)
  have h2 : (s.confP F).c = s.c ∧ (s.confP F).ms = s.ms := by unfold Ls.confP; split <;> exact ⟨rfl, rfl⟩
  exact ⟨h.1.trans h2.1, h.2.trans h2.2⟩
theorem there_c (s : Ls) : s.there.c = s.c ∧ s.there.ms = s.ms := by
 unfold Ls.there
 cases h : s.ts with
 | nil => simp
 | cons t r => simp only; exact takes_c _ _
theorem here_c (s : Ls) : s.here.c = s.c ∧ s.here.ms = s.ms := by
 unfold Ls.here
 cases h : s.bs with
 | nil => simp
 | cons t r => simp only; exact confs_c _ _
theorem sendP_c (s : Ls) : s.sendP.c = s.c ∧ s.sendP.ms = s.ms := by unfold Ls.sendP; split <;> exact ⟨rfl, rfl⟩
theorem drainT_c (n : Nat) : ∀ s : Ls, (Ls.drainT n s).c = s.c ∧ (Ls.drainT n s).ms = s.ms := by
 induction n with
 | zero => intro s; exact ⟨rfl, rfl⟩
 | succ n ih => intro s; have h := ih s.there; have h2 := there_c s; exact ⟨h.1.trans h2.1, h.2.trans h2.2⟩
theorem drainB_c (n : Nat) : ∀ s : Ls, (Ls.drainB n s).c = s.c ∧ (Ls.drainB n s).ms = s.ms := by
 induction n with
 | zero => intro s; exact ⟨rfl, rfl⟩
 | succ n ih => intro s; have h := ih s.here; have h2 := here_c s; exact ⟨h.1.trans h2.1, h.2.trans h2.2⟩
theorem calmN_c (n : Nat) (s : Ls) : (Ls.calmN n s).c = s.c ∧ (Ls.calmN n s).ms = s.ms := by
 induction n with
 | zero => exact ⟨rfl, rfl⟩
 | succ n ih =>
  have h1 : (Ls.calmN n s).calmP.c = (Ls.calmN n s).c ∧ (Ls.calmN n s).calmP.ms = (Ls.calmN n s).ms := by
   unfold Ls.calmP Ls.allB Ls.allT
   have a := sendP_c (Ls.drainB (Ls.drainT (Ls.calmN n s).ts.length (Ls.calmN n s)).bs.length (Ls.drainT (Ls.calmN n s).ts.length (Ls.calmN n s)))
   have b := drainB_c (Ls.drainT (Ls.calmN n s).ts.length (Ls.calmN n s)).bs.length (Ls.drainT (Ls.calmN n s).ts.length (Ls.calmN n s))
   have c := drainT_c (Ls.calmN n s).ts.length (Ls.calmN n s)
   exact ⟨a.1.trans (b.1.trans c.1), a.2.trans (b.2.trans c.2)⟩
  exact ⟨h1.1.trans ih.1, h1.2.trans ih.2⟩
theorem ok_line {s : Ls} (h : s.Ok) : lineB ⟨s.c.codec, s.c.sum, s.c.most, s.c.map⟩ s.ms (s.nx : Int) s.gs.length ⟨(bzL s.f.held).data.toList, s.f.over⟩ ⟨(bzL s.h.held).data.toList, s.h.over⟩ s.ts.length s.bs.length = true := by
 rw [bzL_list, bzL_list]
 unfold lineB
 simp only [Bool.and_eq_true, decide_eq_true_eq]
 have h1 := h.okf
 have h2 := h.okh
 have h3 := h.nxl
 refine ⟨h1, h2, ?_, ?_⟩
 ·simp only [msgsB, Bool.and_eq_true, decide_eq_true_eq, List.all_eq_true]
  exact ⟨fun x hx => h.mz x hx, h.ml⟩
 ·refine ⟨?_, h.gl, h.tl, h.bl⟩
  omega
end Go.Proofs.YtmggoiabcboaiaaGreat
namespace Go.Proofs.YtmggoiabcboaiaaGreat
open Go.ChangeShapes Go.WideShapes Go.ChangeAt Go.RowKit
set_option linter.unusedVariables false
def SPostB (base : Nat) (w : World) (s' : Ls) (e : Ending) (w' : World) : Prop := ∃ um ub ug ut b, e = .returned (.tuple #[lsV s' um ub ug ut, .bool b]) ∧ OL w' base um s'.ms ug s'.gs ut s'.ts ub s'.bs ∧ Below w.heap.size w w'
abbrev SPost (w : World) (s' : Ls) : Ending → World → Prop := SPostB 0 w s'
theorem l8Bit_any (n : Nat) (w : World) (hn : n ≤ 1000000) :
  Calls Tryz.prog 83 #[.int .i64 (n : Int)] w fun e w' => e = .returned (.string ⟨#[parB n]⟩) ∧ Below w.heap.size w w' := by
 obtain ⟨d, hd⟩ : ∃ d, d = n % 2 := ⟨_, rfl⟩
 obtain ⟨b, hb⟩ : ∃ b, b = parB n := ⟨_, rfl⟩
 have hbn : b.toNat = 48 + d := by
  rw [hb]
  unfold parB
  by_cases h : n % 2 = 0
  ·rw [if_pos h, hd, h]; rfl
  ·rw [if_neg h, hd, show n % 2 = 1 by omega]; rfl
 have hd1 : (n : Int) % 2 = (d : Int) := by omega
 have hd2 : (n : Int).tmod 2 = (d : Int) := by rw [Int.tmod_eq_emod_of_nonneg (by omega)]; exact hd1
 have hdb : d < 2 := by omega
 have hw2 : IntKind.i64.wrap (48 + (d : Int)) = 48 + (d : Int) := wrap_in _ (by omega) (by omega)
 have hw3 : IntKind.u8.wrap (48 + (d : Int)) = (b.toNat : Int) := by rw [hbn]; rw [show IntKind.u8.wrap (48 + (d : Int)) = (48 + (d : Int)) % 256 from rfl]; omega
 have hcv := run_string_one w b
 have HB := Lib.hid hb
 clear hb hbn hd
 go_enter Tryz.func83, Tryz.ntmps83
 go_wp2
 go_ret
 exact ⟨by rw [← HB.out]; rfl, (Below.refl _ _).alloc (Nat.le_refl _) _⟩
theorem own_ne {w : World} {base g : Nat} {cs : Array Value} {t : TypeId} {v : Value} {ss : List ByteArray} (h : BK w g cs t) (ht : t ≠ 9) (ho : OS w base v ss) : v.ownBlock ≠ some g := by
 intro e
 rcases ho.2 with ⟨rfl, _⟩ | ⟨g', cap', cur', rfl, _, hg', _⟩
 ·simp [Value.ownBlock] at e
 ·simp [Value.ownBlock] at e
  subst e
  unfold BK at h
  rw [hg'] at h
  injection h with h
  injection h with _ h2 _
  exact ht h2.symm
structure Mid (w0 wx : World) (N : Nat) (cs zs : Array Value) : Prop where
 bk : BK wx N cs 32
 bq : BK wx (N + 1) zs 32
 bl : Below N w0 wx
theorem set13_own {W : World} {base g : Nat} {v : Value} {ss : List ByteArray} {v0 v1 v2 v3 v4 v5 v6 v7 v8 v9 v10 v11 v12 : Value} (h : OS W base v ss) (hne : v.ownBlock ≠ some g) : OS (set13 W g v0 v1 v2 v3 v4 v5 v6 v7 v8 v9 v10 v11 v12) base v ss :=
 (os_set (os_set (os_set (os_set (os_set (os_set (os_set (os_set (os_set (os_set (os_set (os_set (os_set h hne (i := 0) v0) hne (i := 1) v1) hne (i := 2) v2) hne (i := 3) v3) hne (i := 4) v4) hne (i := 5) v5) hne (i := 6) v6) hne (i := 7) v7) hne (i := 8) v8) hne (i := 9) v9) hne (i := 10) v10) hne (i := 11) v11) hne (i := 12) v12)
theorem line_str : 32 ≠ 9 := by decide
theorem Mid.below {w0 wx wy : World} {N : Nat} {cs zs : Array Value} (h : Mid w0 wx N cs zs) (hb : Below wx.heap.size wx wy) : Mid w0 wy N cs zs := ⟨h.bk.from hb, h.bq.from hb, h.bl.trans (hb.mono (by have := h.bk.lt; omega))⟩
theorem Mid.grown {w0 wx wy : World} {N : Nat} {cs zs : Array Value} {v : Value} {ss : List ByteArray} (h : Mid w0 wx N cs zs) (ho : OS wx N v ss) (hg : wx.grownBy wy v.ownBlock) : Mid w0 wy N cs zs :=
 ⟨h.bk.os line_str ho hg, h.bq.os line_str ho hg, h.bl.grown hg (by have := h.bk.lt; omega) (fun k hk => (ho.low k hk).1)⟩
theorem Mid.set {w0 wx : World} {N i : Nat} {cs zs : Array Value} (h : Mid w0 wx N cs zs) (v : Value) : Mid w0 (wx.setCell ⟨N, i, none⟩ v) N (cs.setIfInBounds i v) zs := ⟨h.bk.set i v, h.bq.far (by omega) v, h.bl.setCell (p := ⟨N, i, none⟩) (Nat.le_refl _) v⟩
theorem Mid.drew {w0 wx : World} {N : Nat} {cs zs : Array Value} (h : Mid w0 wx N cs zs) : Mid w0 wx.drew N cs zs := ⟨h.bk, h.bq, h.bl.drew⟩
theorem line_ret2 {k j : Nat} {f : Func} {a b d m nx : Int} {vm vg vt vb x : Value} {T H : ByteArray} {tO hO : Bool} {W : World} {g : Nat} {A : Act} {Q : Ending → World → Prop} (hf : f.results = #[.cell k 32, .tmp j]) (hq : BK W g #[.int .i64 a, .int .i64 b, .int .i64 d, .int .i64 m, vm, .int .i64 nx, vg, .string T, .bool tO, .string H, .bool hO, vt, vb] 32)
  (hs : A.tmps.getD k undef = .pointer (some ⟨g, 0, none⟩)) (hj : A.tmps.getD j undef = x) (hd : A.defers = []) (hQ : Q (.returned (.tuple #[lnV a b d m vm nx vg T tO H hO vt vb, x])) W) : bodyPost Tryz.prog f Q .ret A W := by
 obtain ⟨z0, z1, z2, z3, z4, z5, z6, z7, z8, z9, z10, z11, z12⟩ := cells13 hq
 have hs2 : A.tmps[k]?.getD undef = .pointer (some ⟨g, 0, none⟩) := by rw [← hs]; simp
 have hj2 : A.tmps[j]?.getD undef = x := by rw [← hj]; simp
 refine bodyPost_ret (v := .tuple #[lnV a b d m vm nx vg T tO H hO vt vb, x]) ?_ hd hQ
 simp [results, hf, go_sem, hs2, hj2, z0, z1, z2, z3, z4, z5, z6, z7, z8, z9, z10, z11, z12]
set_option maxRecDepth 100000 in
set_option maxHeartbeats 2000000 in
theorem l8Send_anyB {base : Nat} (s : Ls) (hs : s.Ok) (vm vb vg vt : Value) (w : World) (h0 : OL w base vm s.ms vg s.gs vt s.ts vb s.bs) (hbs : base ≤ w.heap.size) :
  Calls Tryz.prog 55 #[lsV s vm vb vg vt] w (SPostB base w s.sendP) := by
 obtain ⟨i0, hi0, hz0, hz1, hz2⟩ := info_parts info_str
 have HI := Lib.hid hi0
 have HZ0 := Lib.hid hz0
 have HZ1 := Lib.hid hz1
 have HZ2 := Lib.hid hz2
 have h := h0.reads
 have hB : w.heap.size ≤ w.heap.size := Nat.le_refl _
 obtain ⟨am, cm, rfl⟩ := h.1.shape
 obtain ⟨ag, cg, rfl⟩ := h.2.1.shape
 obtain ⟨at_, ct, rfl⟩ := h.2.2.1.shape
 obtain ⟨ab, cb, rfl⟩ := h.2.2.2.shape
 have hzl := zero_line
 have hml := hs.ml
 have hnx := hs.nxl
 have htl := hs.tl
 have hk := (BK.new w #[.int .i64 s.c.codec, .int .i64 s.c.sum, .int .i64 s.c.most, .int .i64 s.c.map, .slice am s.ms.length cm, .int .i64 (s.nx : Int), .slice ag s.gs.length cg, .string (bzL s.f.held), .bool s.f.over, .string (bzL s.h.held), .bool s.h.over, .slice at_ s.ts.length ct, .slice ab s.bs.length cb] 32).alloc (.cells #[.int .i64 0, .int .i64 0, .int .i64 0, .int .i64 0, .slice none 0 0, .int .i64 0, .slice none 0 0, .string ⟨#[]⟩, .bool false, .string ⟨#[]⟩, .bool false, .slice none 0 0, .slice none 0 0] 32)
 have hq := BK.new (w.alloc (.cells #[.int .i64 s.c.codec, .int .i64 s.c.sum, .int .i64 s.c.most, .int .i64 s.c.map, .slice am s.ms.length cm, .int .i64 (s.nx : Int), .slice ag s.gs.length cg, .string (bzL s.f.held), .bool s.f.over, .string (bzL s.h.held), .bool s.h.over, .slice at_ s.ts.length ct, .slice ab s.bs.length cb] 32)) #[.int .i64 0, .int .i64 0, .int .i64 0, .int .i64 0, .slice none 0 0, .int .i64 0, .slice none 0 0, .string ⟨#[]⟩, .bool false, .string ⟨#[]⟩, .bool false, .slice none 0 0, .slice none 0 0] 32
 rw [World.size_alloc] at hq
 have hb := ((Below.refl w.heap.size w).alloc (Nat.le_refl _) (.cells #[.int .i64 s.c.codec, .int .i64 s.c.sum, .int .i64 s.c.most, .int .i64 s.c.map, .slice am s.ms.length cm, .int .i64 (s.nx : Int), .slice ag s.gs.length cg, .string (bzL s.f.held), .bool s.f.over, .string (bzL s.h.held), .bool s.h.over, .slice at_ s.ts.length ct, .slice ab s.bs.length cb] 32)).alloc (by simp) (.cells #[.int .i64 0, .int .i64 0, .int .i64 0, .int .i64 0, .slice none 0 0, .int .i64 0, .slice none 0 0, .string ⟨#[]⟩, .bool false, .string ⟨#[]⟩, .bool false, .slice none 0 0, .slice none 0 0] 32)
 have HR := Lib.hid ((h.mono hB).below hb)
 have HB := Lib.hid hb
 have HQ := Lib.hid hq
 have HK := Lib.hid hk
 obtain ⟨w0, hw0⟩ : ∃ w0, w0 = (w.alloc (.cells #[.int .i64 s.c.codec, .int .i64 s.c.sum, .int .i64 s.c.most, .int .i64 s.c.map, .slice am s.ms.length cm, .int .i64 (s.nx : Int), .slice ag s.gs.length cg, .string (bzL s.f.held), .bool s.f.over, .string (bzL s.h.held), .bool s.h.over, .slice at_ s.ts.length ct, .slice ab s.bs.length cb] 32)).alloc (.cells #[.int .i64 0, .int .i64 0, .int .i64 0, .int .i64 0, .slice none 0 0, .int .i64 0, .slice none 0 0, .string ⟨#[]⟩, .bool false, .string ⟨#[]⟩, .bool false, .slice none 0 0, .slice none 0 0] 32) := ⟨_, rfl⟩
 rw [← hw0] at HR HB HQ HK
 have HW := Lib.hid hw0
 have HOm := Lib.hid (h0.1.below HB.out)
 have HOg := Lib.hid (h0.2.1.below HB.out)
 have HOt := Lib.hid (h0.2.2.1.below HB.out)
 have HOb := Lib.hid (h0.2.2.2.below HB.out)
 have HLm := Lib.hid (fun k hk => (h0.1.low k hk).2)
 have HLg := Lib.hid (fun k hk => (h0.2.1.low k hk).2)
 have HLt := Lib.hid (fun k hk => (h0.2.2.1.low k hk).2)
 have HLb := Lib.hid (fun k hk => (h0.2.2.2.low k hk).2)
 have HH0 := Lib.hid h0
 have hk0 := HK.out
 have hq0 := HQ.out
 rw [hw0] at hk0 hq0
 obtain ⟨c0, c1, c2, c3, c4, c5, c6, c7, c8, c9, c10, c11, c12⟩ := cells13 hk0
 obtain ⟨z0, z1, z2, z3, z4, z5, z6, z7, z8, z9, z10, z11, z12⟩ := cells13 hq0
 obtain ⟨f0, f1, f2, f3, f4, f5, f6, f7, f8, f9, f10, f11, f12⟩ := free13 hq0
 have HH := Lib.hid h
 clear h h0 hk hq hb hk0 hq0 hi0 hz0 hz1 hz2 hw0
 by_cases hc : s.nx < s.ms.length ∧ s.ts.length < 5
 ·obtain ⟨hlt, h5⟩ := hc
  have HE := Lib.hid (Ls.sendP_yes (s := s) ⟨hlt, h5⟩)
  have hmz := hs.mz s.ms[s.nx] (List.getElem_mem hlt)
  have hmost := (confB_yes hs.conf).2.2.1
  have hcf := hs.conf
  have HLS := Lib.hid (fun (T : ByteArray) (u : World) (hT : T.size ≤ 500) => l7Send_any s.c.codec s.c.sum s.c.most s.c.map T u hs.conf hT)
  go_enter Tryz.func55, Tryz.ntmps55
  go_wp2_with fail
  obtain ⟨xm, rfl, hxm, d0⟩ := HR.out.1.at_ hlt
  generalize s.ms[s.nx] = T at *
  have hTs : T.size ≤ 39 := by omega
  have HRd := Lib.hid HR.out.2.2.1
  rw [← HW.out]
  have hMS : ∀ wx : World, Mid w0 wx w.heap.size #[.int .i64 s.c.codec, .int .i64 s.c.sum, .int .i64 s.c.most, .int .i64 s.c.map, .slice (some xm) s.ms.length cm, .int .i64 (s.nx : Int), .slice ag s.gs.length cg, .string (bzL s.f.held), .bool s.f.over, .string (bzL s.h.held), .bool s.h.over, .slice at_ s.ts.length ct, .slice ab s.bs.length cb] #[.int .i64 0, .int .i64 0, .int .i64 0, .int .i64 0, .slice none 0 0, .int .i64 0, .slice none 0 0, .string ⟨#[]⟩, .bool false, .string ⟨#[]⟩, .bool false, .slice none 0 0, .slice none 0 0] → (wx.cell? ⟨w.heap.size, 0, none⟩ = some (.int .i64 s.c.codec) ∧ wx.cell? ⟨w.heap.size, 1, none⟩ = some (.int .i64 s.c.sum) ∧ wx.cell? ⟨w.heap.size, 2, none⟩ = some (.int .i64 s.c.most) ∧ wx.cell? ⟨w.heap.size, 3, none⟩ = some (.int .i64 s.c.map) ∧ wx.cell? ⟨w.heap.size, 4, none⟩ = some (.slice (some xm) s.ms.length cm) ∧ wx.cell? ⟨w.heap.size, 5, none⟩ = some (.int .i64 (s.nx : Int)) ∧ wx.cell? ⟨w.heap.size, 6, none⟩ = some (.slice ag s.gs.length cg) ∧ wx.cell? ⟨w.heap.size, 7, none⟩ = some (.string (bzL s.f.held)) ∧ wx.cell? ⟨w.heap.size, 8, none⟩ = some (.bool s.f.over) ∧ wx.cell? ⟨w.heap.size, 9, none⟩ = some (.string (bzL s.h.held)) ∧ wx.cell? ⟨w.heap.size, 10, none⟩ = some (.bool s.h.over) ∧ wx.cell? ⟨w.heap.size, 12, none⟩ = some (.slice ab s.bs.length cb)) ∧ wx.cell? (xm.add s.nx) = some (.string T) := fun wx h => ⟨⟨h.bk.cell rfl, h.bk.cell rfl, h.bk.cell rfl, h.bk.cell rfl, h.bk.cell rfl, h.bk.cell rfl, h.bk.cell rfl, h.bk.cell rfl, h.bk.cell rfl, h.bk.cell rfl, h.bk.cell rfl, h.bk.cell rfl⟩, (h.bl.cell (by rw [add_block]; exact hxm)).trans d0⟩
  have HMS := Lib.hid hMS
  have HD0 := Lib.hid d0
  have hM : Mid w0 w0.drew w.heap.size #[.int .i64 s.c.codec, .int .i64 s.c.sum, .int .i64 s.c.most, .int .i64 s.c.map, .slice (some xm) s.ms.length cm, .int .i64 (s.nx : Int), .slice ag s.gs.length cg, .string (bzL s.f.held), .bool s.f.over, .string (bzL s.h.held), .bool s.h.over, .slice at_ s.ts.length ct, .slice ab s.bs.length cb] #[.int .i64 0, .int .i64 0, .int .i64 0, .int .i64 0, .slice none 0 0, .int .i64 0, .slice none 0 0, .string ⟨#[]⟩, .bool false, .string ⟨#[]⟩, .bool false, .slice none 0 0, .slice none 0 0] := ⟨HK.out, HQ.out, (Below.refl _ _).drew⟩
  have hS := HMS.out _ hM
  have hN : w.heap.size + 2 = w0.heap.size := by rw [HW.out]; simp
  clear c0 c1 c2 c3 c4 c5 c6 c7 c8 c9 c10 c11 c12 z0 z1 z2 z3 z4 z5 z6 z7 z8 z9 z10 z11 z12 f0 f1 f2 f3 f4 f5 f6 f7 f8 f9 f10 f11 f12 d0 hMS
  refine wp_region_held_drew (S := (fun wx => (wx.cell? ⟨w.heap.size, 0, none⟩ = some (.int .i64 s.c.codec) ∧ wx.cell? ⟨w.heap.size, 1, none⟩ = some (.int .i64 s.c.sum) ∧ wx.cell? ⟨w.heap.size, 2, none⟩ = some (.int .i64 s.c.most) ∧ wx.cell? ⟨w.heap.size, 3, none⟩ = some (.int .i64 s.c.map) ∧ wx.cell? ⟨w.heap.size, 4, none⟩ = some (.slice (some xm) s.ms.length cm) ∧ wx.cell? ⟨w.heap.size, 5, none⟩ = some (.int .i64 (s.nx : Int)) ∧ wx.cell? ⟨w.heap.size, 6, none⟩ = some (.slice ag s.gs.length cg) ∧ wx.cell? ⟨w.heap.size, 7, none⟩ = some (.string (bzL s.f.held)) ∧ wx.cell? ⟨w.heap.size, 8, none⟩ = some (.bool s.f.over) ∧ wx.cell? ⟨w.heap.size, 9, none⟩ = some (.string (bzL s.h.held)) ∧ wx.cell? ⟨w.heap.size, 10, none⟩ = some (.bool s.h.over) ∧ wx.cell? ⟨w.heap.size, 12, none⟩ = some (.slice ab s.bs.length cb)) ∧ wx.cell? (xm.add s.nx) = some (.string T))) (by kernel_rfl) hS (fun hHeld => ?_)
  obtain ⟨wd, hwd⟩ : ∃ wd, wd = w0.drew := ⟨_, rfl⟩
  rw [← hwd] at hM hS ⊢
  replace hN : w.heap.size + 2 = wd.heap.size := by rw [hwd]; exact hN
  clear hwd
  have k11 : wd.cell? ⟨w.heap.size, 11, none⟩ = some (.slice at_ s.ts.length ct) := hM.bk.cell rfl
  refine tkH 1 ?_ rfl (Or.inl ⟨by rfl, ?_⟩) ?_; rotate_left
  ·intro wq hSw; (try dsimp only at hSw); (try simp only [gT, gS, gZ]); go_simp; (try with_reducible rfl)
  simp only [Act.put, gT, gS, gZ, sT, sZ, sS]
  refine tkH 4 ?_ rfl (Or.inl ⟨by rfl, ?_⟩) ?_; rotate_left
  ·intro wq hSw; (try dsimp only at hSw); (try simp only [gT, gS, gZ]); go_simp; (try with_reducible rfl)
  simp only [Act.put, gT, gS, gZ, sT, sZ, sS]
  refine tkH 5 ?_ rfl (Or.inl ⟨by rfl, ?_⟩) ?_; rotate_left
  ·intro wq hSw; (try dsimp only at hSw); (try simp only [gT, gS, gZ]); go_simp; (try with_reducible rfl)
  simp only [Act.put, gT, gS, gZ, sT, sZ, sS]
  refine tkH 6 ?_ rfl (Or.inl ⟨by rfl, ?_⟩) ?_; rotate_left
  ·intro wq hSw; (try dsimp only at hSw); (try simp only [gT, gS, gZ]); go_simp; (try with_reducible rfl)
  simp only [Act.put, gT, gS, gZ, sT, sZ, sS]
  refine tkH 7 ?_ rfl (Or.inl ⟨by rfl, ?_⟩) ?_; rotate_left
  ·intro wq hSw; (try dsimp only at hSw); (try simp only [gT, gS, gZ]); go_simp; (try with_reducible rfl)
  simp only [Act.put, gT, gS, gZ, sT, sZ, sS]
  refine tkH 9 ?_ rfl (Or.inl ⟨by rfl, ?_⟩) ?_; rotate_left
  ·intro wq hSw; (try dsimp only at hSw); (try simp only [gT, gS, gZ]); go_simp; (try with_reducible rfl)
  simp only [Act.put, gT, gS, gZ, sT, sZ, sS]
  refine tkH 10 ?_ rfl (Or.inl ⟨by rfl, ?_⟩) ?_; rotate_left
  ·intro wq hSw; (try dsimp only at hSw); (try simp only [gT, gS, gZ]); go_simp; (try with_reducible rfl)
  simp only [Act.put, gT, gS, gZ, sT, sZ, sS]
  refine tkH 11 ?_ rfl (Or.inl ⟨by rfl, ?_⟩) ?_; rotate_left
  ·intro wq hSw; (try dsimp only at hSw); (try simp only [gT, gS, gZ]); go_simp; (try with_reducible rfl)
  simp only [Act.put, gT, gS, gZ, sT, sZ, sS]
  refine tkH 12 ?_ rfl (Or.inl ⟨by rfl, ?_⟩) ?_; rotate_left
  ·intro wq hSw; (try dsimp only at hSw); (try simp only [gT, gS, gZ]); go_simp; (try with_reducible rfl)
  simp only [Act.put, gT, gS, gZ, sT, sZ, sS]
  refine tkH 13 ?_ rfl (Or.inl ⟨by rfl, ?_⟩) ?_; rotate_left
  ·intro wq hSw; (try dsimp only at hSw); (try simp only [gT, gS, gZ]); go_simp; (try with_reducible rfl)
  simp only [Act.put, gT, gS, gZ, sT, sZ, sS]
  refine tkH 14 ?_ rfl (Or.inl ⟨by rfl, ?_⟩) ?_; rotate_left
  ·intro wq hSw; (try dsimp only at hSw); (try simp only [gT, gS, gZ]); go_simp; (try with_reducible rfl)
  simp only [Act.put, gT, gS, gZ, sT, sZ, sS]
  have hM17 := hM.below ((Below.refl _ _).alloc (Nat.le_refl _) (.cells #[] 9))
  have hS17 := HMS.out _ hM17
  have hO17 : OS (wd.alloc (.cells #[] 9)) w.heap.size (.slice (some ⟨wd.heap.size, 0, none⟩) 0 0) [] := OS_made wd rfl (by omega)
  have k11a : (wd.alloc (.cells #[] 9)).cell? ⟨w.heap.size, 11, none⟩ = some (.slice at_ s.ts.length ct) := hM17.bk.cell rfl
  refine wpAnyH_ready (rs := [0, 2]) (by kernel_rfl) (by simp) ?_
  refine AllReadyH.cons rfl ?_ (AllReadyH.cons rfl ?_ AllReadyH.nil)
  ·intro K hK
   (try simp only [gT, gZ])
   go_simp
   refine hK.out _ _ hS17 (fun hHeld => ?_)
   clear hK K
   have hS := hS17
   refine wpAnyH_ready (rs := [2]) (by kernel_rfl) (by simp) ?_
   refine AllReadyH.cons rfl (fun K hK => ?_) AllReadyH.nil
   (try simp only [gT, gS, gZ])
   skip
   go_simp
   skip
   refine hK.out _ _ hS (fun hHeld => ?_)
   clear hK K
   have hM := hM17
   have hRts := (HRd.out.below hM.bl)
   refine wpAnyH_ready (rs := [3]) (by kernel_rfl) (by simp) ?_
   refine AllReadyH.cons rfl (fun K hK => ?_) AllReadyH.nil
   (try simp only [gT, gS, gZ])
   rw [if_pos (by rfl)]
   refine opwp_append_os _ _ 25 rfl w.heap.size i0 Tryz.underlying25 HI.out HZ0.out HZ1.out HZ2.out _ [] rfl hO17 _ _ s.ts rfl hRts (by simp; omega) (by simp; omega) ?_
   intro u w3 hown hg3
   rw [List.nil_append] at hown
   have hM := hM.grown hO17 hg3
   have hS := HMS.out _ hM
   obtain ⟨A20, C20, hsh⟩ := hown.reads.shape
   subst hsh
   clear hg3
   refine hK.out _ _ hS (fun hHeld => ?_)
   clear hK K
   simp only [Act.put, sT, sZ, sS]
   refine wpAnyH_ready (rs := [8]) (by kernel_rfl) (by simp) ?_
   refine AllReadyH.cons rfl (fun K hK => ?_) AllReadyH.nil
   (try simp only [gT, gS, gZ])
   go_simp
   go_at_call 83
   refine (l8Bit_any s.nx _ (by omega)).mono ?_
   rintro e w4 ⟨rfl, hb4⟩
   have hM := hM.below hb4
   have hS := HMS.out _ hM
   have hown := hown.below hb4
   clear hb4
   refine hK.out _ _ hS (fun hHeld => ?_)
   clear hK K
   refine tkH 15 ?_ rfl (Or.inl ⟨by rfl, ?_⟩) ?_; rotate_left
   ·intro wq hSw; (try dsimp only at hSw); (try simp only [gT, gS, gZ]); go_simp; rw [if_neg (by omega)]; (try with_reducible rfl)
   simp only [Act.put, gT, gS, gZ, sT, sZ, sS]
   refine wpAnyH_ready (rs := [16]) (by kernel_rfl) (by simp) ?_
   refine AllReadyH.cons rfl (fun K hK => ?_) AllReadyH.nil
   (try simp only [gT, gS, gZ])
   go_simp
   go_at_call 84
   refine (HLS.out _ _ (by rw [ByteArray.size_append]; show 1 + T.size ≤ _; omega)).mono ?_
   rintro e w5 ⟨rfl, hb5⟩
   have hM := hM.below hb5
   have hS := HMS.out _ hM
   have hown := hown.below hb5
   clear hb5
   refine hK.out _ _ hS (fun hHeld => ?_)
   clear hK K
   obtain ⟨X, hX⟩ : ∃ X : ByteArray, X = ⟨(sendL ⟨s.c.codec, s.c.sum, s.c.most, s.c.map⟩ ((⟨#[parB s.nx]⟩ : ByteArray) ++ T).data.toList).toArray⟩ := ⟨_, rfl⟩
   have HXE := Lib.hid (show X = bzL (sendA s.c (parB s.nx :: T.data.toList)) by
    rw [wSendA_yes (by unfold sendOk; rw [hcf]; simp; omega), hX]
    show bzL _ = bzL _
    congr 2)
   simp only [← hX]
   clear hX
   have hA := RS_one w5 X
   have hM := hM.below ((Below.refl _ _).alloc (Nat.le_refl _) (.cells #[.string X] 9))
   have hS := HMS.out _ hM
   have hown := hown.alloc (.cells #[.string X] 9)
   refine wpAnyH_ready (rs := [17]) (by kernel_rfl) (by simp) ?_
   refine AllReadyH.cons rfl (fun K hK => ?_) AllReadyH.nil
   (try simp only [gT, gS, gZ])
   skip
   go_simp
   skip
   refine hK.out _ _ hS (fun hHeld => ?_)
   clear hK K
   have hln : (s.ts ++ [X]).length = s.ts.length + 1 := by simp
   refine wpAnyH_ready (rs := [18]) (by kernel_rfl) (by simp) ?_
   refine AllReadyH.cons rfl (fun K hK => ?_) AllReadyH.nil
   (try simp only [gT, gS, gZ])
   rw [if_pos (by rfl)]
   refine opwp_append_os _ _ 25 rfl w.heap.size i0 Tryz.underlying25 HI.out HZ0.out HZ1.out HZ2.out _ s.ts rfl hown _ _ [X] rfl hA (by simp; omega) (Nat.le_of_lt hM.bk.lt) ?_
   intro u w7 hown7 hg7
   have hM := hM.grown hown hg7
   have hS := HMS.out _ hM
   obtain ⟨A35, C35, hsh⟩ := hown7.reads.shape
   rw [hln] at hsh
   subst hsh
   clear hg7
   refine hK.out _ _ hS (fun hHeld => ?_)
   clear hK K
   simp only [Act.put, sT, sZ, sS]
   refine tkH 19 ?_ rfl (Or.inl ⟨by rfl, ?_⟩) ?_; rotate_left
   ·intro wq hSw; (try dsimp only at hSw); (try simp only [gT, gS, gZ]); go_simp; (try with_reducible rfl)
   simp only [Act.put, gT, gS, gZ, sT, sZ, sS]
   have k11b : w7.cell? ⟨w.heap.size, 11, none⟩ = some (.slice at_ s.ts.length ct) := hM.bk.cell rfl
   have f11b := hM.bk.free 11
   have hO8 := os_set hown7 (own_ne hM.bk line_str hown7) (i := 11) (.slice A35 (s.ts.length + 1) C35)
   have hM8 := hM.set (i := 11) (.slice A35 (s.ts.length + 1) C35)
   have hS := (show ((w7.setCell ⟨w.heap.size, 11, none⟩ (.slice A35 (s.ts.length + 1) C35)).cell? ⟨w.heap.size, 0, none⟩ = some (.int .i64 s.c.codec) ∧ (w7.setCell ⟨w.heap.size, 11, none⟩ (.slice A35 (s.ts.length + 1) C35)).cell? ⟨w.heap.size, 1, none⟩ = some (.int .i64 s.c.sum) ∧ (w7.setCell ⟨w.heap.size, 11, none⟩ (.slice A35 (s.ts.length + 1) C35)).cell? ⟨w.heap.size, 2, none⟩ = some (.int .i64 s.c.most) ∧ (w7.setCell ⟨w.heap.size, 11, none⟩ (.slice A35 (s.ts.length + 1) C35)).cell? ⟨w.heap.size, 3, none⟩ = some (.int .i64 s.c.map) ∧ (w7.setCell ⟨w.heap.size, 11, none⟩ (.slice A35 (s.ts.length + 1) C35)).cell? ⟨w.heap.size, 4, none⟩ = some (.slice (some xm) s.ms.length cm) ∧ (w7.setCell ⟨w.heap.size, 11, none⟩ (.slice A35 (s.ts.length + 1) C35)).cell? ⟨w.heap.size, 5, none⟩ = some (.int .i64 (s.nx : Int)) ∧ (w7.setCell ⟨w.heap.size, 11, none⟩ (.slice A35 (s.ts.length + 1) C35)).cell? ⟨w.heap.size, 6, none⟩ = some (.slice ag s.gs.length cg) ∧ (w7.setCell ⟨w.heap.size, 11, none⟩ (.slice A35 (s.ts.length + 1) C35)).cell? ⟨w.heap.size, 7, none⟩ = some (.string (bzL s.f.held)) ∧ (w7.setCell ⟨w.heap.size, 11, none⟩ (.slice A35 (s.ts.length + 1) C35)).cell? ⟨w.heap.size, 8, none⟩ = some (.bool s.f.over) ∧ (w7.setCell ⟨w.heap.size, 11, none⟩ (.slice A35 (s.ts.length + 1) C35)).cell? ⟨w.heap.size, 9, none⟩ = some (.string (bzL s.h.held)) ∧ (w7.setCell ⟨w.heap.size, 11, none⟩ (.slice A35 (s.ts.length + 1) C35)).cell? ⟨w.heap.size, 10, none⟩ = some (.bool s.h.over) ∧ (w7.setCell ⟨w.heap.size, 11, none⟩ (.slice A35 (s.ts.length + 1) C35)).cell? ⟨w.heap.size, 12, none⟩ = some (.slice ab s.bs.length cb)) ∧ (w7.setCell ⟨w.heap.size, 11, none⟩ (.slice A35 (s.ts.length + 1) C35)).cell? (xm.add s.nx) = some (.string T) from ⟨⟨hM8.bk.cell rfl, hM8.bk.cell rfl, hM8.bk.cell rfl, hM8.bk.cell rfl, hM8.bk.cell rfl, hM8.bk.cell rfl, hM8.bk.cell rfl, hM8.bk.cell rfl, hM8.bk.cell rfl, hM8.bk.cell rfl, hM8.bk.cell rfl, hM8.bk.cell rfl⟩, (hM8.bl.cell (by rw [add_block]; exact hxm)).trans HD0.out⟩)
   refine wpAnyH_ready (rs := [20]) (by kernel_rfl) (by simp) ?_
   refine AllReadyH.cons rfl (fun K hK => ?_) AllReadyH.nil
   (try simp only [gT, gS, gZ])
   skip
   go_simp
   skip
   refine hK.out _ _ hS (fun hHeld => ?_)
   clear hK K
   refine wpAnyH_done (by kernel_rfl) ?_ _
   obtain ⟨w8, hw8⟩ : ∃ w8, w8 = w7.setCell ⟨w.heap.size, 11, none⟩ (.slice A35 (s.ts.length + 1) C35) := ⟨_, rfl⟩
   rw [← hw8] at hO8 hM8 ⊢
   have hk8 : BK w8 w.heap.size #[.int .i64 s.c.codec, .int .i64 s.c.sum, .int .i64 s.c.most, .int .i64 s.c.map, .slice (some xm) s.ms.length cm, .int .i64 (s.nx : Int), .slice ag s.gs.length cg, .string (bzL s.f.held), .bool s.f.over, .string (bzL s.h.held), .bool s.h.over, .slice A35 (s.ts.length + 1) C35, .slice ab s.bs.length cb] 32 := hM8.bk
   obtain ⟨c0, c1, c2, c3, c4, c5, c6, c7, c8, c9, c10, c11, c12⟩ := cells13 hk8
   obtain ⟨z0, z1, z2, z3, z4, z5, z6, z7, z8, z9, z10, z11, z12⟩ := cells13 hM8.bq
   obtain ⟨f0, f1, f2, f3, f4, f5, f6, f7, f8, f9, f10, f11, f12⟩ := free13 hM8.bq
   have HO8 := Lib.hid hO8
   have HM8 := Lib.hid hM8
   clear hS hw8 hO8 hM8 hk8 k11b f11b hown7 hM hown hA
   go_wp2
   have hq := set13_bk (v0 := .int .i64 s.c.codec) (v1 := .int .i64 s.c.sum) (v2 := .int .i64 s.c.most) (v3 := .int .i64 s.c.map) (v4 := .slice (some xm) s.ms.length cm) (v5 := .int .i64 (s.nx : Int)) (v6 := .slice ag s.gs.length cg) (v7 := .string (bzL s.f.held)) (v8 := .bool s.f.over) (v9 := .string (bzL s.h.held)) (v10 := .bool s.h.over) (v11 := .slice A35 (s.ts.length + 1) C35) (v12 := .slice ab s.bs.length cb) HM8.out.bq rfl
   rw [HE.out, ← HXE.out]
   exact line_ret2 Tryz.results55 hq rfl rfl rfl ⟨_, _, _, _, _, rfl, ⟨set13_own (OS.under HOm.out HLm.out HM8.out.bl) (own_ne HM8.out.bq line_str (OS.under HOm.out HLm.out HM8.out.bl)), set13_own (OS.under HOg.out HLg.out HM8.out.bl) (own_ne HM8.out.bq line_str (OS.under HOg.out HLg.out HM8.out.bl)), (set13_own HO8.out (own_ne HM8.out.bq line_str HO8.out)).mono hbs, set13_own (OS.under HOb.out HLb.out HM8.out.bl) (own_ne HM8.out.bq line_str (OS.under HOb.out HLb.out HM8.out.bl))⟩, set13_below (HB.out.trans HM8.out.bl) (by omega)⟩
  ·intro K hK
   (try simp only [gT, gS, gZ])
   go_simp
   refine hK.out _ _ hS (fun hHeld => ?_)
   clear hK K
   have hS := hS17
   refine wpAnyH_ready (rs := [0]) (by kernel_rfl) (by simp) ?_
   refine AllReadyH.cons rfl (fun K hK => ?_) AllReadyH.nil
   (try simp only [gT, gZ])
   skip
   go_simp
   skip
   refine hK.out _ _ hS (fun hHeld => ?_)
   clear hK K
   have hM := hM17
   have hRts := (HRd.out.below hM.bl)
   refine wpAnyH_ready (rs := [3]) (by kernel_rfl) (by simp) ?_
   refine AllReadyH.cons rfl (fun K hK => ?_) AllReadyH.nil
   (try simp only [gT, gS, gZ])
   rw [if_pos (by rfl)]
   refine opwp_append_os _ _ 25 rfl w.heap.size i0 Tryz.underlying25 HI.out HZ0.out HZ1.out HZ2.out _ [] rfl hO17 _ _ s.ts rfl hRts (by simp; omega) (by simp; omega) ?_
   intro u w3 hown hg3
   rw [List.nil_append] at hown
   have hM := hM.grown hO17 hg3
   have hS := HMS.out _ hM
   obtain ⟨A20, C20, hsh⟩ := hown.reads.shape
   subst hsh
   clear hg3
   refine hK.out _ _ hS (fun hHeld => ?_)
   clear hK K
   simp only [Act.put, sT, sZ, sS]
   refine wpAnyH_ready (rs := [8]) (by kernel_rfl) (by simp) ?_
   refine AllReadyH.cons rfl (fun K hK => ?_) AllReadyH.nil
   (try simp only [gT, gS, gZ])
   go_simp
   go_at_call 83
   refine (l8Bit_any s.nx _ (by omega)).mono ?_
   rintro e w4 ⟨rfl, hb4⟩
   have hM := hM.below hb4
   have hS := HMS.out _ hM
   have hown := hown.below hb4
   clear hb4
   refine hK.out _ _ hS (fun hHeld => ?_)
   clear hK K
   refine tkH 15 ?_ rfl (Or.inl ⟨by rfl, ?_⟩) ?_; rotate_left
   ·intro wq hSw; (try dsimp only at hSw); (try simp only [gT, gS, gZ]); go_simp; rw [if_neg (by omega)]; (try with_reducible rfl)
   simp only [Act.put, gT, gS, gZ, sT, sZ, sS]
   refine wpAnyH_ready (rs := [16]) (by kernel_rfl) (by simp) ?_
   refine AllReadyH.cons rfl (fun K hK => ?_) AllReadyH.nil
   (try simp only [gT, gS, gZ])
   go_simp
   go_at_call 84
   refine (HLS.out _ _ (by rw [ByteArray.size_append]; show 1 + T.size ≤ _; omega)).mono ?_
   rintro e w5 ⟨rfl, hb5⟩
   have hM := hM.below hb5
   have hS := HMS.out _ hM
   have hown := hown.below hb5
   clear hb5
   refine hK.out _ _ hS (fun hHeld => ?_)
   clear hK K
   obtain ⟨X, hX⟩ : ∃ X : ByteArray, X = ⟨(sendL ⟨s.c.codec, s.c.sum, s.c.most, s.c.map⟩ ((⟨#[parB s.nx]⟩ : ByteArray) ++ T).data.toList).toArray⟩ := ⟨_, rfl⟩
   have HXE := Lib.hid (show X = bzL (sendA s.c (parB s.nx :: T.data.toList)) by
    rw [wSendA_yes (by unfold sendOk; rw [hcf]; simp; omega), hX]
    show bzL _ = bzL _
    congr 2)
   simp only [← hX]
   clear hX
   have hA := RS_one w5 X
   have hM := hM.below ((Below.refl _ _).alloc (Nat.le_refl _) (.cells #[.string X] 9))
   have hS := HMS.out _ hM
   have hown := hown.alloc (.cells #[.string X] 9)
   refine wpAnyH_ready (rs := [17]) (by kernel_rfl) (by simp) ?_
   refine AllReadyH.cons rfl (fun K hK => ?_) AllReadyH.nil
   (try simp only [gT, gS, gZ])
   skip
   go_simp
   skip
   refine hK.out _ _ hS (fun hHeld => ?_)
   clear hK K
   have hln : (s.ts ++ [X]).length = s.ts.length + 1 := by simp
   refine wpAnyH_ready (rs := [18]) (by kernel_rfl) (by simp) ?_
   refine AllReadyH.cons rfl (fun K hK => ?_) AllReadyH.nil
   (try simp only [gT, gS, gZ])
   rw [if_pos (by rfl)]
   refine opwp_append_os _ _ 25 rfl w.heap.size i0 Tryz.underlying25 HI.out HZ0.out HZ1.out HZ2.out _ s.ts rfl hown _ _ [X] rfl hA (by simp; omega) (Nat.le_of_lt hM.bk.lt) ?_
   intro u w7 hown7 hg7
   have hM := hM.grown hown hg7
   have hS := HMS.out _ hM
   obtain ⟨A35, C35, hsh⟩ := hown7.reads.shape
   rw [hln] at hsh
   subst hsh
   clear hg7
   refine hK.out _ _ hS (fun hHeld => ?_)
   clear hK K
   simp only [Act.put, sT, sZ, sS]
   refine tkH 19 ?_ rfl (Or.inl ⟨by rfl, ?_⟩) ?_; rotate_left
   ·intro wq hSw; (try dsimp only at hSw); (try simp only [gT, gS, gZ]); go_simp; (try with_reducible rfl)
   simp only [Act.put, gT, gS, gZ, sT, sZ, sS]
   have k11b : w7.cell? ⟨w.heap.size, 11, none⟩ = some (.slice at_ s.ts.length ct) := hM.bk.cell rfl
   have f11b := hM.bk.free 11
   have hO8 := os_set hown7 (own_ne hM.bk line_str hown7) (i := 11) (.slice A35 (s.ts.length + 1) C35)
   have hM8 := hM.set (i := 11) (.slice A35 (s.ts.length + 1) C35)
   have hS := (show ((w7.setCell ⟨w.heap.size, 11, none⟩ (.slice A35 (s.ts.length + 1) C35)).cell? ⟨w.heap.size, 0, none⟩ = some (.int .i64 s.c.codec) ∧ (w7.setCell ⟨w.heap.size, 11, none⟩ (.slice A35 (s.ts.length + 1) C35)).cell? ⟨w.heap.size, 1, none⟩ = some (.int .i64 s.c.sum) ∧ (w7.setCell ⟨w.heap.size, 11, none⟩ (.slice A35 (s.ts.length + 1) C35)).cell? ⟨w.heap.size, 2, none⟩ = some (.int .i64 s.c.most) ∧ (w7.setCell ⟨w.heap.size, 11, none⟩ (.slice A35 (s.ts.length + 1) C35)).cell? ⟨w.heap.size, 3, none⟩ = some (.int .i64 s.c.map) ∧ (w7.setCell ⟨w.heap.size, 11, none⟩ (.slice A35 (s.ts.length + 1) C35)).cell? ⟨w.heap.size, 4, none⟩ = some (.slice (some xm) s.ms.length cm) ∧ (w7.setCell ⟨w.heap.size, 11, none⟩ (.slice A35 (s.ts.length + 1) C35)).cell? ⟨w.heap.size, 5, none⟩ = some (.int .i64 (s.nx : Int)) ∧ (w7.setCell ⟨w.heap.size, 11, none⟩ (.slice A35 (s.ts.length + 1) C35)).cell? ⟨w.heap.size, 6, none⟩ = some (.slice ag s.gs.length cg) ∧ (w7.setCell ⟨w.heap.size, 11, none⟩ (.slice A35 (s.ts.length + 1) C35)).cell? ⟨w.heap.size, 7, none⟩ = some (.string (bzL s.f.held)) ∧ (w7.setCell ⟨w.heap.size, 11, none⟩ (.slice A35 (s.ts.length + 1) C35)).cell? ⟨w.heap.size, 8, none⟩ = some (.bool s.f.over) ∧ (w7.setCell ⟨w.heap.size, 11, none⟩ (.slice A35 (s.ts.length + 1) C35)).cell? ⟨w.heap.size, 9, none⟩ = some (.string (bzL s.h.held)) ∧ (w7.setCell ⟨w.heap.size, 11, none⟩ (.slice A35 (s.ts.length + 1) C35)).cell? ⟨w.heap.size, 10, none⟩ = some (.bool s.h.over) ∧ (w7.setCell ⟨w.heap.size, 11, none⟩ (.slice A35 (s.ts.length + 1) C35)).cell? ⟨w.heap.size, 12, none⟩ = some (.slice ab s.bs.length cb)) ∧ (w7.setCell ⟨w.heap.size, 11, none⟩ (.slice A35 (s.ts.length + 1) C35)).cell? (xm.add s.nx) = some (.string T) from ⟨⟨hM8.bk.cell rfl, hM8.bk.cell rfl, hM8.bk.cell rfl, hM8.bk.cell rfl, hM8.bk.cell rfl, hM8.bk.cell rfl, hM8.bk.cell rfl, hM8.bk.cell rfl, hM8.bk.cell rfl, hM8.bk.cell rfl, hM8.bk.cell rfl, hM8.bk.cell rfl⟩, (hM8.bl.cell (by rw [add_block]; exact hxm)).trans HD0.out⟩)
   refine wpAnyH_ready (rs := [20]) (by kernel_rfl) (by simp) ?_
   refine AllReadyH.cons rfl (fun K hK => ?_) AllReadyH.nil
   (try simp only [gT, gS, gZ])
   skip
   go_simp
   skip
   refine hK.out _ _ hS (fun hHeld => ?_)
   clear hK K
   refine wpAnyH_done (by kernel_rfl) ?_ _
   obtain ⟨w8, hw8⟩ : ∃ w8, w8 = w7.setCell ⟨w.heap.size, 11, none⟩ (.slice A35 (s.ts.length + 1) C35) := ⟨_, rfl⟩
   rw [← hw8] at hO8 hM8 ⊢
   have hk8 : BK w8 w.heap.size #[.int .i64 s.c.codec, .int .i64 s.c.sum, .int .i64 s.c.most, .int .i64 s.c.map, .slice (some xm) s.ms.length cm, .int .i64 (s.nx : Int), .slice ag s.gs.length cg, .string (bzL s.f.held), .bool s.f.over, .string (bzL s.h.held), .bool s.h.over, .slice A35 (s.ts.length + 1) C35, .slice ab s.bs.length cb] 32 := hM8.bk
   obtain ⟨c0, c1, c2, c3, c4, c5, c6, c7, c8, c9, c10, c11, c12⟩ := cells13 hk8
   obtain ⟨z0, z1, z2, z3, z4, z5, z6, z7, z8, z9, z10, z11, z12⟩ := cells13 hM8.bq
   obtain ⟨f0, f1, f2, f3, f4, f5, f6, f7, f8, f9, f10, f11, f12⟩ := free13 hM8.bq
   have HO8 := Lib.hid hO8
   have HM8 := Lib.hid hM8
   clear hS hw8 hO8 hM8 hk8 k11b f11b hown7 hM hown hA
   go_wp2
   have hq := set13_bk (v0 := .int .i64 s.c.codec) (v1 := .int .i64 s.c.sum) (v2 := .int .i64 s.c.most) (v3 := .int .i64 s.c.map) (v4 := .slice (some xm) s.ms.length cm) (v5 := .int .i64 (s.nx : Int)) (v6 := .slice ag s.gs.length cg) (v7 := .string (bzL s.f.held)) (v8 := .bool s.f.over) (v9 := .string (bzL s.h.held)) (v10 := .bool s.h.over) (v11 := .slice A35 (s.ts.length + 1) C35) (v12 := .slice ab s.bs.length cb) HM8.out.bq rfl
   rw [HE.out, ← HXE.out]
   exact line_ret2 Tryz.results55 hq rfl rfl rfl ⟨_, _, _, _, _, rfl, ⟨set13_own (OS.under HOm.out HLm.out HM8.out.bl) (own_ne HM8.out.bq line_str (OS.under HOm.out HLm.out HM8.out.bl)), set13_own (OS.under HOg.out HLg.out HM8.out.bl) (own_ne HM8.out.bq line_str (OS.under HOg.out HLg.out HM8.out.bl)), (set13_own HO8.out (own_ne HM8.out.bq line_str HO8.out)).mono hbs, set13_own (OS.under HOb.out HLb.out HM8.out.bl) (own_ne HM8.out.bq line_str (OS.under HOb.out HLb.out HM8.out.bl))⟩, set13_below (HB.out.trans HM8.out.bl) (by omega)⟩
 ·have HE := Lib.hid (Ls.sendP_no hc)
  have hno : (s.nx < s.ms.length ∧ 5 ≤ s.ts.length) ∨ s.ms.length ≤ s.nx := by omega
  clear hc
  have hN : w.heap.size + 2 = w0.heap.size := by rw [HW.out]; simp
  have hqF := BK.new (w.alloc (.cells #[.int .i64 s.c.codec, .int .i64 s.c.sum, .int .i64 s.c.most, .int .i64 s.c.map, .slice am s.ms.length cm, .int .i64 (s.nx : Int), .slice ag s.gs.length cg, .string (bzL s.f.held), .bool s.f.over, .string (bzL s.h.held), .bool s.h.over, .slice at_ s.ts.length ct, .slice ab s.bs.length cb] 32)) #[.int .i64 s.c.codec, .int .i64 s.c.sum, .int .i64 s.c.most, .int .i64 s.c.map, .slice am s.ms.length cm, .int .i64 (s.nx : Int), .slice ag s.gs.length cg, .string (bzL s.f.held), .bool s.f.over, .string (bzL s.h.held), .bool s.h.over, .slice at_ s.ts.length ct, .slice ab s.bs.length cb] 32
  rw [World.size_alloc] at hqF
  have hbF := ((Below.refl w.heap.size w).alloc (Nat.le_refl _) (.cells #[.int .i64 s.c.codec, .int .i64 s.c.sum, .int .i64 s.c.most, .int .i64 s.c.map, .slice am s.ms.length cm, .int .i64 (s.nx : Int), .slice ag s.gs.length cg, .string (bzL s.f.held), .bool s.f.over, .string (bzL s.h.held), .bool s.h.over, .slice at_ s.ts.length ct, .slice ab s.bs.length cb] 32)).alloc (by simp) (.cells #[.int .i64 s.c.codec, .int .i64 s.c.sum, .int .i64 s.c.most, .int .i64 s.c.map, .slice am s.ms.length cm, .int .i64 (s.nx : Int), .slice ag s.gs.length cg, .string (bzL s.f.held), .bool s.f.over, .string (bzL s.h.held), .bool s.h.over, .slice at_ s.ts.length ct, .slice ab s.bs.length cb] 32)
  have HRF := Lib.hid (HH0.out.below hbF)
  have HQF := Lib.hid hqF
  have HBF := Lib.hid hbF
  clear hqF hbF
  rcases hno with ⟨h1, h2⟩ | h1
  all_goals
   go_enter Tryz.func55, Tryz.ntmps55
   go_wp2
   rw [HE.out]
   exact line_ret2 Tryz.results55 HQF.out rfl rfl rfl ⟨_, _, _, _, _, rfl, HRF.out, HBF.out⟩
theorem l8Send_any (s : Ls) (hs : s.Ok) (vm vb vg vt : Value) (w : World) (h0 : OL w 0 vm s.ms vg s.gs vt s.ts vb s.bs) :
  Calls Tryz.prog 55 #[lsV s vm vb vg vt] w (SPost w s.sendP) := l8Send_anyB s hs vm vb vg vt w h0 (Nat.zero_le _)
end Go.Proofs.YtmggoiabcboaiaaGreat
