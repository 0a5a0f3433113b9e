/- FnLineNew: on a new line nothing came. For every code (the law draws a configuration and messages from it). No condition. -/
import Derived.Test.YtdnedoafgfpnfaaDrawLn
import Derived.Test.YtdnedoafgfpnfaaLnH
namespace Go.Proofs.Ytdnedoafgfpnfaa.fnLineNew
open Go.ChangeShapes Go.WideShapes Go.ChangeAt Go.RowKit
set_option linter.unusedVariables false
theorem wf_codec {a : Int} (h : -1 ≤ a ∧ a ≤ 4) : (Lit.int .i64 a).wf = true := by
  simp [Lit.wf, IntKind.min, IntKind.max, IntKind.signed, IntKind.bits]
  omega
set_option maxRecDepth 100000 in
set_option maxHeartbeats 8000000 in
theorem walk (a0 : Option Addr) (len0 cap0 : Nat) (z0 : List Int) (w : World) (w0 : IsRow .u8 w a0 len0 cap0 z0) :
    Calls Try.prog 3 #[.slice a0 len0 cap0] w fun e w' => e = .returned (.bool true) ∧ Below w.heap.size w w' := by
  by_cases hbig : 1048576 < len0
  · go_enter Try.func3, Try.ntmps3
    go_wp2
    go_ret
    exact ⟨rfl, Below.refl _ _⟩
  have HH := Lib.hid w0
  have hzl := zero_line
  have hzc := zero_conf
  clear w0
  go_enter Try.func3, Try.ntmps3
  go_wp2_with fail
  refine (drawLineNew_any a0 len0 cap0 z0 HH.out).mono ?_
  rintro e x1 ⟨a, b, d, m, v, ms, rfl, hsm, ho1, hl, hzs, hb1⟩
  have wa := wf_codec hsm.1
  have hk := BK.new x1 #[.int .i64 a, .int .i64 b, .int .i64 d, .int .i64 m] 24
  obtain ⟨c0, c1, c2, c3⟩ := cells4 hk
  have HK := Lib.hid hk
  obtain ⟨Av, capv, hsh⟩ := ho1.reads.shape
  subst hsh
  have HO := Lib.hid (ho1.alloc (.cells #[.int .i64 a, .int .i64 b, .int .i64 d, .int .i64 m] 24))
  have HB := Lib.hid (hb1.alloc hb1.size (.cells #[.int .i64 a, .int .i64 b, .int .i64 d, .int .i64 m] 24))
  have HZS := Lib.hid (show ∀ s ∈ ms, s.size ≤ 1048576 from fun s hs => by have := hzs s hs; omega)
  obtain ⟨gc, hgc⟩ : ∃ gc, x1.heap.size = gc := ⟨_, rfl⟩
  rw [hgc] at HK c0 c1 c2 c3
  clear hk ho1 hb1 hzs
  cases hn : newB ⟨a, b, d, m⟩ ms with
  | true =>
    have HN := Lib.hid hn
    have ha0 : (a == 0) = false := by
      simp only [newB, Bool.and_eq_true] at hn
      have h1 := (confB_yes hn.1).1
      simp only at h1
      exact beq_eq_false_iff_ne.2 (by omega)
    clear hn
    go_wp2_with fail
    refine (implLineNew_any a b d m _ ms _ _ HO.out.reads (Nat.le_refl _) wa (by omega) HZS.out).mono ?_
    rintro e x3 (⟨_, u, rfl, ho3, hbx⟩ | ⟨hno, _⟩)
    rotate_left
    · rw [HN.out] at hno; cases hno
    obtain ⟨Au, capu, hsh⟩ := ho3.reads.shape
    subst hsh
    have HK := Lib.hid ((HK.out.from hbx).alloc (.cells #[.int .i64 a, .int .i64 b, .int .i64 d, .int .i64 m, .slice Au ms.length capu, .int .i64 0, .slice none 0 0, .string ⟨#[]⟩, .bool false, .string ⟨#[]⟩, .bool false, .slice none 0 0, .slice none 0 0] 31))
    have hj := BK.new x3 #[.int .i64 a, .int .i64 b, .int .i64 d, .int .i64 m, .slice Au ms.length capu, .int .i64 0, .slice none 0 0, .string ⟨#[]⟩, .bool false, .string ⟨#[]⟩, .bool false, .slice none 0 0, .slice none 0 0] 31
    have HO := Lib.hid ((HO.out.below hbx).alloc (.cells #[.int .i64 a, .int .i64 b, .int .i64 d, .int .i64 m, .slice Au ms.length capu, .int .i64 0, .slice none 0 0, .string ⟨#[]⟩, .bool false, .string ⟨#[]⟩, .bool false, .slice none 0 0, .slice none 0 0] 31))
    have HU := Lib.hid (ho3.alloc (.cells #[.int .i64 a, .int .i64 b, .int .i64 d, .int .i64 m, .slice Au ms.length capu, .int .i64 0, .slice none 0 0, .string ⟨#[]⟩, .bool false, .string ⟨#[]⟩, .bool false, .slice none 0 0, .slice none 0 0] 31))
    have HB := Lib.hid ((HB.out.trans (hbx.mono HB.out.size)).alloc (Nat.le_trans HB.out.size hbx.size) (.cells #[.int .i64 a, .int .i64 b, .int .i64 d, .int .i64 m, .slice Au ms.length capu, .int .i64 0, .slice none 0 0, .string ⟨#[]⟩, .bool false, .string ⟨#[]⟩, .bool false, .slice none 0 0, .slice none 0 0] 31))
    have HJ := Lib.hid hj
    obtain ⟨e0, e1, e2, e3, e4, e5, e6, e7, e8, e9, e10, e11, e12⟩ := cells13 hj
    clear hj ho3 hbx
    go_wp2_with fail
    obtain ⟨gl, hgl⟩ : ∃ gl, x3.heap.size = gl := ⟨_, rfl⟩
    rw [hgl] at HJ
    have hKb := HK.out.drew
    have hJb := HJ.out.drew
    have hOb := HO.out.drew
    have hUb := HU.out.drew
    have hBb := HB.out.drew
    have hS := And.intro (cells4 hKb) (cells13 hJb)
    try rw [hgl]
    refine wp_region_held_drew (S := (fun wx => (wx.cell? ⟨gc, 0, none⟩ = some (.int .i64 a) ∧ wx.cell? ⟨gc, 1, none⟩ = some (.int .i64 b) ∧ wx.cell? ⟨gc, 2, none⟩ = some (.int .i64 d) ∧ wx.cell? ⟨gc, 3, none⟩ = some (.int .i64 m)) ∧ (wx.cell? ⟨gl, 0, none⟩ = some (.int .i64 a) ∧ wx.cell? ⟨gl, 1, none⟩ = some (.int .i64 b) ∧ wx.cell? ⟨gl, 2, none⟩ = some (.int .i64 d) ∧ wx.cell? ⟨gl, 3, none⟩ = some (.int .i64 m) ∧ wx.cell? ⟨gl, 4, none⟩ = some (.slice Au ms.length capu) ∧ wx.cell? ⟨gl, 5, none⟩ = some (.int .i64 0) ∧ wx.cell? ⟨gl, 6, none⟩ = some (.slice none 0 0) ∧ wx.cell? ⟨gl, 7, none⟩ = some (.string ⟨#[]⟩) ∧ wx.cell? ⟨gl, 8, none⟩ = some (.bool false) ∧ wx.cell? ⟨gl, 9, none⟩ = some (.string ⟨#[]⟩) ∧ wx.cell? ⟨gl, 10, none⟩ = some (.bool false) ∧ wx.cell? ⟨gl, 11, none⟩ = some (.slice none 0 0) ∧ wx.cell? ⟨gl, 12, none⟩ = some (.slice none 0 0)))) (by kernel_rfl) hS (fun hHeld => ?_)
    refine wpAnyH_take (i := 0) (v := ?_) rfl (by kernel_rfl) (by kernel_rfl) (by kernel_rfl) (fun _ _ _ h => h) (Or.inl ⟨by rfl, ?_⟩) (by assumption) ?_
    rotate_left
    · intro wq hSw
      (try dsimp only at hSw)
      (try simp only [List.getElem_toArray, List.getElem_cons_zero])
      go_simp
      (try with_reducible rfl)
    simp only [Act.put, List.getElem_toArray, List.getElem_cons_zero, List.setIfInBounds_toArray, List.set_cons_zero, List.set_cons_succ]
    refine wpAnyH_take (i := 1) (v := ?_) rfl (by kernel_rfl) (by kernel_rfl) (by kernel_rfl) (fun _ _ _ h => h) (Or.inl ⟨by rfl, ?_⟩) (by assumption) ?_
    rotate_left
    · intro wq hSw
      (try dsimp only at hSw)
      (try simp only [List.getElem_toArray, List.getElem_cons_succ, List.getElem_cons_zero])
      go_simp
      (try with_reducible rfl)
    simp only [Act.put, List.getElem_toArray, List.getElem_cons_succ, List.getElem_cons_zero, List.setIfInBounds_toArray, List.set_cons_zero, List.set_cons_succ]
    refine wpAnyH_take (i := 2) (v := ?_) rfl (by kernel_rfl) (by kernel_rfl) (by kernel_rfl) (fun _ _ _ h => h) (Or.inl ⟨by rfl, ?_⟩) (by assumption) ?_
    rotate_left
    · intro wq hSw
      (try dsimp only at hSw)
      (try simp only [List.getElem_toArray, List.getElem_cons_succ, List.getElem_cons_zero])
      go_simp
      (try with_reducible rfl)
    simp only [Act.put, List.getElem_toArray, List.getElem_cons_succ, List.getElem_cons_zero, List.setIfInBounds_toArray, List.set_cons_zero, List.set_cons_succ]
    refine wpAnyH_ready (rs := [3]) (by kernel_rfl) (by simp) ?_
    refine AllReadyH.cons rfl (fun K hK => ?_) AllReadyH.nil
    (try simp only [List.getElem_toArray, List.getElem_cons_succ, List.getElem_cons_zero])
    go_simp
    go_at_call 10
    refine (specLineNew_any a b d m _ ms _ _ hOb.reads (Nat.le_refl _) (by omega) HZS.out).mono ?_
    rintro e x4 (⟨_, u4, rfl, ho4, hbx⟩ | ⟨hno, _⟩)
    rotate_left
    · exact absurd hno (by rw [HN.out]; simp)
    have hKb := hKb.from hbx
    have hJb := hJb.from hbx
    have hOb := hOb.below hbx
    have hUb := hUb.below hbx
    have hBb := hBb.trans (hbx.mono hBb.size)
    have hS := And.intro (cells4 hKb) (cells13 hJb)
    clear hbx
    refine hK.out _ _ hS (fun hHeld => ?_)
    clear hK K
    refine wpAnyH_ready (rs := [4]) (by kernel_rfl) (by simp) ?_
    refine AllReadyH.cons rfl (fun K hK => ?_) AllReadyH.nil
    (try simp only [List.getElem_toArray, List.getElem_cons_succ, List.getElem_cons_zero])
    go_simp
    go_at_call 9
    refine (ctLine_same a b d m _ ms 0 _ [] ⟨#[]⟩ false ⟨#[]⟩ false _ [] _ [] _ _ _ _ _ _ _ (⟨hUb.reads, RS_nil _ _, RS_nil _ _, RS_nil _ _⟩) (⟨ho4.reads, RS_nil _ _, RS_nil _ _, RS_nil _ _⟩) (Nat.le_refl _) (Nat.le_refl _) (by omega) (by simp) (by simp) (by simp)).mono ?_
    rintro e x5 ⟨rfl, hbx⟩
    have hKb := hKb.from hbx
    have hJb := hJb.from hbx
    have hOb := hOb.below hbx
    have hUb := hUb.below hbx
    have hBb := hBb.trans (hbx.mono hBb.size)
    have hS := And.intro (cells4 hKb) (cells13 hJb)
    clear hbx
    refine hK.out _ _ hS (fun hHeld => ?_)
    clear hK K
    refine wpAnyH_take (i := 5) (v := ?_) rfl (by kernel_rfl) (by kernel_rfl) (by kernel_rfl) (fun _ _ _ h => h) (Or.inl ⟨by rfl, ?_⟩) (by assumption) ?_
    rotate_left
    · intro wq hSw
      (try dsimp only at hSw)
      (try simp only [List.getElem_toArray, List.getElem_cons_succ, List.getElem_cons_zero])
      go_simp
      (try with_reducible rfl)
    simp only [Act.put, List.getElem_toArray, List.getElem_cons_succ, List.getElem_cons_zero, List.setIfInBounds_toArray, List.set_cons_zero, List.set_cons_succ]
    refine wpAnyH_take (i := 6) (v := ?_) rfl (by kernel_rfl) (by kernel_rfl) (by kernel_rfl) (fun _ _ _ h => h) (Or.inl ⟨by rfl, ?_⟩) (by assumption) ?_
    rotate_left
    · intro wq hSw
      (try dsimp only at hSw)
      (try simp only [List.getElem_toArray, List.getElem_cons_succ, List.getElem_cons_zero])
      go_simp
      (try with_reducible rfl)
    simp only [Act.put, List.getElem_toArray, List.getElem_cons_succ, List.getElem_cons_zero, List.setIfInBounds_toArray, List.set_cons_zero, List.set_cons_succ]
    refine wpAnyH_take (i := 7) (v := ?_) rfl (by kernel_rfl) (by kernel_rfl) (by kernel_rfl) (fun _ _ _ h => h) (Or.inl ⟨by rfl, ?_⟩) (by assumption) ?_
    rotate_left
    · intro wq hSw
      (try dsimp only at hSw)
      (try simp only [List.getElem_toArray, List.getElem_cons_succ, List.getElem_cons_zero])
      go_simp
      (try with_reducible rfl)
    simp only [Act.put, List.getElem_toArray, List.getElem_cons_succ, List.getElem_cons_zero, List.setIfInBounds_toArray, List.set_cons_zero, List.set_cons_succ]
    refine wpAnyH_take (i := 8) (v := ?_) rfl (by kernel_rfl) (by kernel_rfl) (by kernel_rfl) (fun _ _ _ h => h) (Or.inl ⟨by rfl, ?_⟩) (by assumption) ?_
    rotate_left
    · intro wq hSw
      (try dsimp only at hSw)
      (try simp only [List.getElem_toArray, List.getElem_cons_succ, List.getElem_cons_zero])
      go_simp
      (try with_reducible rfl)
    simp only [Act.put, List.getElem_toArray, List.getElem_cons_succ, List.getElem_cons_zero, List.setIfInBounds_toArray, List.set_cons_zero, List.set_cons_succ]
    refine wpAnyH_take (i := 9) (v := ?_) rfl (by kernel_rfl) (by kernel_rfl) (by kernel_rfl) (fun _ _ _ h => h) (Or.inl ⟨by rfl, ?_⟩) (by assumption) ?_
    rotate_left
    · intro wq hSw
      (try dsimp only at hSw)
      (try simp only [List.getElem_toArray, List.getElem_cons_succ, List.getElem_cons_zero])
      go_simp
      (try with_reducible rfl)
    simp only [Act.put, List.getElem_toArray, List.getElem_cons_succ, List.getElem_cons_zero, List.setIfInBounds_toArray, List.set_cons_zero, List.set_cons_succ]
    refine wpAnyH_take (i := 10) (v := ?_) rfl (by kernel_rfl) (by kernel_rfl) (by kernel_rfl) (fun _ _ _ h => h) (Or.inl ⟨by rfl, ?_⟩) (by assumption) ?_
    rotate_left
    · intro wq hSw
      (try dsimp only at hSw)
      (try simp only [List.getElem_toArray, List.getElem_cons_succ, List.getElem_cons_zero])
      go_simp
      (try with_reducible rfl)
    simp only [Act.put, List.getElem_toArray, List.getElem_cons_succ, List.getElem_cons_zero, List.setIfInBounds_toArray, List.set_cons_zero, List.set_cons_succ]
    refine wpAnyH_take (i := 11) (v := ?_) rfl (by kernel_rfl) (by kernel_rfl) (by kernel_rfl) (fun _ _ _ h => h) (Or.inl ⟨by rfl, ?_⟩) (by assumption) ?_
    rotate_left
    · intro wq hSw
      (try dsimp only at hSw)
      (try simp only [List.getElem_toArray, List.getElem_cons_succ, List.getElem_cons_zero])
      go_simp
      (try with_reducible rfl)
    simp only [Act.put, List.getElem_toArray, List.getElem_cons_succ, List.getElem_cons_zero, List.setIfInBounds_toArray, List.set_cons_zero, List.set_cons_succ]
    refine wpAnyH_done (by kernel_rfl) ?_ _
    have HK := Lib.hid hKb
    have HJ := Lib.hid hJb
    have HO := Lib.hid hOb
    have HU := Lib.hid hUb
    have HB := Lib.hid hBb
    obtain ⟨e0, e1, e2, e3, e4, e5, e6, e7, e8, e9, e10, e11, e12⟩ := cells13 hJb
    clear hKb hJb hOb hUb hBb hS ho4
    go_wp2_with fail
    refine (implLineOk_any a b d m 0 _ ms none none none 0 0 0 0 0 0 ⟨#[]⟩ ⟨#[]⟩ false false _ _ HU.out.reads (Nat.le_refl _) wa (by show 0 ≤ maxLen; exact Nat.zero_le _) (by show 0 ≤ maxLen; exact Nat.zero_le _) (by unfold maxLen; omega) (fun s hs => by have := HZS.out s hs; unfold maxLen; omega)).mono ?_
    rintro e x6 ⟨rfl, hbx⟩
    rw [show lineB ⟨a, b, d, m⟩ ms 0 0 ⟨(⟨#[]⟩ : ByteArray).data.toList, false⟩ ⟨(⟨#[]⟩ : ByteArray).data.toList, false⟩ 0 0 = newB ⟨a, b, d, m⟩ ms from lineB_new _ _, HN.out]
    have hj := HJ.out.from hbx
    obtain ⟨e0, e1, e2, e3, e4, e5, e6, e7, e8, e9, e10, e11, e12⟩ := cells13 hj
    have HJ := Lib.hid hj
    have HO := Lib.hid (HO.out.below hbx)
    have HU := Lib.hid (HU.out.below hbx)
    have HB := Lib.hid (HB.out.trans (hbx.mono HB.out.size))
    clear hj hbx
    go_wp2_with fail
    refine (ctTexts_same _ _ ms _ _ _ HU.out.reads HO.out.reads (Nat.le_refl _) (Nat.le_refl _) (by omega)).mono ?_
    rintro e x7 ⟨rfl, hbx⟩
    have hj := HJ.out.from hbx
    obtain ⟨e0, e1, e2, e3, e4, e5, e6, e7, e8, e9, e10, e11, e12⟩ := cells13 hj
    have HB := Lib.hid (HB.out.trans (hbx.mono HB.out.size))
    clear hj hbx
    go_wp2
    go_ret
    exact ⟨rfl, HB.out⟩
  | false =>
    have HN := Lib.hid hn
    clear hn
    go_wp2_with fail
    refine (implLineNew_any a b d m _ ms _ _ HO.out.reads (Nat.le_refl _) wa (by omega) HZS.out).mono ?_
    rintro e x3 (⟨hno, _⟩ | ⟨_, rfl, hbx⟩)
    · rw [HN.out] at hno; cases hno
    have ho3 : OS x3 0 (.slice none 0 0) [] := OS_nil _ _
    have HK := Lib.hid ((HK.out.from hbx).alloc (.cells #[.int .i64 0, .int .i64 0, .int .i64 0, .int .i64 0, .slice none 0 0, .int .i64 0, .slice none 0 0, .string ⟨#[]⟩, .bool false, .string ⟨#[]⟩, .bool false, .slice none 0 0, .slice none 0 0] 31))
    have hj := BK.new x3 #[.int .i64 0, .int .i64 0, .int .i64 0, .int .i64 0, .slice none 0 0, .int .i64 0, .slice none 0 0, .string ⟨#[]⟩, .bool false, .string ⟨#[]⟩, .bool false, .slice none 0 0, .slice none 0 0] 31
    have HO := Lib.hid ((HO.out.below hbx).alloc (.cells #[.int .i64 0, .int .i64 0, .int .i64 0, .int .i64 0, .slice none 0 0, .int .i64 0, .slice none 0 0, .string ⟨#[]⟩, .bool false, .string ⟨#[]⟩, .bool false, .slice none 0 0, .slice none 0 0] 31))
    have HU := Lib.hid (ho3.alloc (.cells #[.int .i64 0, .int .i64 0, .int .i64 0, .int .i64 0, .slice none 0 0, .int .i64 0, .slice none 0 0, .string ⟨#[]⟩, .bool false, .string ⟨#[]⟩, .bool false, .slice none 0 0, .slice none 0 0] 31))
    have HB := Lib.hid ((HB.out.trans (hbx.mono HB.out.size)).alloc (Nat.le_trans HB.out.size hbx.size) (.cells #[.int .i64 0, .int .i64 0, .int .i64 0, .int .i64 0, .slice none 0 0, .int .i64 0, .slice none 0 0, .string ⟨#[]⟩, .bool false, .string ⟨#[]⟩, .bool false, .slice none 0 0, .slice none 0 0] 31))
    have HJ := Lib.hid hj
    obtain ⟨e0, e1, e2, e3, e4, e5, e6, e7, e8, e9, e10, e11, e12⟩ := cells13 hj
    clear hj ho3 hbx
    go_wp2_with fail
    obtain ⟨gl, hgl⟩ : ∃ gl, x3.heap.size = gl := ⟨_, rfl⟩
    rw [hgl] at HJ
    have hKb := HK.out.drew
    have hJb := HJ.out.drew
    have hOb := HO.out.drew
    have hUb := HU.out.drew
    have hBb := HB.out.drew
    have hS := And.intro (cells4 hKb) (cells13 hJb)
    try rw [hgl]
    refine wp_region_held_drew (S := (fun wx => (wx.cell? ⟨gc, 0, none⟩ = some (.int .i64 a) ∧ wx.cell? ⟨gc, 1, none⟩ = some (.int .i64 b) ∧ wx.cell? ⟨gc, 2, none⟩ = some (.int .i64 d) ∧ wx.cell? ⟨gc, 3, none⟩ = some (.int .i64 m)) ∧ (wx.cell? ⟨gl, 0, none⟩ = some (.int .i64 0) ∧ wx.cell? ⟨gl, 1, none⟩ = some (.int .i64 0) ∧ wx.cell? ⟨gl, 2, none⟩ = some (.int .i64 0) ∧ wx.cell? ⟨gl, 3, none⟩ = some (.int .i64 0) ∧ wx.cell? ⟨gl, 4, none⟩ = some (.slice none 0 0) ∧ wx.cell? ⟨gl, 5, none⟩ = some (.int .i64 0) ∧ wx.cell? ⟨gl, 6, none⟩ = some (.slice none 0 0) ∧ wx.cell? ⟨gl, 7, none⟩ = some (.string ⟨#[]⟩) ∧ wx.cell? ⟨gl, 8, none⟩ = some (.bool false) ∧ wx.cell? ⟨gl, 9, none⟩ = some (.string ⟨#[]⟩) ∧ wx.cell? ⟨gl, 10, none⟩ = some (.bool false) ∧ wx.cell? ⟨gl, 11, none⟩ = some (.slice none 0 0) ∧ wx.cell? ⟨gl, 12, none⟩ = some (.slice none 0 0)))) (by kernel_rfl) hS (fun hHeld => ?_)
    refine wpAnyH_take (i := 0) (v := ?_) rfl (by kernel_rfl) (by kernel_rfl) (by kernel_rfl) (fun _ _ _ h => h) (Or.inl ⟨by rfl, ?_⟩) (by assumption) ?_
    rotate_left
    · intro wq hSw
      (try dsimp only at hSw)
      (try simp only [List.getElem_toArray, List.getElem_cons_zero])
      go_simp
      (try with_reducible rfl)
    simp only [Act.put, List.getElem_toArray, List.getElem_cons_zero, List.setIfInBounds_toArray, List.set_cons_zero, List.set_cons_succ]
    refine wpAnyH_take (i := 1) (v := ?_) rfl (by kernel_rfl) (by kernel_rfl) (by kernel_rfl) (fun _ _ _ h => h) (Or.inl ⟨by rfl, ?_⟩) (by assumption) ?_
    rotate_left
    · intro wq hSw
      (try dsimp only at hSw)
      (try simp only [List.getElem_toArray, List.getElem_cons_succ, List.getElem_cons_zero])
      go_simp
      (try with_reducible rfl)
    simp only [Act.put, List.getElem_toArray, List.getElem_cons_succ, List.getElem_cons_zero, List.setIfInBounds_toArray, List.set_cons_zero, List.set_cons_succ]
    refine wpAnyH_take (i := 2) (v := ?_) rfl (by kernel_rfl) (by kernel_rfl) (by kernel_rfl) (fun _ _ _ h => h) (Or.inl ⟨by rfl, ?_⟩) (by assumption) ?_
    rotate_left
    · intro wq hSw
      (try dsimp only at hSw)
      (try simp only [List.getElem_toArray, List.getElem_cons_succ, List.getElem_cons_zero])
      go_simp
      (try with_reducible rfl)
    simp only [Act.put, List.getElem_toArray, List.getElem_cons_succ, List.getElem_cons_zero, List.setIfInBounds_toArray, List.set_cons_zero, List.set_cons_succ]
    refine wpAnyH_ready (rs := [3]) (by kernel_rfl) (by simp) ?_
    refine AllReadyH.cons rfl (fun K hK => ?_) AllReadyH.nil
    (try simp only [List.getElem_toArray, List.getElem_cons_succ, List.getElem_cons_zero])
    go_simp
    go_at_call 10
    refine (specLineNew_any a b d m _ ms _ _ hOb.reads (Nat.le_refl _) (by omega) HZS.out).mono ?_
    rintro e x4 (⟨hno, _⟩ | ⟨_, rfl, hbx⟩)
    · exact absurd hno (by rw [HN.out]; simp)
    have ho4 : OS x4 0 (.slice none 0 0) [] := OS_nil _ _
    have hKb := hKb.from hbx
    have hJb := hJb.from hbx
    have hOb := hOb.below hbx
    have hUb := hUb.below hbx
    have hBb := hBb.trans (hbx.mono hBb.size)
    have hS := And.intro (cells4 hKb) (cells13 hJb)
    clear hbx
    refine hK.out _ _ hS (fun hHeld => ?_)
    clear hK K
    refine wpAnyH_ready (rs := [4]) (by kernel_rfl) (by simp) ?_
    refine AllReadyH.cons rfl (fun K hK => ?_) AllReadyH.nil
    (try simp only [List.getElem_toArray, List.getElem_cons_succ, List.getElem_cons_zero])
    go_simp
    go_at_call 9
    refine (ctLine_same 0 0 0 0 _ [] 0 _ [] ⟨#[]⟩ false ⟨#[]⟩ false _ [] _ [] _ _ _ _ _ _ _ (⟨hUb.reads, RS_nil _ _, RS_nil _ _, RS_nil _ _⟩) (⟨ho4.reads, RS_nil _ _, RS_nil _ _, RS_nil _ _⟩) (Nat.le_refl _) (Nat.le_refl _) (by simp) (by simp) (by simp) (by simp)).mono ?_
    rintro e x5 ⟨rfl, hbx⟩
    have hKb := hKb.from hbx
    have hJb := hJb.from hbx
    have hOb := hOb.below hbx
    have hUb := hUb.below hbx
    have hBb := hBb.trans (hbx.mono hBb.size)
    have hS := And.intro (cells4 hKb) (cells13 hJb)
    clear hbx
    refine hK.out _ _ hS (fun hHeld => ?_)
    clear hK K
    refine wpAnyH_take (i := 5) (v := ?_) rfl (by kernel_rfl) (by kernel_rfl) (by kernel_rfl) (fun _ _ _ h => h) (Or.inl ⟨by rfl, ?_⟩) (by assumption) ?_
    rotate_left
    · intro wq hSw
      (try dsimp only at hSw)
      (try simp only [List.getElem_toArray, List.getElem_cons_succ, List.getElem_cons_zero])
      go_simp
      (try with_reducible rfl)
    simp only [Act.put, List.getElem_toArray, List.getElem_cons_succ, List.getElem_cons_zero, List.setIfInBounds_toArray, List.set_cons_zero, List.set_cons_succ]
    refine wpAnyH_take (i := 6) (v := ?_) rfl (by kernel_rfl) (by kernel_rfl) (by kernel_rfl) (fun _ _ _ h => h) (Or.inl ⟨by rfl, ?_⟩) (by assumption) ?_
    rotate_left
    · intro wq hSw
      (try dsimp only at hSw)
      (try simp only [List.getElem_toArray, List.getElem_cons_succ, List.getElem_cons_zero])
      go_simp
      (try with_reducible rfl)
    simp only [Act.put, List.getElem_toArray, List.getElem_cons_succ, List.getElem_cons_zero, List.setIfInBounds_toArray, List.set_cons_zero, List.set_cons_succ]
    refine wpAnyH_take (i := 7) (v := ?_) rfl (by kernel_rfl) (by kernel_rfl) (by kernel_rfl) (fun _ _ _ h => h) (Or.inl ⟨by rfl, ?_⟩) (by assumption) ?_
    rotate_left
    · intro wq hSw
      (try dsimp only at hSw)
      (try simp only [List.getElem_toArray, List.getElem_cons_succ, List.getElem_cons_zero])
      go_simp
      (try with_reducible rfl)
    simp only [Act.put, List.getElem_toArray, List.getElem_cons_succ, List.getElem_cons_zero, List.setIfInBounds_toArray, List.set_cons_zero, List.set_cons_succ]
    refine wpAnyH_take (i := 8) (v := ?_) rfl (by kernel_rfl) (by kernel_rfl) (by kernel_rfl) (fun _ _ _ h => h) (Or.inl ⟨by rfl, ?_⟩) (by assumption) ?_
    rotate_left
    · intro wq hSw
      (try dsimp only at hSw)
      (try simp only [List.getElem_toArray, List.getElem_cons_succ, List.getElem_cons_zero])
      go_simp
      (try with_reducible rfl)
    simp only [Act.put, List.getElem_toArray, List.getElem_cons_succ, List.getElem_cons_zero, List.setIfInBounds_toArray, List.set_cons_zero, List.set_cons_succ]
    refine wpAnyH_take (i := 9) (v := ?_) rfl (by kernel_rfl) (by kernel_rfl) (by kernel_rfl) (fun _ _ _ h => h) (Or.inl ⟨by rfl, ?_⟩) (by assumption) ?_
    rotate_left
    · intro wq hSw
      (try dsimp only at hSw)
      (try simp only [List.getElem_toArray, List.getElem_cons_succ, List.getElem_cons_zero])
      go_simp
      (try with_reducible rfl)
    simp only [Act.put, List.getElem_toArray, List.getElem_cons_succ, List.getElem_cons_zero, List.setIfInBounds_toArray, List.set_cons_zero, List.set_cons_succ]
    refine wpAnyH_take (i := 10) (v := ?_) rfl (by kernel_rfl) (by kernel_rfl) (by kernel_rfl) (fun _ _ _ h => h) (Or.inl ⟨by rfl, ?_⟩) (by assumption) ?_
    rotate_left
    · intro wq hSw
      (try dsimp only at hSw)
      (try simp only [List.getElem_toArray, List.getElem_cons_succ, List.getElem_cons_zero])
      go_simp
      (try with_reducible rfl)
    simp only [Act.put, List.getElem_toArray, List.getElem_cons_succ, List.getElem_cons_zero, List.setIfInBounds_toArray, List.set_cons_zero, List.set_cons_succ]
    refine wpAnyH_take (i := 11) (v := ?_) rfl (by kernel_rfl) (by kernel_rfl) (by kernel_rfl) (fun _ _ _ h => h) (Or.inl ⟨by rfl, ?_⟩) (by assumption) ?_
    rotate_left
    · intro wq hSw
      (try dsimp only at hSw)
      (try simp only [List.getElem_toArray, List.getElem_cons_succ, List.getElem_cons_zero])
      go_simp
      (try with_reducible rfl)
    simp only [Act.put, List.getElem_toArray, List.getElem_cons_succ, List.getElem_cons_zero, List.setIfInBounds_toArray, List.set_cons_zero, List.set_cons_succ]
    refine wpAnyH_done (by kernel_rfl) ?_ _
    have HK := Lib.hid hKb
    have HJ := Lib.hid hJb
    have HO := Lib.hid hOb
    have HU := Lib.hid hUb
    have HB := Lib.hid hBb
    obtain ⟨e0, e1, e2, e3, e4, e5, e6, e7, e8, e9, e10, e11, e12⟩ := cells13 hJb
    clear hKb hJb hOb hUb hBb hS ho4
    go_wp2_with fail
    have hKb := HK.out.drew
    have hJb := HJ.out.drew
    have hOb := HO.out.drew
    have hUb := HU.out.drew
    have hBb := HB.out.drew
    have hS := And.intro (cells4 hKb) (cells13 hJb)
    refine wp_region_held_drew (S := (fun wx => (wx.cell? ⟨gc, 0, none⟩ = some (.int .i64 a) ∧ wx.cell? ⟨gc, 1, none⟩ = some (.int .i64 b) ∧ wx.cell? ⟨gc, 2, none⟩ = some (.int .i64 d) ∧ wx.cell? ⟨gc, 3, none⟩ = some (.int .i64 m)) ∧ (wx.cell? ⟨gl, 0, none⟩ = some (.int .i64 0) ∧ wx.cell? ⟨gl, 1, none⟩ = some (.int .i64 0) ∧ wx.cell? ⟨gl, 2, none⟩ = some (.int .i64 0) ∧ wx.cell? ⟨gl, 3, none⟩ = some (.int .i64 0) ∧ wx.cell? ⟨gl, 4, none⟩ = some (.slice none 0 0) ∧ wx.cell? ⟨gl, 5, none⟩ = some (.int .i64 0) ∧ wx.cell? ⟨gl, 6, none⟩ = some (.slice none 0 0) ∧ wx.cell? ⟨gl, 7, none⟩ = some (.string ⟨#[]⟩) ∧ wx.cell? ⟨gl, 8, none⟩ = some (.bool false) ∧ wx.cell? ⟨gl, 9, none⟩ = some (.string ⟨#[]⟩) ∧ wx.cell? ⟨gl, 10, none⟩ = some (.bool false) ∧ wx.cell? ⟨gl, 11, none⟩ = some (.slice none 0 0) ∧ wx.cell? ⟨gl, 12, none⟩ = some (.slice none 0 0)))) (by kernel_rfl) hS (fun hHeld => ?_)
    refine wpAnyH_take (i := 0) (v := ?_) rfl (by kernel_rfl) (by kernel_rfl) (by kernel_rfl) (fun _ _ _ h => h) (Or.inl ⟨by rfl, ?_⟩) (by assumption) ?_
    rotate_left
    · intro wq hSw
      (try dsimp only at hSw)
      (try simp only [List.getElem_toArray, List.getElem_cons_zero])
      go_simp
      (try with_reducible rfl)
    simp only [Act.put, List.getElem_toArray, List.getElem_cons_zero, List.setIfInBounds_toArray, List.set_cons_zero, List.set_cons_succ]
    refine wpAnyH_take (i := 1) (v := ?_) rfl (by kernel_rfl) (by kernel_rfl) (by kernel_rfl) (fun _ _ _ h => h) (Or.inl ⟨by rfl, ?_⟩) (by assumption) ?_
    rotate_left
    · intro wq hSw
      (try dsimp only at hSw)
      (try simp only [List.getElem_toArray, List.getElem_cons_succ, List.getElem_cons_zero])
      go_simp
      (try with_reducible rfl)
    simp only [Act.put, List.getElem_toArray, List.getElem_cons_succ, List.getElem_cons_zero, List.setIfInBounds_toArray, List.set_cons_zero, List.set_cons_succ]
    refine wpAnyH_take (i := 2) (v := ?_) rfl (by kernel_rfl) (by kernel_rfl) (by kernel_rfl) (fun _ _ _ h => h) (Or.inl ⟨by rfl, ?_⟩) (by assumption) ?_
    rotate_left
    · intro wq hSw
      (try dsimp only at hSw)
      (try simp only [List.getElem_toArray, List.getElem_cons_succ, List.getElem_cons_zero])
      go_simp
      (try with_reducible rfl)
    simp only [Act.put, List.getElem_toArray, List.getElem_cons_succ, List.getElem_cons_zero, List.setIfInBounds_toArray, List.set_cons_zero, List.set_cons_succ]
    refine wpAnyH_ready (rs := [3]) (by kernel_rfl) (by simp) ?_
    refine AllReadyH.cons rfl (fun K hK => ?_) AllReadyH.nil
    (try simp only [List.getElem_toArray, List.getElem_cons_succ, List.getElem_cons_zero])
    go_simp
    go_at_call 10
    refine (specLineNew_any a b d m _ ms _ _ hOb.reads (Nat.le_refl _) (by omega) HZS.out).mono ?_
    rintro e x6 (⟨hno, _⟩ | ⟨_, rfl, hbx⟩)
    · exact absurd hno (by rw [HN.out]; simp)
    have ho4 : OS x6 0 (.slice none 0 0) [] := OS_nil _ _
    have hKb := hKb.from hbx
    have hJb := hJb.from hbx
    have hOb := hOb.below hbx
    have hUb := hUb.below hbx
    have hBb := hBb.trans (hbx.mono hBb.size)
    have hS := And.intro (cells4 hKb) (cells13 hJb)
    clear hbx
    refine hK.out _ _ hS (fun hHeld => ?_)
    clear hK K
    refine wpAnyH_ready (rs := [4]) (by kernel_rfl) (by simp) ?_
    refine AllReadyH.cons rfl (fun K hK => ?_) AllReadyH.nil
    (try simp only [List.getElem_toArray, List.getElem_cons_succ, List.getElem_cons_zero])
    go_simp
    go_at_call 9
    refine (ctLine_same 0 0 0 0 _ [] 0 _ [] ⟨#[]⟩ false ⟨#[]⟩ false _ [] _ [] _ _ _ _ _ _ _ (⟨hUb.reads, RS_nil _ _, RS_nil _ _, RS_nil _ _⟩) (⟨ho4.reads, RS_nil _ _, RS_nil _ _, RS_nil _ _⟩) (Nat.le_refl _) (Nat.le_refl _) (by simp) (by simp) (by simp) (by simp)).mono ?_
    rintro e x7 ⟨rfl, hbx⟩
    have hKb := hKb.from hbx
    have hJb := hJb.from hbx
    have hOb := hOb.below hbx
    have hUb := hUb.below hbx
    have hBb := hBb.trans (hbx.mono hBb.size)
    have hS := And.intro (cells4 hKb) (cells13 hJb)
    clear hbx
    refine hK.out _ _ hS (fun hHeld => ?_)
    clear hK K
    refine wpAnyH_take (i := 5) (v := ?_) rfl (by kernel_rfl) (by kernel_rfl) (by kernel_rfl) (fun _ _ _ h => h) (Or.inl ⟨by rfl, ?_⟩) (by assumption) ?_
    rotate_left
    · intro wq hSw
      (try dsimp only at hSw)
      (try simp only [List.getElem_toArray, List.getElem_cons_succ, List.getElem_cons_zero])
      go_simp
      (try with_reducible rfl)
    simp only [Act.put, List.getElem_toArray, List.getElem_cons_succ, List.getElem_cons_zero, List.setIfInBounds_toArray, List.set_cons_zero, List.set_cons_succ]
    refine wpAnyH_done (by kernel_rfl) ?_ _
    have HB := Lib.hid hBb
    clear hKb hJb hOb hUb hBb hS ho4
    go_wp2
    go_ret
    exact ⟨rfl, HB.out⟩
theorem own : ownKnob Try.prog.godebug = none := by kernel_rfl
theorem laidOut : laidOutB Try.prog = true := by kernel_rfl
set_option maxRecDepth 100000 in
theorem lifted (os : Os) (started : os.Started) (H : Type) (enc : TypeId × Value → H) :
    ReturnsInHanded {} Try.checked os 3 .any (Rows.fnLineNewSpec.pre6 enc Try.prog Try.f3 Rows.fnLineNewRow.domain false) (Rows.fnLineNewSpec.post enc Try.prog Try.f3 false true false false) := by
  refine returnsInHanded_of_change (C := Try.checked) own started (by kernel_rfl) Try.func3
    (ChangeSpec.witness6 (enc := enc) (C := Try.checked) false ⟨#[], #[.slice none 0 0], []⟩ 8 (by kernel_rfl) (by kernel_rfl) (by kernel_rfl) (by kernel_rfl)) ?_
  intro W base args ds gs before hval0 hW hcnd _
  have hval : ∀ (j : Nat) t v, Try.f3.params[j]? = some t → args[j]? = some v → Value.okWide Try.prog W .any base t v := hval0
  have hW' := hW
  obtain ⟨p, q, hA0, hV, rfl, hfz, hnd⟩ := hW
  have hA : DataW.TrodAll enc Try.prog W 0 (fun _ => true) true Try.f3.params.toList args.toList ds p := hA0
  rw [Try.params3] at hA hval
  obtain ⟨v0, vs0, d0, ds0, p0, q0, hargs, rfl, rfl, h0, r0⟩ := trodAll_cons hA
  obtain ⟨rfl, rfl, rfl⟩ := trodAll_nil r0
  obtain rfl : args = #[v0] := by cases args; simp_all
  obtain ⟨rfl, rfl⟩ := trodVars_none hV
  obtain ⟨a0, len0, cap0, rfl⟩ := okWide_slice Try.underlying22 (hval 0 22 v0 rfl rfl)
  have k0 := h0
  have lt0 : ∀ x ∈ p0, x.block < W.heap.size := by obtain ⟨m, hm⟩ := k0; exact DataW.trod_lt m _ _ _ hm
  obtain ⟨z0, w0⟩ : ∃ zs, IsRow .u8 W a0 len0 cap0 zs := by
    obtain ⟨fuel, hf⟩ := h0
    rcases open_ints Try.underlying22 Try.underlying5 (by kernel_rfl) hf with ⟨hcs, _⟩ | ⟨x, l, c, zs, hcs, _, hl, hm, hz, _, hcell, hwz⟩
    · simp [Value.cells] at hcs
      obtain ⟨rfl, rfl, rfl⟩ := hcs
      exact ⟨[], .inl ⟨rfl, rfl, rfl, rfl⟩⟩
    · simp [Value.cells] at hcs
      obtain ⟨rfl, rfl, rfl⟩ := hcs
      exact ⟨zs, .inr ⟨_, rfl, hl, hm, by simpa using hz, hcell, hwz⟩⟩
  clear hA0 hval0
  refine (walk a0 len0 cap0 z0 W w0).mono fun e W' ⟨he, bel⟩ => ?_
  subst he
  exact ⟨_, rfl, _, _, _, [], _, [], hW', trodAll_mk1 (shut_bool Try.underlying4 _), (trodAll_cons_mk (Below.trod laidOut (by kernel_rfl) (of_decide_eq_true (by kernel_rfl)) k0 bel lt0) trodAll_mk0), rfl, bel.frame _, fun h => by cases h⟩
theorem over : Rows.fnLineNewRow.holds Try.pinned (OpenSpec.ofChange Rows.fnLineNewSpec) :=
  OpenClaim.holds_of_wide 3 Try.f3 rfl rfl rfl rfl rfl rfl rfl ⟨rfl, rfl, rfl, rfl, rfl⟩ rfl rfl rfl rfl rfl (by kernel_rfl) Try.func3 (by kernel_rfl)
    (of_decide_eq_true (by kernel_rfl)) (by unfold Func.isWrapper; first | (rw [if_pos (by decide +kernel)]; kernel_rfl) | (rw [if_neg (by decide +kernel)]; exact ⟨rfl, rfl⟩))
    (fun os started H enc _ => lifted os started H enc)
theorem proved : Rows.FnLineNewSaid := over
end Go.Proofs.Ytdnedoafgfpnfaa.fnLineNew
