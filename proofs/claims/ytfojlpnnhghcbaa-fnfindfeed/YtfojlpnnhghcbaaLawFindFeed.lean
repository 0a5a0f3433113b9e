/- FnFindFeed: the same comes, in whatever pieces bytes come. For every two codes (the law draws a configuration, a finder and bytes from one, and where they are cut from the other). No condition. -/
import Derived.Test.YtfojlpnnhghcbaaFindZ
import Derived.Test.YtfojlpnnhghcbaaFindX
import Derived.Test.YtfojlpnnhghcbaaDrawFeedF
namespace Go.Proofs.Ytfojlpnnhghcbaa.fnFindFeed
open Go.ChangeShapes Go.WideShapes Go.ChangeAt Go.RowKit
set_option linter.unusedVariables false
/-- a configuration's box and a finder's -/
def BF (x1 W : World) (a b d m : Int) (gf : Nat) (F : ByteArray) (fo : Bool) : Prop := CB W x1.heap.size a b d m ∧ FB W gf F fo ∧ x1.heap.size < W.heap.size ∧ gf < W.heap.size
section
variable {x1 W W' : World} {a b d m : Int} {gf : Nat} {F : ByteArray} {fo : Bool}
theorem BF.next (h : BF x1 W a b d m gf F fo) (hb : Below W.heap.size W W') : BF x1 W' a b d m gf F fo := ⟨h.1.below hb h.2.2.1, h.2.1.below hb h.2.2.2, Nat.lt_of_lt_of_le h.2.2.1 hb.size, Nat.lt_of_lt_of_le h.2.2.2 hb.size⟩
theorem BF.alloc (h : BF x1 W a b d m gf F fo) (o : Obj) : BF x1 (W.alloc o) a b d m gf F fo := h.next ((Below.refl _ _).alloc (Nat.le_refl _) _)
theorem BF.drew (h : BF x1 W a b d m gf F fo) : BF x1 W.drew a b d m gf F fo := h
theorem BF.top (h : BF x1 W a b d m gf F fo) : max x1.heap.size gf + 1 ≤ W.heap.size := by have := h.2.2.1; have := h.2.2.2; omega
theorem BF.farSet (h : BF x1 W a b d m gf F fo) {j i : Nat} (hj : max x1.heap.size gf + 1 ≤ j) (v : Value) : BF x1 (W.setCell ⟨j, i, none⟩ v) a b d m gf F fo := by
  obtain ⟨⟨h1, h2, h3, h4⟩, ⟨h5, h6⟩, h7, h8⟩ := h
  have k : ∀ (q r : Nat), q < j → (W.setCell ⟨j, i, none⟩ v).cell? ⟨q, r, none⟩ = W.cell? ⟨q, r, none⟩ := fun q r hq => World.cell?_setCell_other W _ _ v (fun e => by injection e with e1; omega)
  exact ⟨⟨(k _ _ (by omega)).trans h1, (k _ _ (by omega)).trans h2, (k _ _ (by omega)).trans h3, (k _ _ (by omega)).trans h4⟩, ⟨(k _ _ (by omega)).trans h5, (k _ _ (by omega)).trans h6⟩, by simpa using h7, by simpa using h8⟩
theorem BF.flat2 (h : BF x1 W a b d m gf F fo) : (W.cell? ⟨x1.heap.size, 0, none⟩ = some (.int .i64 a) ∧ W.cell? ⟨x1.heap.size, 1, none⟩ = some (.int .i64 b) ∧ W.cell? ⟨x1.heap.size, 2, none⟩ = some (.int .i64 d) ∧ W.cell? ⟨x1.heap.size, 3, none⟩ = some (.int .i64 m)) ∧ (W.cell? ⟨gf, 0, none⟩ = some (.string F) ∧ W.cell? ⟨gf, 1, none⟩ = some (.bool fo)) := ⟨h.1, h.2.1⟩
end
theorem feedF_held (c : Cf) (f : Fd) (l : List UInt8) (h : okF c f = true) (hl : l.length ≤ 600) : (feedF c f l).1.held.length ≤ 92 ∧ okF c (feedF c f l).1 = true := by
  have h1 : feedF c f l = ffeed c f l := by unfold feedF; rw [if_pos ⟨h, hl⟩]
  have h2 := ffeed_ok l h
  rw [h1]
  obtain ⟨hc, hh, _⟩ := okF_yes h2
  have := hold_pos hc
  exact ⟨by omega, h2⟩
section
variable {P : Program} (w : World)
theorem wpList_append_evg {ops : Array Oper} {rest : List Oper} {o : Oper} {a : Act} {Q : Exit → Act → World → Prop} (hw : Region.wanted o (yielded ops a.tmps) = true) (s x : Operand) (t : TypeId)
    (ho : o.op = .call { callee := .builtin .append, args := #[s, x], argTypes := #[t, t] })
    (base : Nat) (i : TypeInfo) (ht : P.underlying t = some (.slice 47)) (hi : P.info? 47 = some i) (hz : i.zero = some (.agg #[.int .i64 0, .string ⟨#[]⟩]))
    (hsize : i.size = 2) (hby : i.bytes = 24) (v : Value) (l : List Ev) (hs : a.eval s = v) (hown : OE w base v l)
    (lo B : Nat) (v2 : Value) (news : List Ev) (hx : a.eval x = v2) (hr : RE w lo B v2 news) (hlen : l.length + news.length ≤ 1000000000000) (hbase : base ≤ w.heap.size)
    (h : ∀ v' w', OE w' base v' (l ++ news) → w.grownBy w' v.ownBlock → (v'.ownBlock = v.ownBlock ∨ v'.ownBlock = some w.heap.size) → wpList P ops Q rest (a.put o.dst v') w') : wpList P ops Q (o :: rest) a w := by
  refine wpList_step fun K hK => ?_
  rw [if_pos hw]
  obtain ⟨v', w', hr, h2, h3, h4⟩ := run_append_ev (P := P) w base t o.type i ht hi hz hsize hby v l hown lo B v2 news hr hlen hbase
  unfold Oper.wp execOp
  simp only [ho, resolve, invoke, builtin, Sem.run_bind, Sem.run_pure, Result.andThen_ok, List.map_toArray, List.map_cons, List.map_nil, hs, hx, hr]
  exact hK _ _ (h v' w' h2 h3 h4)
end
/-- what the law holds: the configuration, the finder, what came as finders in boxes, the events -/
def LS (x1 W : World) (a b d m : Int) (H : ByteArray) (o : Bool) (g8 g10 B : Nat) (X : ByteArray) (y : Bool) (v9 v11 : Value) (evs : List Ev) : Prop :=
  Bx x1 W a b d m H o ∧ BK W g8 #[.string X, .bool y] 30 ∧ BK W g10 #[.string X, .bool y] 30 ∧ RE W 0 B v9 evs ∧ RE W 0 B v11 evs ∧ g8 < B ∧ g10 < B ∧ B ≤ W.heap.size
section
variable {x1 W W' : World} {a b d m : Int} {H X : ByteArray} {o y : Bool} {g8 g10 B : Nat} {v9 v11 : Value} {evs : List Ev}
theorem LS.from (h : LS x1 W a b d m H o g8 g10 B X y v9 v11 evs) (hb : Below W.heap.size W W') : LS x1 W' a b d m H o g8 g10 B X y v9 v11 evs := by
  obtain ⟨h1, h2, h3, h4, h5, h6, h7, h8⟩ := h
  exact ⟨h1.next hb, h2.from hb, h3.from hb, h4.below (hb.mono h8), h5.below (hb.mono h8), h6, h7, Nat.le_trans h8 hb.size⟩
theorem LS.drew (h : LS x1 W a b d m H o g8 g10 B X y v9 v11 evs) : LS x1 W.drew a b d m H o g8 g10 B X y v9 v11 evs := h.from (Below.refl _ _).drew
theorem LS.flat (h : LS x1 W a b d m H o g8 g10 B X y v9 v11 evs) : ((W.cell? ⟨x1.heap.size, 0, none⟩ = some (.int .i64 a) ∧ W.cell? ⟨x1.heap.size, 1, none⟩ = some (.int .i64 b) ∧ W.cell? ⟨x1.heap.size, 2, none⟩ = some (.int .i64 d) ∧ W.cell? ⟨x1.heap.size, 3, none⟩ = some (.int .i64 m)) ∧ (W.cell? ⟨x1.heap.size + 1, 0, none⟩ = some (.string H) ∧ W.cell? ⟨x1.heap.size + 1, 1, none⟩ = some (.bool o))) ∧ ((W.cell? ⟨g8, 0, none⟩ = some (.string X) ∧ W.cell? ⟨g8, 1, none⟩ = some (.bool y)) ∧ (W.cell? ⟨g10, 0, none⟩ = some (.string X) ∧ W.cell? ⟨g10, 1, none⟩ = some (.bool y))) :=
  ⟨h.1.flat, ⟨h.2.1.cell rfl, h.2.1.cell rfl⟩, h.2.2.1.cell rfl, h.2.2.1.cell rfl⟩
theorem LS.below (h : LS x1 W a b d m H o g8 g10 B X y v9 v11 evs) : Below x1.heap.size x1 W := h.1.2.2.1
end
theorem ct_any {x1 W : World} {a b d m : Int} {H X : ByteArray} {o y : Bool} {g8 g10 B : Nat} {v9 v11 : Value} {evs : List Ev} (h : LS x1 W a b d m H o g8 g10 B X y v9 v11 evs) (hl : evs.length ≤ 600) :
    Calls Try.prog 22 #[v9, v11] W fun e w' => e = .returned (.bool true) ∧ Below W.heap.size W w' :=
  ctEvents_same v9 v11 evs _ _ _ _ _ h.2.2.2.1 h.2.2.2.2.1 h.2.2.2.2.2.2.2 h.2.2.2.2.2.2.2 (by omega)
set_option maxRecDepth 100000 in
set_option maxHeartbeats 8000000 in
theorem walk (a0 : Option Addr) (len0 cap0 : Nat) (z0 : List Int) (a1 : Option Addr) (len1 cap1 : Nat) (z1 : List Int) (w : World) (w0 : IsRow .u8 w a0 len0 cap0 z0) (w1 : IsRow .u8 w a1 len1 cap1 z1) :
    Calls Try.prog 4 #[.slice a0 len0 cap0, .slice a1 len1 cap1] w fun e w' => e = .returned (.bool true) ∧ Below w.heap.size w w' := by
  by_cases hbig : 1048576 < len0
  · go_enter Try.func4, Try.ntmps4
    go_wp2
    go_ret
    exact ⟨rfl, Below.refl _ _⟩
  by_cases hbig2 : 1048576 < len1
  · go_enter Try.func4, Try.ntmps4
    go_wp2
    go_ret
    exact ⟨rfl, Below.refl _ _⟩
  have HH := Lib.hid w0
  have hz := zero_find
  have hzc := zero_conf
  clear w0 w1
  go_enter Try.func4, Try.ntmps4
  go_wp2_with fail
  refine (drawFeed_any a0 len0 cap0 z0 HH.out).mono ?_
  rintro e x1 ⟨a, b, d, m, H, o, s, rfl, hsm, hHs, hs, hb1⟩
  have wa := wf_small hsm.1
  have hB0 := Bx.new x1 a b d m H o 24 30
  have HB1 := Lib.hid hb1
  have HB0 := Lib.hid hB0
  have hHm : H.size ≤ maxLen := by unfold maxLen; omega
  have hsx : s.size ≤ maxLen := by unfold maxLen; omega
  have hlen := feedF_len ⟨a, b, d, m⟩ ⟨H.data.toList, o⟩ s.data.toList
  have HIM := Lib.hid (fun W => implFindFeed_any a b d m H o s W wa hHm hsx)
  have HSP := Lib.hid (fun W => specFindFeed_any a b d m H o s W hHm hsx)
  have HO1 := Lib.hid (fun W => implFindOk_any a b d m H o W wa hHm)
  have HO2 := Lib.hid (fun W => specFindOk_any a b d m H o W hHm)
  have HPT := Lib.hid (fun (hok : okF ⟨a, b, d, m⟩ ⟨H.data.toList, o⟩ = true) (k : Nat) => feedF_parts hok (l := s.data.toList) (by rw [size_list]; exact hs) k)
  obtain ⟨p, hp⟩ : ∃ p, feedF ⟨a, b, d, m⟩ ⟨H.data.toList, o⟩ s.data.toList = p := ⟨_, rfl⟩
  rw [hp] at HIM HSP hlen HPT
  obtain ⟨⟨Xl, y⟩, evs⟩ := p
  obtain ⟨X, rfl⟩ : ∃ X : ByteArray, X.data.toList = Xl := ⟨⟨Xl.toArray⟩, rfl⟩
  simp only at hlen
  clear hb1 hB0 hp
  go_wp2_with fail
  refine (HIM.out _).mono ?_
  rintro e x2 ⟨v9, rfl, hoe2, hb2⟩
  simp only [fdL, Lib.mk_data]
  have hbx2 := (HB0.out.next hb2).alloc (.cells #[.string X, .bool y] 30)
  have hk8 := BK.new x2 #[.string X, .bool y] 30
  have HOE2 := Lib.hid (hoe2.alloc' (.cells #[.string X, .bool y] 30))
  obtain ⟨⟨c0, c1, c2, c3⟩, e0, e1⟩ := hbx2.flat
  have HBX2 := Lib.hid hbx2
  have HK8 := Lib.hid hk8
  clear hb2 hoe2 hbx2 hk8 HB0
  go_wp2_with fail
  refine (HSP.out _).mono ?_
  rintro e x3 ⟨v11, rfl, hoe3, hb3⟩
  simp only [fdL, Lib.mk_data]
  have hL : LS x1 (x3.alloc (.cells #[.string X, .bool y] 30)) a b d m H o x2.heap.size x3.heap.size (x3.alloc (.cells #[.string X, .bool y] 30)).heap.size X y v9 v11 evs :=
    ⟨(HBX2.out.next hb3).alloc _, (HK8.out.from hb3).alloc _, BK.new _ _ _, ((HOE2.out.below hb3).alloc' _).reads.mono (Nat.zero_le _) (Nat.le_refl _), (hoe3.alloc' _).reads.mono (Nat.zero_le _) (Nat.le_refl _), by have := hb3.size; simp at this ⊢; omega, by simp, Nat.le_refl _⟩
  have HL := Lib.hid hL
  generalize (x3.alloc (.cells #[.string X, .bool y] 30)).heap.size = B at HL
  obtain ⟨g8, hg8⟩ : ∃ g8, x2.heap.size = g8 := ⟨_, rfl⟩
  obtain ⟨g10, hg10⟩ : ∃ g10, x3.heap.size = g10 := ⟨_, rfl⟩
  rw [hg8, hg10] at HL
  have q1 := fd_neq X y
  have q2 := guard_fd
  have q3 := fd_eq 9998 X y
  have q4 := fd_eql X y
  clear hb3 hoe3 hL HBX2 HK8 HOE2 c0 c1 c2 c3 e0 e1
  cases hok : okF ⟨a, b, d, m⟩ ⟨H.data.toList, o⟩ with
  | false =>
    rw [hok] at HO1 HO2
    clear hok HPT
    go_wp2_with fail
    have hL := HL.out.drew
    have hS := hL.flat
    refine wp_region_held_drew (S := (fun wx => ((wx.cell? ⟨x1.heap.size, 0, none⟩ = some (.int .i64 a) ∧ wx.cell? ⟨x1.heap.size, 1, none⟩ = some (.int .i64 b) ∧ wx.cell? ⟨x1.heap.size, 2, none⟩ = some (.int .i64 d) ∧ wx.cell? ⟨x1.heap.size, 3, none⟩ = some (.int .i64 m)) ∧ (wx.cell? ⟨x1.heap.size + 1, 0, none⟩ = some (.string H) ∧ wx.cell? ⟨x1.heap.size + 1, 1, none⟩ = some (.bool o))) ∧ ((wx.cell? ⟨g8, 0, none⟩ = some (.string X) ∧ wx.cell? ⟨g8, 1, none⟩ = some (.bool y)) ∧ (wx.cell? ⟨g10, 0, none⟩ = some (.string X) ∧ wx.cell? ⟨g10, 1, none⟩ = some (.bool y))))) (by kernel_rfl) hS (fun hHeld => ?_)
    refine wpAnyH_take (i := 0) (v := ?_) rfl (by kernel_rfl) (by kernel_rfl) (by kernel_rfl) (fun _ _ _ h => h) (Or.inl ⟨by rfl, ?_⟩) (by assumption) ?_
    rotate_left
    · intro wq hSw
      (try dsimp only at hSw)
      (try simp only [List.getElem_toArray, List.getElem_cons_zero])
      go_simp
      (try with_reducible rfl)
    simp only [Act.put, List.getElem_toArray, List.getElem_cons_zero, List.setIfInBounds_toArray, List.set_cons_zero, List.set_cons_succ]
    refine wpAnyH_take (i := 1) (v := ?_) rfl (by kernel_rfl) (by kernel_rfl) (by kernel_rfl) (fun _ _ _ h => h) (Or.inl ⟨by rfl, ?_⟩) (by assumption) ?_
    rotate_left
    · intro wq hSw
      (try dsimp only at hSw)
      (try simp only [List.getElem_toArray, List.getElem_cons_succ, List.getElem_cons_zero])
      go_simp
      (try with_reducible rfl)
    simp only [Act.put, List.getElem_toArray, List.getElem_cons_succ, List.getElem_cons_zero, List.setIfInBounds_toArray, List.set_cons_zero, List.set_cons_succ]
    refine wpAnyH_take (i := 2) (v := ?_) rfl (by kernel_rfl) (by kernel_rfl) (by kernel_rfl) (fun _ _ _ h => h) (Or.inl ⟨by rfl, ?_⟩) (by assumption) ?_
    rotate_left
    · intro wq hSw
      (try dsimp only at hSw)
      (try simp only [List.getElem_toArray, List.getElem_cons_succ, List.getElem_cons_zero])
      go_simp
      (try with_reducible rfl)
    simp only [Act.put, List.getElem_toArray, List.getElem_cons_succ, List.getElem_cons_zero, List.setIfInBounds_toArray, List.set_cons_zero, List.set_cons_succ]
    refine wpAnyH_take (i := 3) (v := ?_) rfl (by kernel_rfl) (by kernel_rfl) (by kernel_rfl) (fun _ _ _ h => h) (Or.inl ⟨by rfl, ?_⟩) (by assumption) ?_
    rotate_left
    · intro wq hSw
      (try dsimp only at hSw)
      (try simp only [List.getElem_toArray, List.getElem_cons_succ, List.getElem_cons_zero])
      go_simp
      (try with_reducible rfl)
    simp only [Act.put, List.getElem_toArray, List.getElem_cons_succ, List.getElem_cons_zero, List.setIfInBounds_toArray, List.set_cons_zero, List.set_cons_succ]
    refine wpAnyH_take (i := 4) (v := ?_) rfl (by kernel_rfl) (by kernel_rfl) (by kernel_rfl) (fun _ _ _ h => h) (Or.inl ⟨by rfl, ?_⟩) (by assumption) ?_
    rotate_left
    · intro wq hSw
      (try dsimp only at hSw)
      (try simp only [List.getElem_toArray, List.getElem_cons_succ, List.getElem_cons_zero])
      go_simp
      (try with_reducible rfl)
    simp only [Act.put, List.getElem_toArray, List.getElem_cons_succ, List.getElem_cons_zero, List.setIfInBounds_toArray, List.set_cons_zero, List.set_cons_succ]
    refine wpAnyH_take (i := 5) (v := ?_) rfl (by kernel_rfl) (by kernel_rfl) (by kernel_rfl) (fun _ _ _ h => h) (Or.inl ⟨by rfl, ?_⟩) (by assumption) ?_
    rotate_left
    · intro wq hSw
      (try dsimp only at hSw)
      (try simp only [List.getElem_toArray, List.getElem_cons_succ, List.getElem_cons_zero])
      go_simp
      (try with_reducible rfl)
    simp only [Act.put, List.getElem_toArray, List.getElem_cons_succ, List.getElem_cons_zero, List.setIfInBounds_toArray, List.set_cons_zero, List.set_cons_succ]
    refine wpAnyH_ready (rs := [6]) (by kernel_rfl) (by simp) ?_
    refine AllReadyH.cons rfl (fun K hK => ?_) AllReadyH.nil
    (try simp only [List.getElem_toArray, List.getElem_cons_succ, List.getElem_cons_zero])
    go_simp
    go_at_call 22
    refine (ct_any hL hlen).mono ?_
    rintro e wx6 ⟨rfl, hbx⟩
    have hL := hL.from hbx
    have hS := hL.flat
    clear hbx
    refine hK.out _ _ hS (fun hHeld => ?_)
    clear hK K
    refine wpAnyH_take (i := 7) (v := ?_) rfl (by kernel_rfl) (by kernel_rfl) (by kernel_rfl) (fun _ _ _ h => h) (Or.inl ⟨by rfl, ?_⟩) (by assumption) ?_
    rotate_left
    · intro wq hSw
      (try dsimp only at hSw)
      (try simp only [List.getElem_toArray, List.getElem_cons_succ, List.getElem_cons_zero])
      go_simp
      (try with_reducible rfl)
    simp only [Act.put, List.getElem_toArray, List.getElem_cons_succ, List.getElem_cons_zero, List.setIfInBounds_toArray, List.set_cons_zero, List.set_cons_succ]
    refine wpAnyH_take (i := 8) (v := ?_) rfl (by kernel_rfl) (by kernel_rfl) (by kernel_rfl) (fun _ _ _ h => h) (Or.inl ⟨by rfl, ?_⟩) (by assumption) ?_
    rotate_left
    · intro wq hSw
      (try dsimp only at hSw)
      (try simp only [List.getElem_toArray, List.getElem_cons_succ, List.getElem_cons_zero])
      go_simp
      (try with_reducible rfl)
    simp only [Act.put, List.getElem_toArray, List.getElem_cons_succ, List.getElem_cons_zero, List.setIfInBounds_toArray, List.set_cons_zero, List.set_cons_succ]
    refine wpAnyH_take (i := 9) (v := ?_) rfl (by kernel_rfl) (by kernel_rfl) (by kernel_rfl) (fun _ _ _ h => h) (Or.inl ⟨by rfl, ?_⟩) (by assumption) ?_
    rotate_left
    · intro wq hSw
      (try dsimp only at hSw)
      (try simp only [List.getElem_toArray, List.getElem_cons_succ, List.getElem_cons_zero])
      go_simp
      (try with_reducible rfl)
    simp only [Act.put, List.getElem_toArray, List.getElem_cons_succ, List.getElem_cons_zero, List.setIfInBounds_toArray, List.set_cons_zero, List.set_cons_succ]
    refine wpAnyH_take (i := 10) (v := ?_) rfl (by kernel_rfl) (by kernel_rfl) (by kernel_rfl) (fun _ _ _ h => h) (Or.inl ⟨by rfl, ?_⟩) (by assumption) ?_
    rotate_left
    · intro wq hSw
      (try dsimp only at hSw)
      (try simp only [List.getElem_toArray, List.getElem_cons_succ, List.getElem_cons_zero])
      go_simp
      (try with_reducible rfl)
    simp only [Act.put, List.getElem_toArray, List.getElem_cons_succ, List.getElem_cons_zero, List.setIfInBounds_toArray, List.set_cons_zero, List.set_cons_succ]
    refine wpAnyH_take (i := 11) (v := ?_) rfl (by kernel_rfl) (by kernel_rfl) (by kernel_rfl) (fun _ _ _ h => h) (Or.inl ⟨by rfl, ?_⟩) (by assumption) ?_
    rotate_left
    · intro wq hSw
      (try dsimp only at hSw)
      (try simp only [List.getElem_toArray, List.getElem_cons_succ, List.getElem_cons_zero])
      go_simp
      (try with_reducible rfl)
    simp only [Act.put, List.getElem_toArray, List.getElem_cons_succ, List.getElem_cons_zero, List.setIfInBounds_toArray, List.set_cons_zero, List.set_cons_succ]
    refine wpAnyH_take (i := 13) (v := ?_) rfl (by kernel_rfl) (by kernel_rfl) (by kernel_rfl) (fun _ _ _ h => h) (Or.inl ⟨by rfl, ?_⟩) (by assumption) ?_
    rotate_left
    · intro wq hSw
      (try dsimp only at hSw)
      (try simp only [List.getElem_toArray, List.getElem_cons_succ, List.getElem_cons_zero])
      go_simp
      (try with_reducible rfl)
    simp only [Act.put, List.getElem_toArray, List.getElem_cons_succ, List.getElem_cons_zero, List.setIfInBounds_toArray, List.set_cons_zero, List.set_cons_succ]
    refine wpAnyH_take (i := 14) (v := ?_) rfl (by kernel_rfl) (by kernel_rfl) (by kernel_rfl) (fun _ _ _ h => h) (Or.inl ⟨by rfl, ?_⟩) (by assumption) ?_
    rotate_left
    · intro wq hSw
      (try dsimp only at hSw)
      (try simp only [List.getElem_toArray, List.getElem_cons_succ, List.getElem_cons_zero])
      go_simp
      (try with_reducible rfl)
    simp only [Act.put, List.getElem_toArray, List.getElem_cons_succ, List.getElem_cons_zero, List.setIfInBounds_toArray, List.set_cons_zero, List.set_cons_succ]
    refine wpAnyH_ready (rs := [12]) (by kernel_rfl) (by simp) ?_
    refine AllReadyH.cons rfl (fun K hK => ?_) AllReadyH.nil
    (try simp only [List.getElem_toArray, List.getElem_cons_succ, List.getElem_cons_zero])
    go_simp
    go_at_call 23
    refine (HO1.out _).mono ?_
    rintro e wx12 ⟨rfl, hbx⟩
    have hL := hL.from hbx
    have hS := hL.flat
    clear hbx
    refine hK.out _ _ hS (fun hHeld => ?_)
    clear hK K
    refine wpAnyH_ready (rs := [15]) (by kernel_rfl) (by simp) ?_
    refine AllReadyH.cons rfl (fun K hK => ?_) AllReadyH.nil
    (try simp only [List.getElem_toArray, List.getElem_cons_succ, List.getElem_cons_zero])
    go_simp
    go_at_call 24
    refine (HO2.out _).mono ?_
    rintro e wx15 ⟨rfl, hbx⟩
    have hL := hL.from hbx
    have hS := hL.flat
    clear hbx
    refine hK.out _ _ hS (fun hHeld => ?_)
    clear hK K
    refine wpAnyH_take (i := 16) (v := ?_) rfl (by kernel_rfl) (by kernel_rfl) (by kernel_rfl) (fun _ _ _ h => h) (Or.inl ⟨by rfl, ?_⟩) (by assumption) ?_
    rotate_left
    · intro wq hSw
      (try dsimp only at hSw)
      (try simp only [List.getElem_toArray, List.getElem_cons_succ, List.getElem_cons_zero])
      go_simp
      (try with_reducible rfl)
    simp only [Act.put, List.getElem_toArray, List.getElem_cons_succ, List.getElem_cons_zero, List.setIfInBounds_toArray, List.set_cons_zero, List.set_cons_succ]
    refine wpAnyH_take (i := 17) (v := ?_) rfl (by kernel_rfl) (by kernel_rfl) (by kernel_rfl) (fun _ _ _ h => h) (Or.inl ⟨by rfl, ?_⟩) (by assumption) ?_
    rotate_left
    · intro wq hSw
      (try dsimp only at hSw)
      (try simp only [List.getElem_toArray, List.getElem_cons_succ, List.getElem_cons_zero])
      go_simp
      (try with_reducible rfl)
    simp only [Act.put, List.getElem_toArray, List.getElem_cons_succ, List.getElem_cons_zero, List.setIfInBounds_toArray, List.set_cons_zero, List.set_cons_succ]
    refine wpAnyH_take (i := 18) (v := ?_) rfl (by kernel_rfl) (by kernel_rfl) (by kernel_rfl) (fun _ _ _ h => h) (Or.inl ⟨by rfl, ?_⟩) (by assumption) ?_
    rotate_left
    · intro wq hSw
      (try dsimp only at hSw)
      (try simp only [List.getElem_toArray, List.getElem_cons_succ, List.getElem_cons_zero])
      go_simp
      (try with_reducible rfl)
    simp only [Act.put, List.getElem_toArray, List.getElem_cons_succ, List.getElem_cons_zero, List.setIfInBounds_toArray, List.set_cons_zero, List.set_cons_succ]
    refine wpAnyH_take (i := 19) (v := ?_) rfl (by kernel_rfl) (by kernel_rfl) (by kernel_rfl) (fun _ _ _ h => h) (Or.inl ⟨by rfl, ?_⟩) (by assumption) ?_
    rotate_left
    · intro wq hSw
      (try dsimp only at hSw)
      (try simp only [List.getElem_toArray, List.getElem_cons_succ, List.getElem_cons_zero])
      go_simp
      (try with_reducible rfl)
    simp only [Act.put, List.getElem_toArray, List.getElem_cons_succ, List.getElem_cons_zero, List.setIfInBounds_toArray, List.set_cons_zero, List.set_cons_succ]
    refine wpAnyH_take (i := 20) (v := ?_) rfl (by kernel_rfl) (by kernel_rfl) (by kernel_rfl) (fun _ _ _ h => h) (Or.inl ⟨by rfl, ?_⟩) (by assumption) ?_
    rotate_left
    · intro wq hSw
      (try dsimp only at hSw)
      (try simp only [List.getElem_toArray, List.getElem_cons_succ, List.getElem_cons_zero])
      go_simp
      (try with_reducible rfl)
    simp only [Act.put, List.getElem_toArray, List.getElem_cons_succ, List.getElem_cons_zero, List.setIfInBounds_toArray, List.set_cons_zero, List.set_cons_succ]
    refine wpAnyH_ready (rs := [21]) (by kernel_rfl) (by simp) ?_
    refine AllReadyH.cons rfl (fun K hK => ?_) AllReadyH.nil
    (try simp only [List.getElem_toArray, List.getElem_cons_succ, List.getElem_cons_zero])
    go_simp
    go_at_call 23
    refine (HO1.out _).mono ?_
    rintro e wx21 ⟨rfl, hbx⟩
    have hL := hL.from hbx
    have hS := hL.flat
    clear hbx
    refine hK.out _ _ hS (fun hHeld => ?_)
    clear hK K
    refine wpAnyH_take (i := 22) (v := ?_) rfl (by kernel_rfl) (by kernel_rfl) (by kernel_rfl) (fun _ _ _ h => h) (Or.inl ⟨by rfl, ?_⟩) (by assumption) ?_
    rotate_left
    · intro wq hSw
      (try dsimp only at hSw)
      (try simp only [List.getElem_toArray, List.getElem_cons_succ, List.getElem_cons_zero])
      go_simp
      (try with_reducible rfl)
    simp only [Act.put, List.getElem_toArray, List.getElem_cons_succ, List.getElem_cons_zero, List.setIfInBounds_toArray, List.set_cons_zero, List.set_cons_succ]
    refine wpAnyH_take (i := 23) (v := ?_) rfl (by kernel_rfl) (by kernel_rfl) (by kernel_rfl) (fun _ _ _ h => h) (Or.inl ⟨by rfl, ?_⟩) (by assumption) ?_
    rotate_left
    · intro wq hSw
      (try dsimp only at hSw)
      (try simp only [List.getElem_toArray, List.getElem_cons_succ, List.getElem_cons_zero])
      go_simp
      (try with_reducible rfl)
    simp only [Act.put, List.getElem_toArray, List.getElem_cons_succ, List.getElem_cons_zero, List.setIfInBounds_toArray, List.set_cons_zero, List.set_cons_succ]
    refine wpAnyH_take (i := 24) (v := ?_) rfl (by kernel_rfl) (by kernel_rfl) (by kernel_rfl) (fun _ _ _ h => h) (Or.inl ⟨by rfl, ?_⟩) (by assumption) ?_
    rotate_left
    · intro wq hSw
      (try dsimp only at hSw)
      (try simp only [List.getElem_toArray, List.getElem_cons_succ, List.getElem_cons_zero])
      go_simp
      (try with_reducible rfl)
    simp only [Act.put, List.getElem_toArray, List.getElem_cons_succ, List.getElem_cons_zero, List.setIfInBounds_toArray, List.set_cons_zero, List.set_cons_succ]
    refine wpAnyH_take (i := 25) (v := undef) rfl (by kernel_rfl) (by kernel_rfl) (by kernel_rfl) (fun _ _ _ h => h) (Or.inr ⟨by rfl, rfl⟩) (by assumption) ?_
    simp only [Act.put, List.getElem_toArray, List.getElem_cons_succ, List.getElem_cons_zero, List.setIfInBounds_toArray, List.set_cons_zero, List.set_cons_succ]
    refine wpAnyH_take (i := 26) (v := undef) rfl (by kernel_rfl) (by kernel_rfl) (by kernel_rfl) (fun _ _ _ h => h) (Or.inr ⟨by rfl, rfl⟩) (by assumption) ?_
    simp only [Act.put, List.getElem_toArray, List.getElem_cons_succ, List.getElem_cons_zero, List.setIfInBounds_toArray, List.set_cons_zero, List.set_cons_succ]
    refine wpAnyH_take (i := 27) (v := undef) rfl (by kernel_rfl) (by kernel_rfl) (by kernel_rfl) (fun _ _ _ h => h) (Or.inr ⟨by rfl, rfl⟩) (by assumption) ?_
    simp only [Act.put, List.getElem_toArray, List.getElem_cons_succ, List.getElem_cons_zero, List.setIfInBounds_toArray, List.set_cons_zero, List.set_cons_succ]
    refine wpAnyH_take (i := 28) (v := ?_) rfl (by kernel_rfl) (by kernel_rfl) (by kernel_rfl) (fun _ _ _ h => h) (Or.inl ⟨by rfl, ?_⟩) (by assumption) ?_
    rotate_left
    · intro wq hSw
      (try dsimp only at hSw)
      (try simp only [List.getElem_toArray, List.getElem_cons_succ, List.getElem_cons_zero])
      go_simp
      (try with_reducible rfl)
    simp only [Act.put, List.getElem_toArray, List.getElem_cons_succ, List.getElem_cons_zero, List.setIfInBounds_toArray, List.set_cons_zero, List.set_cons_succ]
    refine wpAnyH_done (by kernel_rfl) ?_ _
    have HL2 := Lib.hid hL
    clear hL hS
    go_wp2_with fail
    have hL := HL2.out.drew
    have hS := hL.flat
    refine wp_region_held_drew (S := (fun wx => ((wx.cell? ⟨x1.heap.size, 0, none⟩ = some (.int .i64 a) ∧ wx.cell? ⟨x1.heap.size, 1, none⟩ = some (.int .i64 b) ∧ wx.cell? ⟨x1.heap.size, 2, none⟩ = some (.int .i64 d) ∧ wx.cell? ⟨x1.heap.size, 3, none⟩ = some (.int .i64 m)) ∧ (wx.cell? ⟨x1.heap.size + 1, 0, none⟩ = some (.string H) ∧ wx.cell? ⟨x1.heap.size + 1, 1, none⟩ = some (.bool o))) ∧ ((wx.cell? ⟨g8, 0, none⟩ = some (.string X) ∧ wx.cell? ⟨g8, 1, none⟩ = some (.bool y)) ∧ (wx.cell? ⟨g10, 0, none⟩ = some (.string X) ∧ wx.cell? ⟨g10, 1, none⟩ = some (.bool y))))) (by kernel_rfl) hS (fun hHeld => ?_)
    refine wpAnyH_take (i := 0) (v := ?_) rfl (by kernel_rfl) (by kernel_rfl) (by kernel_rfl) (fun _ _ _ h => h) (Or.inl ⟨by rfl, ?_⟩) (by assumption) ?_
    rotate_left
    · intro wq hSw
      (try dsimp only at hSw)
      (try simp only [List.getElem_toArray, List.getElem_cons_zero])
      go_simp
      (try with_reducible rfl)
    simp only [Act.put, List.getElem_toArray, List.getElem_cons_zero, List.setIfInBounds_toArray, List.set_cons_zero, List.set_cons_succ]
    refine wpAnyH_take (i := 1) (v := ?_) rfl (by kernel_rfl) (by kernel_rfl) (by kernel_rfl) (fun _ _ _ h => h) (Or.inl ⟨by rfl, ?_⟩) (by assumption) ?_
    rotate_left
    · intro wq hSw
      (try dsimp only at hSw)
      (try simp only [List.getElem_toArray, List.getElem_cons_succ, List.getElem_cons_zero])
      go_simp
      (try with_reducible rfl)
    simp only [Act.put, List.getElem_toArray, List.getElem_cons_succ, List.getElem_cons_zero, List.setIfInBounds_toArray, List.set_cons_zero, List.set_cons_succ]
    refine wpAnyH_take (i := 2) (v := ?_) rfl (by kernel_rfl) (by kernel_rfl) (by kernel_rfl) (fun _ _ _ h => h) (Or.inl ⟨by rfl, ?_⟩) (by assumption) ?_
    rotate_left
    · intro wq hSw
      (try dsimp only at hSw)
      (try simp only [List.getElem_toArray, List.getElem_cons_succ, List.getElem_cons_zero])
      go_simp
      (try with_reducible rfl)
    simp only [Act.put, List.getElem_toArray, List.getElem_cons_succ, List.getElem_cons_zero, List.setIfInBounds_toArray, List.set_cons_zero, List.set_cons_succ]
    refine wpAnyH_take (i := 3) (v := ?_) rfl (by kernel_rfl) (by kernel_rfl) (by kernel_rfl) (fun _ _ _ h => h) (Or.inl ⟨by rfl, ?_⟩) (by assumption) ?_
    rotate_left
    · intro wq hSw
      (try dsimp only at hSw)
      (try simp only [List.getElem_toArray, List.getElem_cons_succ, List.getElem_cons_zero])
      go_simp
      (try with_reducible rfl)
    simp only [Act.put, List.getElem_toArray, List.getElem_cons_succ, List.getElem_cons_zero, List.setIfInBounds_toArray, List.set_cons_zero, List.set_cons_succ]
    refine wpAnyH_take (i := 4) (v := ?_) rfl (by kernel_rfl) (by kernel_rfl) (by kernel_rfl) (fun _ _ _ h => h) (Or.inl ⟨by rfl, ?_⟩) (by assumption) ?_
    rotate_left
    · intro wq hSw
      (try dsimp only at hSw)
      (try simp only [List.getElem_toArray, List.getElem_cons_succ, List.getElem_cons_zero])
      go_simp
      (try with_reducible rfl)
    simp only [Act.put, List.getElem_toArray, List.getElem_cons_succ, List.getElem_cons_zero, List.setIfInBounds_toArray, List.set_cons_zero, List.set_cons_succ]
    refine wpAnyH_take (i := 5) (v := ?_) rfl (by kernel_rfl) (by kernel_rfl) (by kernel_rfl) (fun _ _ _ h => h) (Or.inl ⟨by rfl, ?_⟩) (by assumption) ?_
    rotate_left
    · intro wq hSw
      (try dsimp only at hSw)
      (try simp only [List.getElem_toArray, List.getElem_cons_succ, List.getElem_cons_zero])
      go_simp
      (try with_reducible rfl)
    simp only [Act.put, List.getElem_toArray, List.getElem_cons_succ, List.getElem_cons_zero, List.setIfInBounds_toArray, List.set_cons_zero, List.set_cons_succ]
    refine wpAnyH_ready (rs := [6]) (by kernel_rfl) (by simp) ?_
    refine AllReadyH.cons rfl (fun K hK => ?_) AllReadyH.nil
    (try simp only [List.getElem_toArray, List.getElem_cons_succ, List.getElem_cons_zero])
    go_simp
    go_at_call 22
    refine (ct_any hL hlen).mono ?_
    rintro e wx6 ⟨rfl, hbx⟩
    have hL := hL.from hbx
    have hS := hL.flat
    clear hbx
    refine hK.out _ _ hS (fun hHeld => ?_)
    clear hK K
    refine wpAnyH_take (i := 7) (v := ?_) rfl (by kernel_rfl) (by kernel_rfl) (by kernel_rfl) (fun _ _ _ h => h) (Or.inl ⟨by rfl, ?_⟩) (by assumption) ?_
    rotate_left
    · intro wq hSw
      (try dsimp only at hSw)
      (try simp only [List.getElem_toArray, List.getElem_cons_succ, List.getElem_cons_zero])
      go_simp
      (try with_reducible rfl)
    simp only [Act.put, List.getElem_toArray, List.getElem_cons_succ, List.getElem_cons_zero, List.setIfInBounds_toArray, List.set_cons_zero, List.set_cons_succ]
    refine wpAnyH_take (i := 8) (v := ?_) rfl (by kernel_rfl) (by kernel_rfl) (by kernel_rfl) (fun _ _ _ h => h) (Or.inl ⟨by rfl, ?_⟩) (by assumption) ?_
    rotate_left
    · intro wq hSw
      (try dsimp only at hSw)
      (try simp only [List.getElem_toArray, List.getElem_cons_succ, List.getElem_cons_zero])
      go_simp
      (try with_reducible rfl)
    simp only [Act.put, List.getElem_toArray, List.getElem_cons_succ, List.getElem_cons_zero, List.setIfInBounds_toArray, List.set_cons_zero, List.set_cons_succ]
    refine wpAnyH_take (i := 9) (v := ?_) rfl (by kernel_rfl) (by kernel_rfl) (by kernel_rfl) (fun _ _ _ h => h) (Or.inl ⟨by rfl, ?_⟩) (by assumption) ?_
    rotate_left
    · intro wq hSw
      (try dsimp only at hSw)
      (try simp only [List.getElem_toArray, List.getElem_cons_succ, List.getElem_cons_zero])
      go_simp
      (try with_reducible rfl)
    simp only [Act.put, List.getElem_toArray, List.getElem_cons_succ, List.getElem_cons_zero, List.setIfInBounds_toArray, List.set_cons_zero, List.set_cons_succ]
    refine wpAnyH_take (i := 10) (v := ?_) rfl (by kernel_rfl) (by kernel_rfl) (by kernel_rfl) (fun _ _ _ h => h) (Or.inl ⟨by rfl, ?_⟩) (by assumption) ?_
    rotate_left
    · intro wq hSw
      (try dsimp only at hSw)
      (try simp only [List.getElem_toArray, List.getElem_cons_succ, List.getElem_cons_zero])
      go_simp
      (try with_reducible rfl)
    simp only [Act.put, List.getElem_toArray, List.getElem_cons_succ, List.getElem_cons_zero, List.setIfInBounds_toArray, List.set_cons_zero, List.set_cons_succ]
    refine wpAnyH_take (i := 12) (v := ?_) rfl (by kernel_rfl) (by kernel_rfl) (by kernel_rfl) (fun _ _ _ h => h) (Or.inl ⟨by rfl, ?_⟩) (by assumption) ?_
    rotate_left
    · intro wq hSw
      (try dsimp only at hSw)
      (try simp only [List.getElem_toArray, List.getElem_cons_succ, List.getElem_cons_zero])
      go_simp
      (try with_reducible rfl)
    simp only [Act.put, List.getElem_toArray, List.getElem_cons_succ, List.getElem_cons_zero, List.setIfInBounds_toArray, List.set_cons_zero, List.set_cons_succ]
    refine wpAnyH_take (i := 13) (v := ?_) rfl (by kernel_rfl) (by kernel_rfl) (by kernel_rfl) (fun _ _ _ h => h) (Or.inl ⟨by rfl, ?_⟩) (by assumption) ?_
    rotate_left
    · intro wq hSw
      (try dsimp only at hSw)
      (try simp only [List.getElem_toArray, List.getElem_cons_succ, List.getElem_cons_zero])
      go_simp
      (try with_reducible rfl)
    simp only [Act.put, List.getElem_toArray, List.getElem_cons_succ, List.getElem_cons_zero, List.setIfInBounds_toArray, List.set_cons_zero, List.set_cons_succ]
    refine wpAnyH_ready (rs := [11]) (by kernel_rfl) (by simp) ?_
    refine AllReadyH.cons rfl (fun K hK => ?_) AllReadyH.nil
    (try simp only [List.getElem_toArray, List.getElem_cons_succ, List.getElem_cons_zero])
    go_simp
    go_at_call 23
    refine (HO1.out _).mono ?_
    rintro e wx11 ⟨rfl, hbx⟩
    have hL := hL.from hbx
    have hS := hL.flat
    clear hbx
    refine hK.out _ _ hS (fun hHeld => ?_)
    clear hK K
    refine wpAnyH_ready (rs := [14]) (by kernel_rfl) (by simp) ?_
    refine AllReadyH.cons rfl (fun K hK => ?_) AllReadyH.nil
    (try simp only [List.getElem_toArray, List.getElem_cons_succ, List.getElem_cons_zero])
    go_simp
    go_at_call 24
    refine (HO2.out _).mono ?_
    rintro e wx14 ⟨rfl, hbx⟩
    have hL := hL.from hbx
    have hS := hL.flat
    clear hbx
    refine hK.out _ _ hS (fun hHeld => ?_)
    clear hK K
    refine wpAnyH_take (i := 15) (v := ?_) rfl (by kernel_rfl) (by kernel_rfl) (by kernel_rfl) (fun _ _ _ h => h) (Or.inl ⟨by rfl, ?_⟩) (by assumption) ?_
    rotate_left
    · intro wq hSw
      (try dsimp only at hSw)
      (try simp only [List.getElem_toArray, List.getElem_cons_succ, List.getElem_cons_zero])
      go_simp
      (try with_reducible rfl)
    simp only [Act.put, List.getElem_toArray, List.getElem_cons_succ, List.getElem_cons_zero, List.setIfInBounds_toArray, List.set_cons_zero, List.set_cons_succ]
    refine wpAnyH_take (i := 16) (v := ?_) rfl (by kernel_rfl) (by kernel_rfl) (by kernel_rfl) (fun _ _ _ h => h) (Or.inl ⟨by rfl, ?_⟩) (by assumption) ?_
    rotate_left
    · intro wq hSw
      (try dsimp only at hSw)
      (try simp only [List.getElem_toArray, List.getElem_cons_succ, List.getElem_cons_zero])
      go_simp
      (try with_reducible rfl)
    simp only [Act.put, List.getElem_toArray, List.getElem_cons_succ, List.getElem_cons_zero, List.setIfInBounds_toArray, List.set_cons_zero, List.set_cons_succ]
    refine wpAnyH_take (i := 17) (v := ?_) rfl (by kernel_rfl) (by kernel_rfl) (by kernel_rfl) (fun _ _ _ h => h) (Or.inl ⟨by rfl, ?_⟩) (by assumption) ?_
    rotate_left
    · intro wq hSw
      (try dsimp only at hSw)
      (try simp only [List.getElem_toArray, List.getElem_cons_succ, List.getElem_cons_zero])
      go_simp
      (try with_reducible rfl)
    simp only [Act.put, List.getElem_toArray, List.getElem_cons_succ, List.getElem_cons_zero, List.setIfInBounds_toArray, List.set_cons_zero, List.set_cons_succ]
    refine wpAnyH_done (by kernel_rfl) ?_ _
    have HB := Lib.hid (HB1.out.trans (hL.below.mono HB1.out.size))
    clear hL hS
    go_wp2
    go_ret
    exact ⟨rfl, HB.out⟩
  | true =>
    rw [hok] at HO1 HO2
    have HOK := Lib.hid hok
    have HPT2 := Lib.hid (HPT.out hok)
    clear hok HPT
    go_wp2_with fail
    have hL := HL.out.drew
    have hS := hL.flat
    refine wp_region_held_drew (S := (fun wx => ((wx.cell? ⟨x1.heap.size, 0, none⟩ = some (.int .i64 a) ∧ wx.cell? ⟨x1.heap.size, 1, none⟩ = some (.int .i64 b) ∧ wx.cell? ⟨x1.heap.size, 2, none⟩ = some (.int .i64 d) ∧ wx.cell? ⟨x1.heap.size, 3, none⟩ = some (.int .i64 m)) ∧ (wx.cell? ⟨x1.heap.size + 1, 0, none⟩ = some (.string H) ∧ wx.cell? ⟨x1.heap.size + 1, 1, none⟩ = some (.bool o))) ∧ ((wx.cell? ⟨g8, 0, none⟩ = some (.string X) ∧ wx.cell? ⟨g8, 1, none⟩ = some (.bool y)) ∧ (wx.cell? ⟨g10, 0, none⟩ = some (.string X) ∧ wx.cell? ⟨g10, 1, none⟩ = some (.bool y))))) (by kernel_rfl) hS (fun hHeld => ?_)
    refine wpAnyH_take (i := 0) (v := ?_) rfl (by kernel_rfl) (by kernel_rfl) (by kernel_rfl) (fun _ _ _ h => h) (Or.inl ⟨by rfl, ?_⟩) (by assumption) ?_
    rotate_left
    · intro wq hSw
      (try dsimp only at hSw)
      (try simp only [List.getElem_toArray, List.getElem_cons_zero])
      go_simp
      (try with_reducible rfl)
    simp only [Act.put, List.getElem_toArray, List.getElem_cons_zero, List.setIfInBounds_toArray, List.set_cons_zero, List.set_cons_succ]
    refine wpAnyH_take (i := 1) (v := ?_) rfl (by kernel_rfl) (by kernel_rfl) (by kernel_rfl) (fun _ _ _ h => h) (Or.inl ⟨by rfl, ?_⟩) (by assumption) ?_
    rotate_left
    · intro wq hSw
      (try dsimp only at hSw)
      (try simp only [List.getElem_toArray, List.getElem_cons_succ, List.getElem_cons_zero])
      go_simp
      (try with_reducible rfl)
    simp only [Act.put, List.getElem_toArray, List.getElem_cons_succ, List.getElem_cons_zero, List.setIfInBounds_toArray, List.set_cons_zero, List.set_cons_succ]
    refine wpAnyH_take (i := 2) (v := ?_) rfl (by kernel_rfl) (by kernel_rfl) (by kernel_rfl) (fun _ _ _ h => h) (Or.inl ⟨by rfl, ?_⟩) (by assumption) ?_
    rotate_left
    · intro wq hSw
      (try dsimp only at hSw)
      (try simp only [List.getElem_toArray, List.getElem_cons_succ, List.getElem_cons_zero])
      go_simp
      (try with_reducible rfl)
    simp only [Act.put, List.getElem_toArray, List.getElem_cons_succ, List.getElem_cons_zero, List.setIfInBounds_toArray, List.set_cons_zero, List.set_cons_succ]
    refine wpAnyH_take (i := 3) (v := ?_) rfl (by kernel_rfl) (by kernel_rfl) (by kernel_rfl) (fun _ _ _ h => h) (Or.inl ⟨by rfl, ?_⟩) (by assumption) ?_
    rotate_left
    · intro wq hSw
      (try dsimp only at hSw)
      (try simp only [List.getElem_toArray, List.getElem_cons_succ, List.getElem_cons_zero])
      go_simp
      (try with_reducible rfl)
    simp only [Act.put, List.getElem_toArray, List.getElem_cons_succ, List.getElem_cons_zero, List.setIfInBounds_toArray, List.set_cons_zero, List.set_cons_succ]
    refine wpAnyH_take (i := 4) (v := ?_) rfl (by kernel_rfl) (by kernel_rfl) (by kernel_rfl) (fun _ _ _ h => h) (Or.inl ⟨by rfl, ?_⟩) (by assumption) ?_
    rotate_left
    · intro wq hSw
      (try dsimp only at hSw)
      (try simp only [List.getElem_toArray, List.getElem_cons_succ, List.getElem_cons_zero])
      go_simp
      (try with_reducible rfl)
    simp only [Act.put, List.getElem_toArray, List.getElem_cons_succ, List.getElem_cons_zero, List.setIfInBounds_toArray, List.set_cons_zero, List.set_cons_succ]
    refine wpAnyH_take (i := 5) (v := ?_) rfl (by kernel_rfl) (by kernel_rfl) (by kernel_rfl) (fun _ _ _ h => h) (Or.inl ⟨by rfl, ?_⟩) (by assumption) ?_
    rotate_left
    · intro wq hSw
      (try dsimp only at hSw)
      (try simp only [List.getElem_toArray, List.getElem_cons_succ, List.getElem_cons_zero])
      go_simp
      (try with_reducible rfl)
    simp only [Act.put, List.getElem_toArray, List.getElem_cons_succ, List.getElem_cons_zero, List.setIfInBounds_toArray, List.set_cons_zero, List.set_cons_succ]
    refine wpAnyH_ready (rs := [6]) (by kernel_rfl) (by simp) ?_
    refine AllReadyH.cons rfl (fun K hK => ?_) AllReadyH.nil
    (try simp only [List.getElem_toArray, List.getElem_cons_succ, List.getElem_cons_zero])
    go_simp
    go_at_call 22
    refine (ct_any hL hlen).mono ?_
    rintro e wx6 ⟨rfl, hbx⟩
    have hL := hL.from hbx
    have hS := hL.flat
    clear hbx
    refine hK.out _ _ hS (fun hHeld => ?_)
    clear hK K
    refine wpAnyH_take (i := 7) (v := ?_) rfl (by kernel_rfl) (by kernel_rfl) (by kernel_rfl) (fun _ _ _ h => h) (Or.inl ⟨by rfl, ?_⟩) (by assumption) ?_
    rotate_left
    · intro wq hSw
      (try dsimp only at hSw)
      (try simp only [List.getElem_toArray, List.getElem_cons_succ, List.getElem_cons_zero])
      go_simp
      (try with_reducible rfl)
    simp only [Act.put, List.getElem_toArray, List.getElem_cons_succ, List.getElem_cons_zero, List.setIfInBounds_toArray, List.set_cons_zero, List.set_cons_succ]
    refine wpAnyH_take (i := 8) (v := ?_) rfl (by kernel_rfl) (by kernel_rfl) (by kernel_rfl) (fun _ _ _ h => h) (Or.inl ⟨by rfl, ?_⟩) (by assumption) ?_
    rotate_left
    · intro wq hSw
      (try dsimp only at hSw)
      (try simp only [List.getElem_toArray, List.getElem_cons_succ, List.getElem_cons_zero])
      go_simp
      (try with_reducible rfl)
    simp only [Act.put, List.getElem_toArray, List.getElem_cons_succ, List.getElem_cons_zero, List.setIfInBounds_toArray, List.set_cons_zero, List.set_cons_succ]
    refine wpAnyH_take (i := 9) (v := ?_) rfl (by kernel_rfl) (by kernel_rfl) (by kernel_rfl) (fun _ _ _ h => h) (Or.inl ⟨by rfl, ?_⟩) (by assumption) ?_
    rotate_left
    · intro wq hSw
      (try dsimp only at hSw)
      (try simp only [List.getElem_toArray, List.getElem_cons_succ, List.getElem_cons_zero])
      go_simp
      (try with_reducible rfl)
    simp only [Act.put, List.getElem_toArray, List.getElem_cons_succ, List.getElem_cons_zero, List.setIfInBounds_toArray, List.set_cons_zero, List.set_cons_succ]
    refine wpAnyH_take (i := 10) (v := ?_) rfl (by kernel_rfl) (by kernel_rfl) (by kernel_rfl) (fun _ _ _ h => h) (Or.inl ⟨by rfl, ?_⟩) (by assumption) ?_
    rotate_left
    · intro wq hSw
      (try dsimp only at hSw)
      (try simp only [List.getElem_toArray, List.getElem_cons_succ, List.getElem_cons_zero])
      go_simp
      (try with_reducible rfl)
    simp only [Act.put, List.getElem_toArray, List.getElem_cons_succ, List.getElem_cons_zero, List.setIfInBounds_toArray, List.set_cons_zero, List.set_cons_succ]
    refine wpAnyH_take (i := 11) (v := ?_) rfl (by kernel_rfl) (by kernel_rfl) (by kernel_rfl) (fun _ _ _ h => h) (Or.inl ⟨by rfl, ?_⟩) (by assumption) ?_
    rotate_left
    · intro wq hSw
      (try dsimp only at hSw)
      (try simp only [List.getElem_toArray, List.getElem_cons_succ, List.getElem_cons_zero])
      go_simp
      (try with_reducible rfl)
    simp only [Act.put, List.getElem_toArray, List.getElem_cons_succ, List.getElem_cons_zero, List.setIfInBounds_toArray, List.set_cons_zero, List.set_cons_succ]
    refine wpAnyH_take (i := 13) (v := ?_) rfl (by kernel_rfl) (by kernel_rfl) (by kernel_rfl) (fun _ _ _ h => h) (Or.inl ⟨by rfl, ?_⟩) (by assumption) ?_
    rotate_left
    · intro wq hSw
      (try dsimp only at hSw)
      (try simp only [List.getElem_toArray, List.getElem_cons_succ, List.getElem_cons_zero])
      go_simp
      (try with_reducible rfl)
    simp only [Act.put, List.getElem_toArray, List.getElem_cons_succ, List.getElem_cons_zero, List.setIfInBounds_toArray, List.set_cons_zero, List.set_cons_succ]
    refine wpAnyH_take (i := 14) (v := ?_) rfl (by kernel_rfl) (by kernel_rfl) (by kernel_rfl) (fun _ _ _ h => h) (Or.inl ⟨by rfl, ?_⟩) (by assumption) ?_
    rotate_left
    · intro wq hSw
      (try dsimp only at hSw)
      (try simp only [List.getElem_toArray, List.getElem_cons_succ, List.getElem_cons_zero])
      go_simp
      (try with_reducible rfl)
    simp only [Act.put, List.getElem_toArray, List.getElem_cons_succ, List.getElem_cons_zero, List.setIfInBounds_toArray, List.set_cons_zero, List.set_cons_succ]
    refine wpAnyH_ready (rs := [12]) (by kernel_rfl) (by simp) ?_
    refine AllReadyH.cons rfl (fun K hK => ?_) AllReadyH.nil
    (try simp only [List.getElem_toArray, List.getElem_cons_succ, List.getElem_cons_zero])
    go_simp
    go_at_call 23
    refine (HO1.out _).mono ?_
    rintro e wx12 ⟨rfl, hbx⟩
    have hL := hL.from hbx
    have hS := hL.flat
    clear hbx
    refine hK.out _ _ hS (fun hHeld => ?_)
    clear hK K
    refine wpAnyH_ready (rs := [15]) (by kernel_rfl) (by simp) ?_
    refine AllReadyH.cons rfl (fun K hK => ?_) AllReadyH.nil
    (try simp only [List.getElem_toArray, List.getElem_cons_succ, List.getElem_cons_zero])
    go_simp
    go_at_call 24
    refine (HO2.out _).mono ?_
    rintro e wx15 ⟨rfl, hbx⟩
    have hL := hL.from hbx
    have hS := hL.flat
    clear hbx
    refine hK.out _ _ hS (fun hHeld => ?_)
    clear hK K
    refine wpAnyH_take (i := 16) (v := ?_) rfl (by kernel_rfl) (by kernel_rfl) (by kernel_rfl) (fun _ _ _ h => h) (Or.inl ⟨by rfl, ?_⟩) (by assumption) ?_
    rotate_left
    · intro wq hSw
      (try dsimp only at hSw)
      (try simp only [List.getElem_toArray, List.getElem_cons_succ, List.getElem_cons_zero])
      go_simp
      (try with_reducible rfl)
    simp only [Act.put, List.getElem_toArray, List.getElem_cons_succ, List.getElem_cons_zero, List.setIfInBounds_toArray, List.set_cons_zero, List.set_cons_succ]
    refine wpAnyH_take (i := 17) (v := ?_) rfl (by kernel_rfl) (by kernel_rfl) (by kernel_rfl) (fun _ _ _ h => h) (Or.inl ⟨by rfl, ?_⟩) (by assumption) ?_
    rotate_left
    · intro wq hSw
      (try dsimp only at hSw)
      (try simp only [List.getElem_toArray, List.getElem_cons_succ, List.getElem_cons_zero])
      go_simp
      (try with_reducible rfl)
    simp only [Act.put, List.getElem_toArray, List.getElem_cons_succ, List.getElem_cons_zero, List.setIfInBounds_toArray, List.set_cons_zero, List.set_cons_succ]
    refine wpAnyH_take (i := 18) (v := ?_) rfl (by kernel_rfl) (by kernel_rfl) (by kernel_rfl) (fun _ _ _ h => h) (Or.inl ⟨by rfl, ?_⟩) (by assumption) ?_
    rotate_left
    · intro wq hSw
      (try dsimp only at hSw)
      (try simp only [List.getElem_toArray, List.getElem_cons_succ, List.getElem_cons_zero])
      go_simp
      (try with_reducible rfl)
    simp only [Act.put, List.getElem_toArray, List.getElem_cons_succ, List.getElem_cons_zero, List.setIfInBounds_toArray, List.set_cons_zero, List.set_cons_succ]
    refine wpAnyH_take (i := 19) (v := ?_) rfl (by kernel_rfl) (by kernel_rfl) (by kernel_rfl) (fun _ _ _ h => h) (Or.inl ⟨by rfl, ?_⟩) (by assumption) ?_
    rotate_left
    · intro wq hSw
      (try dsimp only at hSw)
      (try simp only [List.getElem_toArray, List.getElem_cons_succ, List.getElem_cons_zero])
      go_simp
      (try with_reducible rfl)
    simp only [Act.put, List.getElem_toArray, List.getElem_cons_succ, List.getElem_cons_zero, List.setIfInBounds_toArray, List.set_cons_zero, List.set_cons_succ]
    refine wpAnyH_take (i := 20) (v := ?_) rfl (by kernel_rfl) (by kernel_rfl) (by kernel_rfl) (fun _ _ _ h => h) (Or.inl ⟨by rfl, ?_⟩) (by assumption) ?_
    rotate_left
    · intro wq hSw
      (try dsimp only at hSw)
      (try simp only [List.getElem_toArray, List.getElem_cons_succ, List.getElem_cons_zero])
      go_simp
      (try with_reducible rfl)
    simp only [Act.put, List.getElem_toArray, List.getElem_cons_succ, List.getElem_cons_zero, List.setIfInBounds_toArray, List.set_cons_zero, List.set_cons_succ]
    refine wpAnyH_ready (rs := [21]) (by kernel_rfl) (by simp) ?_
    refine AllReadyH.cons rfl (fun K hK => ?_) AllReadyH.nil
    (try simp only [List.getElem_toArray, List.getElem_cons_succ, List.getElem_cons_zero])
    go_simp
    go_at_call 23
    refine (HO1.out _).mono ?_
    rintro e wx21 ⟨rfl, hbx⟩
    have hL := hL.from hbx
    have hS := hL.flat
    clear hbx
    refine hK.out _ _ hS (fun hHeld => ?_)
    clear hK K
    refine wpAnyH_take (i := 22) (v := ?_) rfl (by kernel_rfl) (by kernel_rfl) (by kernel_rfl) (fun _ _ _ h => h) (Or.inl ⟨by rfl, ?_⟩) (by assumption) ?_
    rotate_left
    · intro wq hSw
      (try dsimp only at hSw)
      (try simp only [List.getElem_toArray, List.getElem_cons_succ, List.getElem_cons_zero])
      go_simp
      (try with_reducible rfl)
    simp only [Act.put, List.getElem_toArray, List.getElem_cons_succ, List.getElem_cons_zero, List.setIfInBounds_toArray, List.set_cons_zero, List.set_cons_succ]
    refine wpAnyH_take (i := 23) (v := ?_) rfl (by kernel_rfl) (by kernel_rfl) (by kernel_rfl) (fun _ _ _ h => h) (Or.inl ⟨by rfl, ?_⟩) (by assumption) ?_
    rotate_left
    · intro wq hSw
      (try dsimp only at hSw)
      (try simp only [List.getElem_toArray, List.getElem_cons_succ, List.getElem_cons_zero])
      go_simp
      (try with_reducible rfl)
    simp only [Act.put, List.getElem_toArray, List.getElem_cons_succ, List.getElem_cons_zero, List.setIfInBounds_toArray, List.set_cons_zero, List.set_cons_succ]
    refine wpAnyH_take (i := 24) (v := ?_) rfl (by kernel_rfl) (by kernel_rfl) (by kernel_rfl) (fun _ _ _ h => h) (Or.inl ⟨by rfl, ?_⟩) (by assumption) ?_
    rotate_left
    · intro wq hSw
      (try dsimp only at hSw)
      (try simp only [List.getElem_toArray, List.getElem_cons_succ, List.getElem_cons_zero])
      go_simp
      (try with_reducible rfl)
    simp only [Act.put, List.getElem_toArray, List.getElem_cons_succ, List.getElem_cons_zero, List.setIfInBounds_toArray, List.set_cons_zero, List.set_cons_succ]
    refine wpAnyH_take (i := 25) (v := ?_) rfl (by kernel_rfl) (by kernel_rfl) (by kernel_rfl) (fun _ _ _ h => h) (Or.inl ⟨by rfl, ?_⟩) (by assumption) ?_
    rotate_left
    · intro wq hSw
      (try dsimp only at hSw)
      (try simp only [List.getElem_toArray, List.getElem_cons_succ, List.getElem_cons_zero])
      go_simp
      (try with_reducible rfl)
    simp only [Act.put, List.getElem_toArray, List.getElem_cons_succ, List.getElem_cons_zero, List.setIfInBounds_toArray, List.set_cons_zero, List.set_cons_succ]
    refine wpAnyH_take (i := 26) (v := ?_) rfl (by kernel_rfl) (by kernel_rfl) (by kernel_rfl) (fun _ _ _ h => h) (Or.inl ⟨by rfl, ?_⟩) (by assumption) ?_
    rotate_left
    · intro wq hSw
      (try dsimp only at hSw)
      (try simp only [List.getElem_toArray, List.getElem_cons_succ, List.getElem_cons_zero])
      go_simp
      (try with_reducible rfl)
    simp only [Act.put, List.getElem_toArray, List.getElem_cons_succ, List.getElem_cons_zero, List.setIfInBounds_toArray, List.set_cons_zero, List.set_cons_succ]
    refine wpAnyH_take (i := 27) (v := ?_) rfl (by kernel_rfl) (by kernel_rfl) (by kernel_rfl) (fun _ _ _ h => h) (Or.inl ⟨by rfl, ?_⟩) (by assumption) ?_
    rotate_left
    · intro wq hSw
      (try dsimp only at hSw)
      (try simp only [List.getElem_toArray, List.getElem_cons_succ, List.getElem_cons_zero])
      go_simp
      (try with_reducible rfl)
    simp only [Act.put, List.getElem_toArray, List.getElem_cons_succ, List.getElem_cons_zero, List.setIfInBounds_toArray, List.set_cons_zero, List.set_cons_succ]
    refine wpAnyH_take (i := 28) (v := ?_) rfl (by kernel_rfl) (by kernel_rfl) (by kernel_rfl) (fun _ _ _ h => h) (Or.inl ⟨by rfl, ?_⟩) (by assumption) ?_
    rotate_left
    · intro wq hSw
      (try dsimp only at hSw)
      (try simp only [List.getElem_toArray, List.getElem_cons_succ, List.getElem_cons_zero])
      go_simp
      (try with_reducible rfl)
    simp only [Act.put, List.getElem_toArray, List.getElem_cons_succ, List.getElem_cons_zero, List.setIfInBounds_toArray, List.set_cons_zero, List.set_cons_succ]
    refine wpAnyH_done (by kernel_rfl) ?_ _
    have HL2 := Lib.hid hL
    clear hL hS
    obtain ⟨q, hq⟩ : ∃ q, len1 % (s.size + 1) = q := ⟨_, rfl⟩
    have hqs : q ≤ s.size := by have := Nat.mod_lt len1 (show 0 < s.size + 1 by omega); omega
    have hqi : (len1 : Int) % ((s.size : Int) + 1) = (q : Int) := by rw [← hq]; simp
    have hqi2 : (len1 : Int).tmod ((s.size : Int) + 1) = (q : Int) := by rw [Int.tmod_eq_emod_of_nonneg (by omega)]; exact hqi
    have HQ := Lib.hid hq
    clear hq
    have hsl1 := slice_to s q hqs
    have hsl2 := slice_from s q hqs
    obtain ⟨P, hP⟩ : ∃ P : ByteArray, s.extract 0 q = P := ⟨_, rfl⟩
    obtain ⟨R, hR⟩ : ∃ R : ByteArray, s.extract q s.size = R := ⟨_, rfl⟩
    have hPd : P.data.toList = s.data.toList.take q := by rw [← hP, ext_to]
    have hRd : R.data.toList = s.data.toList.drop q := by rw [← hR, ext_from]
    have hPs : P.size ≤ 600 := by rw [← size_list, hPd, List.length_take, size_list]; omega
    have hRs : R.size ≤ 600 := by rw [← size_list, hRd, List.length_drop, size_list]; omega
    rw [hP] at hsl1
    rw [hR] at hsl2
    obtain ⟨hpt1, hpt2, hpt3⟩ := HPT2.out q
    obtain ⟨hYl, _⟩ := feedF_held ⟨a, b, d, m⟩ ⟨H.data.toList, o⟩ (s.data.toList.take q) HOK.out (by rw [← hPd, size_list]; exact hPs)
    have hes1 := feedF_len ⟨a, b, d, m⟩ ⟨H.data.toList, o⟩ (s.data.toList.take q)
    have hF1 := fun W => implFindFeed_any a b d m H o P W wa hHm (by unfold maxLen; omega)
    rw [hPd] at hF1
    obtain ⟨p1, hp1⟩ : ∃ p1, feedF ⟨a, b, d, m⟩ ⟨H.data.toList, o⟩ (s.data.toList.take q) = p1 := ⟨_, rfl⟩
    rw [hp1] at hpt2 hpt3 hYl hes1 hF1
    obtain ⟨⟨Yl, yy⟩, es1⟩ := p1
    obtain ⟨Y, rfl⟩ : ∃ Y : ByteArray, Y.data.toList = Yl := ⟨⟨Yl.toArray⟩, rfl⟩
    simp only at hpt2 hpt3 hYl hes1
    rw [size_list] at hYl
    have hF2 := fun W => implFindFeed_any a b d m Y yy R W wa (by unfold maxLen; omega) (by unfold maxLen; omega)
    rw [hRd] at hF2
    have hes2 := feedF_len ⟨a, b, d, m⟩ ⟨Y.data.toList, yy⟩ (s.data.toList.drop q)
    obtain ⟨p2, hp2⟩ : ∃ p2, feedF ⟨a, b, d, m⟩ ⟨Y.data.toList, yy⟩ (s.data.toList.drop q) = p2 := ⟨_, rfl⟩
    rw [hp2] at hpt2 hpt3 hF2 hes2
    obtain ⟨f2, es2⟩ := p2
    simp only at hpt2 hpt3 hes2
    subst hpt2
    have HF1 := Lib.hid hF1
    have HF2 := Lib.hid hF2
    have HE := Lib.hid hpt3
    have hXs : X.size ≤ maxLen := by
      have hh := (okF_yes hpt1).2.1
      have hp := hold_pos (okF_yes hpt1).1
      simp only [size_list] at hh
      unfold maxLen; omega
    have HO3 := Lib.hid (fun W => implFindOk_any a b d m X y W wa hXs)
    rw [hpt1] at HO3
    have HF := Lib.hid (show BF x1 wx21 a b d m (x1.heap.size + 1) H o from ⟨HL2.out.1.1, HL2.out.1.2.1, by have := HL2.out.1.2.2.2; omega, by have := HL2.out.1.2.2.2; omega⟩)
    clear hP hR hPd hRd hF1 hF2 hp1 hp2 hpt1 hpt3 hXs HPT2
    go_upto_region 9 with fail
    go_cut [13, 14] (fun sb se wx => ∃ g, sb = .pointer (some ⟨g, 0, none⟩) ∧ XO wx21.drew wx g Y yy se es1)
    case first =>
      have hF := HF.out.drew
      have hge : _ ≤ wx21.heap.size := hF.top
      go_region_held3 (fun wx => (wx.cell? ⟨x1.heap.size, 0, none⟩ = some (.int .i64 a) ∧ wx.cell? ⟨x1.heap.size, 1, none⟩ = some (.int .i64 b) ∧ wx.cell? ⟨x1.heap.size, 2, none⟩ = some (.int .i64 d) ∧ wx.cell? ⟨x1.heap.size, 3, none⟩ = some (.int .i64 m)) ∧ (wx.cell? ⟨x1.heap.size + 1, 0, none⟩ = some (.string H) ∧ wx.cell? ⟨x1.heap.size + 1, 1, none⟩ = some (.bool o))) (first | exact hFl.flat2 | exact (hFl.alloc _).flat2 | exact ((hFl.farSet hge _).farSet hge _).flat2 | exact hF.flat2 | exact (hF.alloc _).flat2) (first | (go_at_call 18; refine (HF1.out _).mono ?_; rintro e w3 ⟨v3, rfl, ho3, hb3⟩; simp only [fdL, Lib.mk_data]; (first | (have hFl := hF.next hb3) | (have hx : BK (wx21.drew.alloc (.cells #[.string ⟨#[]⟩, .bool false] 30)) wx21.heap.size #[.string ⟨#[]⟩, .bool false] 30 := BK.new wx21.drew _ _; have hx3 : BK w3 wx21.heap.size #[.string ⟨#[]⟩, .bool false] 30 := hx.from hb3; have q8 := hx3.cell (i := 0) rfl; have q9 := hx3.cell (i := 1) rfl; have y0 := hx3.free 0; have y1 := hx3.free 1; have hFl := (hF.alloc (.cells #[.string ⟨#[]⟩, .bool false] 30)).next hb3))))
      all_goals
        (first
          | (have hXO := xo_box (w0 := wx21.drew) ((Below.refl _ _).alloc (Nat.le_refl _) (.cells #[.string ⟨#[]⟩, .bool false] 30)) hx (Nat.le_refl _) hb3 ho3 Y yy)
          | (have hXO := xo_last (Below.refl _ _) hb3 ho3 Y yy))
        have HXO := Lib.hid hXO
        clear hXO
        go_wp2
        go_meet
        exact ⟨_, rfl, HXO.out⟩
    case rest =>
      obtain ⟨g13, rfl, hxo⟩ := hcut
      have HL3 := Lib.hid (HL2.out.drew.from hxo.2.2.2)
      have HR1 := Lib.hid (hxo.2.2.1.reads.mono (Nat.zero_le _) (Nat.le_refl _))
      have HG := Lib.hid (show BF x1 wc a b d m g13 Y yy from ⟨HL3.out.1.1, ⟨hxo.1.cell rfl, hxo.1.cell rfl⟩, by have := HL3.out.1.2.2.2; omega, hxo.1.lt⟩)
      generalize u14 = v14 at *
      clear hxo HL2 HF
      go_upto_region 10 with fail
      go_cut [15, 16] (fun sb se wx => ∃ g, sb = .pointer (some ⟨g, 0, none⟩) ∧ XO wc.drew wx g X y se es2)
      case first =>
        have hF := HG.out.drew
        have hge : _ ≤ wc.heap.size := hF.top
        go_region_held3 (fun wx => (wx.cell? ⟨x1.heap.size, 0, none⟩ = some (.int .i64 a) ∧ wx.cell? ⟨x1.heap.size, 1, none⟩ = some (.int .i64 b) ∧ wx.cell? ⟨x1.heap.size, 2, none⟩ = some (.int .i64 d) ∧ wx.cell? ⟨x1.heap.size, 3, none⟩ = some (.int .i64 m)) ∧ (wx.cell? ⟨g13, 0, none⟩ = some (.string Y) ∧ wx.cell? ⟨g13, 1, none⟩ = some (.bool yy))) (first | exact hFl.flat2 | exact (hFl.alloc _).flat2 | exact ((hFl.farSet hge _).farSet hge _).flat2 | exact hF.flat2 | exact (hF.alloc _).flat2) (first | (go_at_call 18; refine (HF2.out _).mono ?_; rintro e w3 ⟨v3, rfl, ho3, hb3⟩; simp only [fdL, Lib.mk_data]; (first | (have hFl := hF.next hb3) | (have hx : BK (wc.drew.alloc (.cells #[.string ⟨#[]⟩, .bool false] 30)) wc.heap.size #[.string ⟨#[]⟩, .bool false] 30 := BK.new wc.drew _ _; have hx3 : BK w3 wc.heap.size #[.string ⟨#[]⟩, .bool false] 30 := hx.from hb3; have q8 := hx3.cell (i := 0) rfl; have q9 := hx3.cell (i := 1) rfl; have y0 := hx3.free 0; have y1 := hx3.free 1; have hFl := (hF.alloc (.cells #[.string ⟨#[]⟩, .bool false] 30)).next hb3))))
        all_goals
          (first
            | (have hXO := xo_box (w0 := wc.drew) ((Below.refl _ _).alloc (Nat.le_refl _) (.cells #[.string ⟨#[]⟩, .bool false] 30)) hx (Nat.le_refl _) hb3 ho3 X y)
            | (have hXO := xo_last (Below.refl _ _) hb3 ho3 X y))
          have HXO := Lib.hid hXO
          clear hXO
          go_wp2
          go_meet
          exact ⟨_, rfl, HXO.out⟩
      case rest =>
        obtain ⟨g15, rfl, hxo⟩ := hcut
        have hL4 := HL3.out.drew.from hxo.2.2.2
        have hR1 := HR1.out.drew.below hxo.2.2.2
        have hR2 := hxo.2.2.1.reads.mono (Nat.zero_le _) (Nat.le_refl _)
        obtain ⟨⟨⟨c0, c1, c2, c3⟩, _, _⟩, ⟨d0, d1⟩, _, _⟩ := hL4.flat
        have HL4 := Lib.hid hL4
        have HR14 := Lib.hid (hR1.mono (Nat.zero_le _) hxo.2.2.2.size)
        have HR16 := Lib.hid hR2
        have HK15 := Lib.hid hxo.1
        generalize u16 = v16 at *
        clear hxo hL4 hR1 hR2 HL3 HR1 HG
        go_wp2_with fail
        refine (HO3.out _).mono ?_
        rintro e z1 ⟨rfl, hb1⟩
        have hL5 := HL4.out.from hb1
        obtain ⟨⟨_, _⟩, ⟨d0, d1⟩, _, _⟩ := hL5.flat
        have hk5 := HK15.out.from hb1
        have k0 := hk5.cell (i := 0) rfl
        have k1 := hk5.cell (i := 1) rfl
        have HL6 := Lib.hid (hL5.from ((Below.refl _ _).alloc (Nat.le_refl _) (.cells #[] 47)))
        have HR14b := Lib.hid ((HR14.out.below hb1).below ((Below.refl _ _).alloc hb1.size (.cells #[] 47)))
        have HR16b := Lib.hid ((HR16.out.below hb1).below ((Below.refl _ _).alloc hb1.size (.cells #[] 47)))
        have HOE0 := Lib.hid (OE_made z1 (base := z1.heap.size) rfl (Nat.le_refl _))
        have hbsz := hb1.size
        obtain ⟨i0, hi0, hz0, hz1, hz2⟩ := info_parts info_ev
        have HI := Lib.hid hi0
        have HZ0 := Lib.hid hz0
        have HZ1 := Lib.hid hz1
        have HZ2 := Lib.hid hz2
        have HL5h := Lib.hid hL5
        clear hL5 hk5 hb1 hi0 hz0 hz1 hz2
        go_wp2_with (first | (at_builtin; refine wpList_append_evg _ (by rfl) _ _ 31 rfl z1.heap.size i0 Try.underlying31 HI.out HZ0.out HZ1.out HZ2.out _ [] rfl HOE0.out _ _ _ es1 rfl HR14b.out (by simp; omega) (by simp) ?_; intro v7 w7 ho7 hg7 hat7; have HOE7 := Lib.hid ho7; have HB7 := Lib.hid (((Below.refl z1.heap.size z1).alloc (Nat.le_refl _) (.cells #[] 47)).grown hg7 (by simp) (fun k hk => (HOE0.out.lt k hk).1)); have HR16c := Lib.hid (HR16b.out.below (((Below.refl z1.heap.size (z1.alloc (.cells #[] 47))).grown hg7 (by simp) (fun k hk => (HOE0.out.lt k hk).1)).mono hbsz)); clear ho7 hg7 hat7) | (at_builtin; refine wpList_append_evg _ (by rfl) _ _ 31 rfl z1.heap.size i0 Try.underlying31 HI.out HZ0.out HZ1.out HZ2.out _ _ rfl HOE7.out _ _ _ es2 rfl HR16c.out (by simp; omega) HB7.out.size ?_; intro v8 w8 ho8 hg8 hat8; have HOE8 := Lib.hid ho8; have HB8 := Lib.hid (HB7.out.grown hg8 HB7.out.size (fun k hk => (HOE7.out.lt k hk).1)); clear ho8 hg8 hat8))
        have he : ([] ++ es1) ++ es2 = evs := by rw [List.nil_append]; exact HE.out
        have ho8 := HOE8.out
        rw [he] at ho8
        have hL8 := HL5h.out.from HB8.out
        refine (ctEvents_same v8 _ evs w8 _ _ _ _ ho8.reads hL8.2.2.2.1 (Nat.le_refl _) hL8.2.2.2.2.2.2.2 (by omega)).mono ?_
        rintro e w9 ⟨rfl, hb9⟩
        have HB9 := Lib.hid (HB1.out.trans ((hL8.from hb9).below.mono HB1.out.size))
        clear ho8 hb9 he
        go_wp2
        go_ret
        exact ⟨rfl, HB9.out⟩
theorem own : ownKnob Try.prog.godebug = none := by kernel_rfl
theorem laidOut : laidOutB Try.prog = true := by kernel_rfl
set_option maxRecDepth 100000 in
theorem lifted (os : Os) (started : os.Started) (H : Type) (enc : TypeId × Value → H) :
    ReturnsInHanded {} Try.checked os 4 .any (Rows.fnFindFeedSpec.pre6 enc Try.prog Try.f4 Rows.fnFindFeedRow.domain false) (Rows.fnFindFeedSpec.post enc Try.prog Try.f4 false true false false) := by
  refine returnsInHanded_of_change (C := Try.checked) own started (by kernel_rfl) Try.func4
    (ChangeSpec.witness6 (enc := enc) (C := Try.checked) false ⟨#[], #[.slice none 0 0, .slice none 0 0], []⟩ 8 (by kernel_rfl) (by kernel_rfl) (by kernel_rfl) (by kernel_rfl)) ?_
  intro W base args ds gs before hval0 hW hcnd _
  have hval : ∀ (j : Nat) t v, Try.f4.params[j]? = some t → args[j]? = some v → Value.okWide Try.prog W .any base t v := hval0
  have hW' := hW
  obtain ⟨p, q, hA0, hV, rfl, hfz, hnd⟩ := hW
  have hA : DataW.TrodAll enc Try.prog W 0 (fun _ => true) true Try.f4.params.toList args.toList ds p := hA0
  rw [Try.params4] at hA hval
  obtain ⟨v0, vs0, d0, ds0, p0, q0, hargs, rfl, rfl, h0, r0⟩ := trodAll_cons hA
  obtain ⟨v1, vs1, d1, ds1, p1, q1, rfl, rfl, rfl, h1, r1⟩ := trodAll_cons r0
  obtain ⟨rfl, rfl, rfl⟩ := trodAll_nil r1
  obtain rfl : args = #[v0, v1] := by cases args; simp_all
  obtain ⟨rfl, rfl⟩ := trodVars_none hV
  obtain ⟨a0, len0, cap0, rfl⟩ := okWide_slice Try.underlying22 (hval 0 22 v0 rfl rfl)
  have k0 := h0
  have lt0 : ∀ x ∈ p0, x.block < W.heap.size := by obtain ⟨m, hm⟩ := k0; exact DataW.trod_lt m _ _ _ hm
  obtain ⟨z0, w0⟩ : ∃ zs, IsRow .u8 W a0 len0 cap0 zs := by
    obtain ⟨fuel, hf⟩ := h0
    rcases open_ints Try.underlying22 Try.underlying5 (by kernel_rfl) hf with ⟨hcs, _⟩ | ⟨x, l, c, zs, hcs, _, hl, hm, hz, _, hcell, hwz⟩
    · simp [Value.cells] at hcs
      obtain ⟨rfl, rfl, rfl⟩ := hcs
      exact ⟨[], .inl ⟨rfl, rfl, rfl, rfl⟩⟩
    · simp [Value.cells] at hcs
      obtain ⟨rfl, rfl, rfl⟩ := hcs
      exact ⟨zs, .inr ⟨_, rfl, hl, hm, by simpa using hz, hcell, hwz⟩⟩
  obtain ⟨a1, len1, cap1, rfl⟩ := okWide_slice Try.underlying22 (hval 1 22 v1 rfl rfl)
  have k1 := h1
  have lt1 : ∀ x ∈ p1, x.block < W.heap.size := by obtain ⟨m, hm⟩ := k1; exact DataW.trod_lt m _ _ _ hm
  obtain ⟨z1, w1⟩ : ∃ zs, IsRow .u8 W a1 len1 cap1 zs := by
    obtain ⟨fuel, hf⟩ := h1
    rcases open_ints Try.underlying22 Try.underlying5 (by kernel_rfl) hf with ⟨hcs, _⟩ | ⟨x, l, c, zs, hcs, _, hl, hm, hz, _, hcell, hwz⟩
    · simp [Value.cells] at hcs
      obtain ⟨rfl, rfl, rfl⟩ := hcs
      exact ⟨[], .inl ⟨rfl, rfl, rfl, rfl⟩⟩
    · simp [Value.cells] at hcs
      obtain ⟨rfl, rfl, rfl⟩ := hcs
      exact ⟨zs, .inr ⟨_, rfl, hl, hm, by simpa using hz, hcell, hwz⟩⟩
  clear hA0 hval0
  refine (walk a0 len0 cap0 z0 a1 len1 cap1 z1 W w0 w1).mono fun e W' ⟨he, bel⟩ => ?_
  subst he
  exact ⟨_, rfl, _, _, _, [], _, [], hW', trodAll_mk1 (shut_bool Try.underlying4 _), (trodAll_cons_mk (Below.trod laidOut (by kernel_rfl) (of_decide_eq_true (by kernel_rfl)) k0 bel lt0) (trodAll_cons_mk (Below.trod laidOut (by kernel_rfl) (of_decide_eq_true (by kernel_rfl)) k1 bel lt1) trodAll_mk0)), rfl, bel.frame _, fun h => by cases h⟩
theorem over : Rows.fnFindFeedRow.holds Try.pinned (OpenSpec.ofChange Rows.fnFindFeedSpec) :=
  OpenClaim.holds_of_wide 4 Try.f4 rfl rfl rfl rfl rfl rfl rfl ⟨rfl, rfl, rfl, rfl, rfl⟩ rfl rfl rfl rfl rfl (by kernel_rfl) Try.func4 (by kernel_rfl)
    (of_decide_eq_true (by kernel_rfl)) (by unfold Func.isWrapper; first | (rw [if_pos (by decide +kernel)]; kernel_rfl) | (rw [if_neg (by decide +kernel)]; exact ⟨rfl, rfl⟩))
    (fun os started H enc _ => lifted os started H enc)
theorem proved : Rows.FnFindFeedSaid := over
end Go.Proofs.Ytfojlpnnhghcbaa.fnFindFeed
