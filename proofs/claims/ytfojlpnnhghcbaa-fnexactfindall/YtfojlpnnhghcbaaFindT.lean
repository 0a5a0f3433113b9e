/- FindAll, in the model. -/
import Derived.Test.YtfojlpnnhghcbaaFindS
import Derived.Test.YtfojlpnnhghcbaaOs
namespace Go.Proofs.Ytfojlpnnhghcbaa
open Go.ChangeShapes Go.WideShapes Go.ChangeAt Go.RowKit
theorem ext_seg (s : ByteArray) (i m : Nat) : (s.extract i m).data.toList = (s.data.toList.take m).drop i := by rw [Lib.extract_data, List.drop_take]
def CutPost (w : World) (s : ByteArray) (c : UInt8) (e : Ending) (w' : World) : Prop := ∃ v ss, e = .returned v ∧ OS w' w.heap.size v ss ∧ ss.map (fun t => t.data.toList) = (cutS c s.data.toList).1 ++ [(cutS c s.data.toList).2] ∧ Below w.heap.size w w'
set_option maxRecDepth 100000 in
set_option maxHeartbeats 4000000 in
theorem l1Cut_any (s : ByteArray) (c : UInt8) (w : World) (hs : s.size ≤ 600) :
    Calls Try.prog 56 #[.string s, .int .u8 c.toNat, .int .i64 600] w (CutPost w s c) := by
  have HSL := Lib.hid (size_list s)
  have hcl := c.toNat_lt
  obtain ⟨i0, hi, hz0, hz1, hz2⟩ := info_parts info_str
  have HI := Lib.hid hi
  have HZ0 := Lib.hid hz0
  have HZ1 := Lib.hid hz1
  have HZ2 := Lib.hid hz2
  clear hi hz0 hz1 hz2
  go_enter Try.func56, Try.ntmps56
  go_wp2
  go_loopw [7, 8, 9] (fun ov fv iv wr => ∃ (k f : Nat) (ss : List ByteArray), k ≤ s.size ∧ f ≤ k ∧ iv = .int .i64 k ∧ fv = .int .i64 f ∧ OS wr w.heap.size ov ss ∧ ss.length ≤ k ∧ ss.map (fun t => t.data.toList) = (cutS c (s.data.toList.take k)).1 ∧ (s.data.toList.take k).drop f = (cutS c (s.data.toList.take k)).2 ∧ Below w.heap.size w wr) (fun _ _ iv _ => s.size - (intOf iv).toNat)
  case atStart => exact ⟨0, 0, [], Nat.zero_le _, Nat.le_refl _, rfl, rfl, OS_made _ rfl, Nat.le_refl _, rfl, rfl, (Below.refl _ _).alloc (Nat.le_refl _) _⟩
  case round =>
    obtain ⟨k, f, ss, hk, hf, rfl, rfl, hos, hsl, hp, hq, hb⟩ := hrel
    obtain ⟨ad, cap, hsh⟩ := hos.reads.shape
    have HOS := Lib.hid hos
    have HP := Lib.hid hp
    have HQ := Lib.hid hq
    have HB := Lib.hid hb
    subst hsh
    clear hos hp hq hb
    by_cases hlt : k < s.size
    · have HC := Lib.hid (show cutS c (s.data.toList.take (k + 1)) = cutG c (cutS c (s.data.toList.take k)) s[k] by rw [snoc_take s k hlt, cutS_snoc])
      have hsl6 : (ss.length : Int) < 600 := by omega
      have hsl7 : ss.length < 600 := by omega
      by_cases hxc : s[k].toNat = c.toNat
      · have hce : s[k] = c := UInt8.toNat_inj.1 hxc
        have hcb : ((s[k].toNat : Int) == (c.toNat : Int)) = true := by rw [beq_iff_eq, hxc]
        have hsm := slice_mid s f k hf (by omega)
        obtain ⟨P, hP⟩ : ∃ P : ByteArray, s.extract f k = P := ⟨_, rfl⟩
        rw [hP] at hsm
        have HPd := Lib.hid (show P.data.toList = (cutS c (s.data.toList.take k)).2 by rw [← hP, ext_seg]; exact HQ.out)
        have hg : cutS c (s.data.toList.take (k + 1)) = ((cutS c (s.data.toList.take k)).1 ++ [(cutS c (s.data.toList.take k)).2], []) := by rw [HC.out]; unfold cutG; rw [if_pos hce]
        have HG := Lib.hid hg
        clear hxc hce hP hg
        go_wp2_with (at_builtin; refine wpList_append_os _ rfl _ _ 35 rfl w.heap.size i0 Try.underlying35 HI.out HZ0.out HZ1.out HZ2.out _ ss rfl (HOS.out.alloc _) _ _ [P] rfl (RS_one wr P) (by simp; omega) (by have := HB.out.size; simp; omega) ?_; intro v2 w2 hos2 hg2 hat2)
        go_roundw
        case rel =>
          refine ⟨k + 1, k + 1, ss ++ [P], by omega, Nat.le_refl _, by go_num, by go_num, hos2, by simp; omega, ?_, ?_, (HB.out.alloc HB.out.size _).grown hg2 (by have := HB.out.size; simp; omega) (fun k hk => (HOS.out.low k hk).1)⟩
          · rw [HG.out, List.map_append, HP.out]; show _ ++ [P.data.toList] = _; rw [HPd.out]
          · rw [HG.out, List.drop_eq_nil_of_le (by rw [List.length_take]; omega)]
        case measure => simp [intOf]; omega
      · have hcn : s[k] ≠ c := fun e => hxc (by rw [e])
        have hcb : ((s[k].toNat : Int) == (c.toNat : Int)) = false := beq_eq_false_iff_ne.2 (by have := s[k].toNat_lt; omega)
        have hg : cutS c (s.data.toList.take (k + 1)) = ((cutS c (s.data.toList.take k)).1, (cutS c (s.data.toList.take k)).2 ++ [s[k]]) := by rw [HC.out]; unfold cutG; rw [if_neg hcn]
        have HG := Lib.hid hg
        clear hxc hcn hg
        go_wp2
        go_roundw
        case rel =>
          refine ⟨k + 1, f, ss, by omega, by omega, by go_num, rfl, HOS.out, by omega, ?_, ?_, HB.out⟩
          · rw [HG.out]; exact HP.out
          · rw [HG.out, ← HQ.out, snoc_take s k hlt, List.drop_append_of_le_length (by rw [List.length_take, HSL.out]; omega)]
        case measure => simp [intOf]; omega
    · have HE := Lib.hid (take_all s k (by omega))
      rw [HE.out] at HP HQ
      have hsm := slice_from s f (by omega)
      obtain ⟨P, hP⟩ : ∃ P : ByteArray, s.extract f s.size = P := ⟨_, rfl⟩
      rw [hP] at hsm
      have HPd := Lib.hid (show P.data.toList = (cutS c s.data.toList).2 by rw [← hP, ext_from]; exact HQ.out)
      clear hP
      go_wp2_with (at_builtin; refine wpList_append_os _ rfl _ _ 35 rfl w.heap.size i0 Try.underlying35 HI.out HZ0.out HZ1.out HZ2.out _ ss rfl (HOS.out.alloc _) _ _ [P] rfl (RS_one wr P) (by simp; omega) (by have := HB.out.size; simp; omega) ?_; intro v2 w2 hos2 hg2 hat2)
      go_ret
      refine ⟨_, _, rfl, hos2, ?_, (HB.out.alloc HB.out.size _).grown hg2 (by have := HB.out.size; simp; omega) (fun k hk => (HOS.out.low k hk).1)⟩
      rw [List.map_append, HP.out]; show _ ++ [P.data.toList] = _; rw [HPd.out]
section
variable {P : Program} (w : World)
theorem run_append_ev (base : Nat) (t ty : TypeId) (i : TypeInfo) (ht : P.underlying t = some (.slice 47)) (hi : P.info? 47 = some i) (hz : i.zero = some (.agg #[.int .i64 0, .string ⟨#[]⟩]))
    (hsize : i.size = 2) (hby : i.bytes = 24) (v : Value) (l : List Ev) (hown : OE w base v l)
    (lo B : Nat) (v2 : Value) (news : List Ev) (hr : RE w lo B v2 news) (hlen : l.length + news.length ≤ 1000000000000) (hbase : base ≤ w.heap.size) :
    ∃ v' w', (Builtin.append_ #[t, t] ty #[v, v2]).run P w = .ok v' w' ∧ OE w' base v' (l ++ news) ∧ w.grownBy w' v.ownBlock ∧ (v'.ownBlock = v.ownBlock ∨ v'.ownBlock = some w.heap.size) := by
  obtain ⟨ad, cap, hv2, hr2⟩ := hr
  cases ad with
  | some y =>
    have hc : ∀ j u, (evCs news)[j]? = some u → w.cell? (y.add j) = some u := by
      by_cases h0 : 0 < news.length
      · obtain ⟨y', hy, _, _, hc⟩ := hr2 h0
        injection hy with hy
        subst hy
        exact fun j u hu => by rw [lit_add]; exact hc j u hu
      · have hn : news = [] := List.eq_nil_of_length_eq_zero (by omega)
        subst hn
        intro j u hu
        simp [evCs] at hu
    obtain ⟨v', w', r1, r2, r3, _, r5⟩ := run_append_own_at (P := P) w base t ty 47 i _ 2 24 ht hi hz hsize hby rfl (by omega) v l.length (evCs l) hown y news.length cap (evCs news) (by rw [evCs_len]) hc (evCs_one _) (by unfold maxLen; omega) (by omega) hbase
    refine ⟨v', w', by rw [hv2]; exact r1, ?_, r3, r5⟩
    unfold OE
    rw [List.length_append, evCs_append]
    exact r2
  | none =>
    have hn : news = [] := by
      by_cases h0 : 0 < news.length
      · obtain ⟨y', hy, _⟩ := hr2 h0
        cases hy
      · exact List.eq_nil_of_length_eq_zero (by omega)
    subst hn
    refine ⟨v, w, ?_, by simpa using hown, ⟨rfl, rfl, rfl, Nat.le_refl _, fun _ _ _ => rfl⟩, .inl rfl⟩
    rw [hv2]
    rcases hown.2 with ⟨rfl, hl⟩ | ⟨g, cp, cur, rfl, _, hg, hnc, _, hcs, _⟩
    · simp [Builtin.append_, run_underlying ht, sizeOf, typeInfo, hi, Builtin.lenOf, Builtin.firstCells]
    · simp [Builtin.append_, run_underlying ht, sizeOf, typeInfo, hi, Builtin.lenOf, Builtin.firstCells, hnc, storeCells]
/-- the operation 'append' of events, by itself -/
theorem opwp_append_ev {o : Oper} {a : Act} {K : Act → World → Prop} {Q : Exit → Act → World → Prop} (s x : Operand) (t : TypeId)
    (ho : o.op = .call { callee := .builtin .append, args := #[s, x], argTypes := #[t, t] })
    (base : Nat) (i : TypeInfo) (ht : P.underlying t = some (.slice 47)) (hi : P.info? 47 = some i) (hz : i.zero = some (.agg #[.int .i64 0, .string ⟨#[]⟩]))
    (hsize : i.size = 2) (hby : i.bytes = 24) (v : Value) (l : List Ev) (hs : a.eval s = v) (hown : OE w base v l)
    (lo B : Nat) (v2 : Value) (news : List Ev) (hx : a.eval x = v2) (hr : RE w lo B v2 news) (hlen : l.length + news.length ≤ 1000000000000) (hbase : base ≤ w.heap.size)
    (h : ∀ v' w', OE w' base v' (l ++ news) → w.grownBy w' v.ownBlock → K (a.put o.dst v') w') : Oper.wp P o a w K Q := by
  obtain ⟨v', w', hr, h2, h3, h4⟩ := run_append_ev (P := P) w base t o.type i ht hi hz hsize hby v l hown lo B v2 news hr hlen hbase
  unfold Oper.wp execOp
  simp only [ho, resolve, invoke, builtin, Sem.run_bind, Sem.run_pure, Result.andThen_ok, List.map_toArray, List.map_cons, List.map_nil, hs, hx, hr]
  exact h v' w' h2 h3
end
theorem os_apart {w : World} {b b' : Nat} {v v' : Value} {l : List ByteArray} {l' : List Ev} (h : OS w b v l) (h' : OE w b' v' l') : v.ownBlock = none ∨ v.ownBlock ≠ v'.ownBlock := by
  rcases h.2 with ⟨rfl, _⟩ | ⟨g, cap, cur, rfl, _, hg, _⟩
  · exact .inl rfl
  · rcases h'.2 with ⟨rfl, _⟩ | ⟨g', cap', cur', rfl, _, hg', _⟩
    · exact .inr (by simp [Value.ownBlock])
    · have hne : g ≠ g' := by
        rintro rfl
        rw [hg] at hg'
        injection hg' with e
        injection e with _ e2 _
        exact absurd e2 (by decide)
      exact .inr (by simp [Value.ownBlock]; exact hne)
theorem cutS_mass (e : UInt8) (l : List UInt8) : ∀ p ∈ (cutS e l).1, p.length ≤ l.length := by
  have : (cutS e l).2.length ≤ l.length ∧ ∀ p ∈ (cutS e l).1, p.length ≤ l.length := by
    induction l using snoc_ind with
    | h0 => simp [cutS]
    | h1 l b ih =>
      rw [cutS_snoc, List.length_append]
      unfold cutG
      split
      · refine ⟨by simp, fun p hp => ?_⟩
        simp only [List.mem_append, List.mem_singleton] at hp
        rcases hp with hp | hp
        · have := ih.2 p hp; omega
        · rw [hp]; have := ih.1; omega
      · refine ⟨by simp; exact ih.1, fun p hp => ?_⟩
        have := ih.2 p hp; omega
  exact this.2
theorem allL_take {c : Cf} {l : List UInt8} {ps : List (List UInt8)} (h : (cutS (endOf c) l).1 = ps) : allL c l = ps.flatMap (pieceE c) := by unfold allL; rw [h]
set_option maxRecDepth 100000 in
set_option maxHeartbeats 4000000 in
theorem specFindAll_yes (a b d m : Int) (s : ByteArray) (w : World) (hc : confB ⟨a, b, d, m⟩ = true) (hs : s.size ≤ 600) :
    Calls Try.prog 27 #[cfV a b d m, .string s] w (AllPost w (allL ⟨a, b, d, m⟩ s.data.toList)) := by
  obtain ⟨_, hkb, hd, _, _⟩ := confB_yes hc
  simp only at hkb hd
  have hkb2 := kind_ge hkb
  obtain ⟨hp0, hp1, _, _⟩ := hold_pos hc
  have HC := Lib.hid hc
  have hze := zero_event
  obtain ⟨i0, hi, hz0, hz1, hz2⟩ := info_parts info_ev
  have HI := Lib.hid hi
  have HZ0 := Lib.hid hz0
  have HZ1 := Lib.hid hz1
  have HZ2 := Lib.hid hz2
  clear hc hkb hi hz0 hz1 hz2
  generalize hold : holdN ⟨a, b, d, m⟩ = hn at *
  have HO := Lib.hid hold
  clear hold
  go_enter Try.func27, Try.ntmps27
  go_wp2_with fail
  refine (l7ConfOk_any a b d m _).mono ?_
  rintro e w1 ⟨rfl, hb1⟩
  have hF := (C1.start w a b d m).from hb1
  have hF2 := hF.alloc (.cells #[] 47)
  obtain ⟨c0, c1, c2, c3⟩ := hF2.flat
  have HOE := Lib.hid (OE_made w1 (base := w.heap.size + 1) rfl hF.size)
  have HF := Lib.hid hF2
  rw [HC.out]
  clear hb1 hF hF2
  go_wp2_with fail
  refine (l7End_any a b d m _).mono ?_
  rintro e w2 ⟨rfl, hb2⟩
  have HF2 := Lib.hid (HF.out.from hb2)
  have HOE2 := Lib.hid (HOE.out.below hb2)
  clear hb2 HF HOE c0 c1 c2 c3
  go_wp2_with fail
  refine (l1Cut_any s (endOf ⟨a, b, d, m⟩) _ hs).mono ?_
  rintro e w3 ⟨v3, ss, rfl, hos3, hmap, hb3⟩
  have HF3 := Lib.hid (HF2.out.from hb3)
  have HOE3 := Lib.hid (HOE2.out.below hb3)
  have hclean := (cutS_clean (endOf ⟨a, b, d, m⟩) s.data.toList).2
  have hclen := cutS_len (endOf ⟨a, b, d, m⟩) s.data.toList
  have hmass : ∀ p ∈ (cutS (endOf ⟨a, b, d, m⟩) s.data.toList).1, p.length ≤ 600 := by
    intro p hp
    have := cutS_mass (endOf ⟨a, b, d, m⟩) s.data.toList p hp
    rw [size_list] at this; omega
  rw [size_list] at hclen
  have HAll := Lib.hid (allL_take (c := ⟨a, b, d, m⟩) (l := s.data.toList) rfl)
  obtain ⟨ps, hps⟩ : ∃ ps, (cutS (endOf ⟨a, b, d, m⟩) s.data.toList).1 = ps := ⟨_, rfl⟩
  rw [hps] at hclean hclen hmass HAll hmap
  have hlen : ss.length = ps.length + 1 := by have := congrArg List.length hmap; simpa using this
  have HMap := Lib.hid (show ∀ k, (h : k < ps.length) → (h2 : k < ss.length) → ss[k].data.toList = ps[k] by
    intro k h h2
    have h1 : (ss.map fun t => t.data.toList)[k]'(by simpa using h2) = ss[k].data.toList := by simp
    rw [← h1]
    simp only [hmap]
    rw [List.getElem_append_left h])
  have HClean := Lib.hid hclean
  have HMass := Lib.hid hmass
  obtain ⟨g3, cap, hsh, _, _⟩ := hos3.pos (by omega)
  have HRS := Lib.hid (hos3.mono (HF2.out.size))
  subst hsh
  have HLEN := Lib.hid hlen
  clear hb3 hos3 hmap hclean hmass hps HF2 HOE2 hlen
  go_wp2
  go_loopw [5, 7] (fun ev iv wr => ∃ (k : Nat) (evs : List Ev), k ≤ ps.length ∧ iv = .int .i64 k ∧ OE wr (w.heap.size + 1) ev evs ∧ evs = (ps.take k).flatMap (pieceE ⟨a, b, d, m⟩) ∧ evs.length ≤ k ∧ OS wr (w.heap.size + 1) (.slice (some ⟨g3, 0, none⟩) ss.length cap) ss ∧ C1 w wr a b d m) (fun _ iv _ => ps.length - (intOf iv).toNat)
  case atStart => exact ⟨0, [], Nat.zero_le _, rfl, HOE3.out, rfl, Nat.le_refl _, HRS.out, HF3.out⟩
  case round =>
    clear HOE3 HRS HF3
    obtain ⟨k, evs, hk, rfl, hoe, hev, hel, hrs, hF⟩ := hrel
    have HOE := Lib.hid hoe
    have HEV := Lib.hid hev
    have HRS := Lib.hid hrs
    clear hoe hev
    by_cases hlt : k < ps.length
    · have hlt2 : k < ss.length := by have := HLEN.out; omega
      have hlt3 : (k : Int) + 1 < ss.length := by have := HLEN.out; omega
      have hlt4 : k + 1 < ss.length := by have := HLEN.out; omega
      have hlt5 : (k : Int) < ss.length := by omega
      have hcellP := fun (W : World) (h : OS W (w.heap.size + 1) (.slice (some ⟨g3, 0, none⟩) ss.length cap) ss) => h.cellAt hlt2
      have hPs := HMap.out k hlt hlt2
      generalize ss[k] = P at *
      have c5 := hcellP wr hrs
      have HCP := Lib.hid hcellP
      clear hcellP
      have HPd := Lib.hid hPs
      have hPl : P.size ≤ 600 := by rw [← size_list, hPs]; exact HMass.out _ (List.getElem_mem _)
      have HPN := Lib.hid (show endOf ⟨a, b, d, m⟩ ∉ P.data.toList by rw [hPs]; exact HClean.out _ (List.getElem_mem _))
      have HT := Lib.hid (show (ps.take (k + 1)).flatMap (pieceE ⟨a, b, d, m⟩) = evs ++ pieceE ⟨a, b, d, m⟩ P.data.toList by
        rw [List.take_succ_eq_append_getElem hlt, List.flatMap_append, HEV.out, HPd.out]; simp)
      clear hPs
      by_cases hfull : hn < (P.size : Int)
      · have HV := Lib.hid (show pieceE ⟨a, b, d, m⟩ P.data.toList = [⟨5, []⟩] by unfold pieceE; rw [HO.out, size_list, if_pos hfull])
        go_wp2_with fail
        have hF := hF.drew
        have hO5 := HRS.out.drew
        have hS := And.intro hF.flat (HCP.out _ hO5)
        refine wp_region_held_drew (S := (fun wx => (wx.cell? ⟨w.heap.size, 0, none⟩ = some (.int .i64 a) ∧ wx.cell? ⟨w.heap.size, 1, none⟩ = some (.int .i64 b) ∧ wx.cell? ⟨w.heap.size, 2, none⟩ = some (.int .i64 d) ∧ wx.cell? ⟨w.heap.size, 3, none⟩ = some (.int .i64 m)) ∧ wx.cell? ⟨g3, k, none⟩ = some (.string P))) (by kernel_rfl) hS (fun hHeld => ?_)
        refine wpAnyH_take (i := 0) (v := ?_) rfl (by kernel_rfl) (by kernel_rfl) (by kernel_rfl) (fun _ _ _ h => h) (Or.inl ⟨by rfl, ?_⟩) (by assumption) ?_
        rotate_left
        · intro wq hSw
          (try dsimp only at hSw)
          (try simp only [List.getElem_toArray, List.getElem_cons_zero])
          go_simp
          (try with_reducible rfl)
        simp only [Act.put, List.getElem_toArray, List.getElem_cons_zero, List.setIfInBounds_toArray, List.set_cons_zero, List.set_cons_succ]
        refine wpAnyH_take (i := 1) (v := ?_) rfl (by kernel_rfl) (by kernel_rfl) (by kernel_rfl) (fun _ _ _ h => h) (Or.inl ⟨by rfl, ?_⟩) (by assumption) ?_
        rotate_left
        · intro wq hSw
          (try dsimp only at hSw)
          (try simp only [List.getElem_toArray, List.getElem_cons_succ, List.getElem_cons_zero])
          go_simp
          (try with_reducible rfl)
        simp only [Act.put, List.getElem_toArray, List.getElem_cons_succ, List.getElem_cons_zero, List.setIfInBounds_toArray, List.set_cons_zero, List.set_cons_succ]
        refine wpAnyH_take (i := 2) (v := ?_) rfl (by kernel_rfl) (by kernel_rfl) (by kernel_rfl) (fun _ _ _ h => h) (Or.inl ⟨by rfl, ?_⟩) (by assumption) ?_
        rotate_left
        · intro wq hSw
          (try dsimp only at hSw)
          (try simp only [List.getElem_toArray, List.getElem_cons_succ, List.getElem_cons_zero])
          go_simp
          (try with_reducible rfl)
        simp only [Act.put, List.getElem_toArray, List.getElem_cons_succ, List.getElem_cons_zero, List.setIfInBounds_toArray, List.set_cons_zero, List.set_cons_succ]
        refine wpAnyH_take (i := 3) (v := ?_) rfl (by kernel_rfl) (by kernel_rfl) (by kernel_rfl) (fun _ _ _ h => h) (Or.inl ⟨by rfl, ?_⟩) (by assumption) ?_
        rotate_left
        · intro wq hSw
          (try dsimp only at hSw)
          (try simp only [List.getElem_toArray, List.getElem_cons_succ, List.getElem_cons_zero])
          go_simp
          (try with_reducible rfl)
        simp only [Act.put, List.getElem_toArray, List.getElem_cons_succ, List.getElem_cons_zero, List.setIfInBounds_toArray, List.set_cons_zero, List.set_cons_succ]
        refine wpAnyH_take (i := 4) (v := ?_) rfl (by kernel_rfl) (by kernel_rfl) (by kernel_rfl) (fun _ _ _ h => h) (Or.inl ⟨by rfl, ?_⟩) (by assumption) ?_
        rotate_left
        · intro wq hSw
          (try dsimp only at hSw)
          (try simp only [List.getElem_toArray, List.getElem_cons_succ, List.getElem_cons_zero])
          go_simp
          (try with_reducible rfl)
        simp only [Act.put, List.getElem_toArray, List.getElem_cons_succ, List.getElem_cons_zero, List.setIfInBounds_toArray, List.set_cons_zero, List.set_cons_succ]
        refine wpAnyH_take (i := 5) (v := ?_) rfl (by kernel_rfl) (by kernel_rfl) (by kernel_rfl) (fun _ _ _ h => h) (Or.inl ⟨by rfl, ?_⟩) (by assumption) ?_
        rotate_left
        · intro wq hSw
          (try dsimp only at hSw)
          (try simp only [List.getElem_toArray, List.getElem_cons_succ, List.getElem_cons_zero])
          go_simp
          (try with_reducible rfl)
        simp only [Act.put, List.getElem_toArray, List.getElem_cons_succ, List.getElem_cons_zero, List.setIfInBounds_toArray, List.set_cons_zero, List.set_cons_succ]
        refine wpAnyH_ready (rs := [6]) (by kernel_rfl) (by simp) ?_
        refine AllReadyH.cons rfl (fun K hK => ?_) AllReadyH.nil
        (try simp only [List.getElem_toArray, List.getElem_cons_succ, List.getElem_cons_zero])
        go_simp
        go_at_call 58
        refine (l7Hold_any a b d m _ hkb2 hd).mono ?_
        rintro e w5 ⟨rfl, hb5⟩
        have hF := hF.from hb5
        have hO5 := hO5.below hb5
        have c5 := HCP.out _ hO5
        have hS := And.intro hF.flat c5
        rw [HO.out]
        refine hK.out _ _ hS (fun hHeld => ?_)
        clear hK K
        refine wpAnyH_take (i := 7) (v := ?_) rfl (by kernel_rfl) (by kernel_rfl) (by kernel_rfl) (fun _ _ _ h => h) (Or.inl ⟨by rfl, ?_⟩) (by assumption) ?_
        rotate_left
        · intro wq hSw
          (try dsimp only at hSw)
          (try simp only [List.getElem_toArray, List.getElem_cons_succ, List.getElem_cons_zero])
          go_simp
          (try with_reducible rfl)
        simp only [Act.put, List.getElem_toArray, List.getElem_cons_succ, List.getElem_cons_zero, List.setIfInBounds_toArray, List.set_cons_zero, List.set_cons_succ]
        refine wpAnyH_done (by kernel_rfl) ?_ _
        · have HF5 := Lib.hid hF
          have HOE5 := Lib.hid (HOE.out.drew.below hb5)
          have HRS5 := Lib.hid (HRS.out.drew.below hb5)
          clear hF c5 hb5 hO5
          go_wp2_with (at_builtin; refine wpList_append_ev _ rfl _ _ 31 rfl (w.heap.size + 1) i0 Try.underlying31 HI.out HZ0.out HZ1.out HZ2.out _ evs rfl (HOE5.out.alloc' _) _ _ _ [⟨5, []⟩] rfl (RE_new w5 ⟨5, []⟩) (by simp; omega) (by have := HF5.out.size; simp; omega) ?_; intro v6 w6 ho6 hg6 hat6; have HOE6 := Lib.hid ho6; have HF6 := Lib.hid ((HF5.out.alloc (.cells #[.int .i64 5, .string ⟨#[]⟩] 47)).grown hg6 (fun k hk => (HOE5.out.lt k hk).1)); have HRS6 := Lib.hid ((HRS5.out.alloc _).kept hg6 (os_apart HRS5.out HOE5.out)); clear ho6 hg6 hat6)
          go_roundw
          case rel => exact ⟨k + 1, evs ++ [⟨5, []⟩], by omega, by go_num, HOE6.out, by rw [HT.out, HV.out], by simp; omega, HRS6.out, HF6.out⟩
          case measure => simp [intOf]; omega
      · have HV := Lib.hid (show pieceE ⟨a, b, d, m⟩ P.data.toList = (evalL ⟨a, b, d, m⟩ P.data.toList).toList by unfold pieceE; rw [HO.out, size_list, if_neg hfull])
        have hEl := opt_len (evalL ⟨a, b, d, m⟩ P.data.toList)
        go_wp2_with fail
        have hF := hF.drew
        have hO5 := HRS.out.drew
        have hS := And.intro hF.flat (HCP.out _ hO5)
        refine wp_region_held_drew (S := (fun wx => (wx.cell? ⟨w.heap.size, 0, none⟩ = some (.int .i64 a) ∧ wx.cell? ⟨w.heap.size, 1, none⟩ = some (.int .i64 b) ∧ wx.cell? ⟨w.heap.size, 2, none⟩ = some (.int .i64 d) ∧ wx.cell? ⟨w.heap.size, 3, none⟩ = some (.int .i64 m)) ∧ wx.cell? ⟨g3, k, none⟩ = some (.string P))) (by kernel_rfl) hS (fun hHeld => ?_)
        refine wpAnyH_take (i := 0) (v := ?_) rfl (by kernel_rfl) (by kernel_rfl) (by kernel_rfl) (fun _ _ _ h => h) (Or.inl ⟨by rfl, ?_⟩) (by assumption) ?_
        rotate_left
        · intro wq hSw
          (try dsimp only at hSw)
          (try simp only [List.getElem_toArray, List.getElem_cons_zero])
          go_simp
          (try with_reducible rfl)
        simp only [Act.put, List.getElem_toArray, List.getElem_cons_zero, List.setIfInBounds_toArray, List.set_cons_zero, List.set_cons_succ]
        refine wpAnyH_take (i := 1) (v := ?_) rfl (by kernel_rfl) (by kernel_rfl) (by kernel_rfl) (fun _ _ _ h => h) (Or.inl ⟨by rfl, ?_⟩) (by assumption) ?_
        rotate_left
        · intro wq hSw
          (try dsimp only at hSw)
          (try simp only [List.getElem_toArray, List.getElem_cons_succ, List.getElem_cons_zero])
          go_simp
          (try with_reducible rfl)
        simp only [Act.put, List.getElem_toArray, List.getElem_cons_succ, List.getElem_cons_zero, List.setIfInBounds_toArray, List.set_cons_zero, List.set_cons_succ]
        refine wpAnyH_take (i := 2) (v := ?_) rfl (by kernel_rfl) (by kernel_rfl) (by kernel_rfl) (fun _ _ _ h => h) (Or.inl ⟨by rfl, ?_⟩) (by assumption) ?_
        rotate_left
        · intro wq hSw
          (try dsimp only at hSw)
          (try simp only [List.getElem_toArray, List.getElem_cons_succ, List.getElem_cons_zero])
          go_simp
          (try with_reducible rfl)
        simp only [Act.put, List.getElem_toArray, List.getElem_cons_succ, List.getElem_cons_zero, List.setIfInBounds_toArray, List.set_cons_zero, List.set_cons_succ]
        refine wpAnyH_take (i := 3) (v := ?_) rfl (by kernel_rfl) (by kernel_rfl) (by kernel_rfl) (fun _ _ _ h => h) (Or.inl ⟨by rfl, ?_⟩) (by assumption) ?_
        rotate_left
        · intro wq hSw
          (try dsimp only at hSw)
          (try simp only [List.getElem_toArray, List.getElem_cons_succ, List.getElem_cons_zero])
          go_simp
          (try with_reducible rfl)
        simp only [Act.put, List.getElem_toArray, List.getElem_cons_succ, List.getElem_cons_zero, List.setIfInBounds_toArray, List.set_cons_zero, List.set_cons_succ]
        refine wpAnyH_take (i := 4) (v := ?_) rfl (by kernel_rfl) (by kernel_rfl) (by kernel_rfl) (fun _ _ _ h => h) (Or.inl ⟨by rfl, ?_⟩) (by assumption) ?_
        rotate_left
        · intro wq hSw
          (try dsimp only at hSw)
          (try simp only [List.getElem_toArray, List.getElem_cons_succ, List.getElem_cons_zero])
          go_simp
          (try with_reducible rfl)
        simp only [Act.put, List.getElem_toArray, List.getElem_cons_succ, List.getElem_cons_zero, List.setIfInBounds_toArray, List.set_cons_zero, List.set_cons_succ]
        refine wpAnyH_take (i := 5) (v := ?_) rfl (by kernel_rfl) (by kernel_rfl) (by kernel_rfl) (fun _ _ _ h => h) (Or.inl ⟨by rfl, ?_⟩) (by assumption) ?_
        rotate_left
        · intro wq hSw
          (try dsimp only at hSw)
          (try simp only [List.getElem_toArray, List.getElem_cons_succ, List.getElem_cons_zero])
          go_simp
          (try with_reducible rfl)
        simp only [Act.put, List.getElem_toArray, List.getElem_cons_succ, List.getElem_cons_zero, List.setIfInBounds_toArray, List.set_cons_zero, List.set_cons_succ]
        refine wpAnyH_ready (rs := [6]) (by kernel_rfl) (by simp) ?_
        refine AllReadyH.cons rfl (fun K hK => ?_) AllReadyH.nil
        (try simp only [List.getElem_toArray, List.getElem_cons_succ, List.getElem_cons_zero])
        go_simp
        go_at_call 58
        refine (l7Hold_any a b d m _ hkb2 hd).mono ?_
        rintro e w5 ⟨rfl, hb5⟩
        have hF := hF.from hb5
        have hO5 := hO5.below hb5
        have c5 := HCP.out _ hO5
        have hS := And.intro hF.flat c5
        rw [HO.out]
        refine hK.out _ _ hS (fun hHeld => ?_)
        clear hK K
        refine wpAnyH_take (i := 7) (v := ?_) rfl (by kernel_rfl) (by kernel_rfl) (by kernel_rfl) (fun _ _ _ h => h) (Or.inl ⟨by rfl, ?_⟩) (by assumption) ?_
        rotate_left
        · intro wq hSw
          (try dsimp only at hSw)
          (try simp only [List.getElem_toArray, List.getElem_cons_succ, List.getElem_cons_zero])
          go_simp
          (try with_reducible rfl)
        simp only [Act.put, List.getElem_toArray, List.getElem_cons_succ, List.getElem_cons_zero, List.setIfInBounds_toArray, List.set_cons_zero, List.set_cons_succ]
        refine wpAnyH_done (by kernel_rfl) ?_ _
        · have hF := hF.drew
          have hOE5 := HOE.out.drew.below hb5
          have hOS5 := HRS.out.drew.below hb5
          have c6 : w5.drew.cell? ⟨g3, k, none⟩ = some (.string P) := c5
          clear hO5 hb5
          go_wp2_with fail
          have hS := And.intro hF.flat c6
          refine wp_region_held_drew (S := (fun wx => (wx.cell? ⟨w.heap.size, 0, none⟩ = some (.int .i64 a) ∧ wx.cell? ⟨w.heap.size, 1, none⟩ = some (.int .i64 b) ∧ wx.cell? ⟨w.heap.size, 2, none⟩ = some (.int .i64 d) ∧ wx.cell? ⟨w.heap.size, 3, none⟩ = some (.int .i64 m)) ∧ wx.cell? ⟨g3, k, none⟩ = some (.string P))) (by kernel_rfl) hS (fun hHeld => ?_)
          refine wpAnyH_take (i := 0) (v := ?_) rfl (by kernel_rfl) (by kernel_rfl) (by kernel_rfl) (fun _ _ _ h => h) (Or.inl ⟨by rfl, ?_⟩) (by assumption) ?_
          rotate_left
          · intro wq hSw
            (try dsimp only at hSw)
            (try simp only [List.getElem_toArray, List.getElem_cons_zero])
            go_simp
            (try with_reducible rfl)
          simp only [Act.put, List.getElem_toArray, List.getElem_cons_zero, List.setIfInBounds_toArray, List.set_cons_zero, List.set_cons_succ]
          refine wpAnyH_take (i := 1) (v := ?_) rfl (by kernel_rfl) (by kernel_rfl) (by kernel_rfl) (fun _ _ _ h => h) (Or.inl ⟨by rfl, ?_⟩) (by assumption) ?_
          rotate_left
          · intro wq hSw
            (try dsimp only at hSw)
            (try simp only [List.getElem_toArray, List.getElem_cons_succ, List.getElem_cons_zero])
            go_simp
            (try with_reducible rfl)
          simp only [Act.put, List.getElem_toArray, List.getElem_cons_succ, List.getElem_cons_zero, List.setIfInBounds_toArray, List.set_cons_zero, List.set_cons_succ]
          refine wpAnyH_take (i := 2) (v := ?_) rfl (by kernel_rfl) (by kernel_rfl) (by kernel_rfl) (fun _ _ _ h => h) (Or.inl ⟨by rfl, ?_⟩) (by assumption) ?_
          rotate_left
          · intro wq hSw
            (try dsimp only at hSw)
            (try simp only [List.getElem_toArray, List.getElem_cons_succ, List.getElem_cons_zero])
            go_simp
            (try with_reducible rfl)
          simp only [Act.put, List.getElem_toArray, List.getElem_cons_succ, List.getElem_cons_zero, List.setIfInBounds_toArray, List.set_cons_zero, List.set_cons_succ]
          refine wpAnyH_take (i := 3) (v := ?_) rfl (by kernel_rfl) (by kernel_rfl) (by kernel_rfl) (fun _ _ _ h => h) (Or.inl ⟨by rfl, ?_⟩) (by assumption) ?_
          rotate_left
          · intro wq hSw
            (try dsimp only at hSw)
            (try simp only [List.getElem_toArray, List.getElem_cons_succ, List.getElem_cons_zero])
            go_simp
            (try with_reducible rfl)
          simp only [Act.put, List.getElem_toArray, List.getElem_cons_succ, List.getElem_cons_zero, List.setIfInBounds_toArray, List.set_cons_zero, List.set_cons_succ]
          refine wpAnyH_take (i := 4) (v := ?_) rfl (by kernel_rfl) (by kernel_rfl) (by kernel_rfl) (fun _ _ _ h => h) (Or.inl ⟨by rfl, ?_⟩) (by assumption) ?_
          rotate_left
          · intro wq hSw
            (try dsimp only at hSw)
            (try simp only [List.getElem_toArray, List.getElem_cons_succ, List.getElem_cons_zero])
            go_simp
            (try with_reducible rfl)
          simp only [Act.put, List.getElem_toArray, List.getElem_cons_succ, List.getElem_cons_zero, List.setIfInBounds_toArray, List.set_cons_zero, List.set_cons_succ]
          refine wpAnyH_take (i := 5) (v := ?_) rfl (by kernel_rfl) (by kernel_rfl) (by kernel_rfl) (fun _ _ _ h => h) (Or.inl ⟨by rfl, ?_⟩) (by assumption) ?_
          rotate_left
          · intro wq hSw
            (try dsimp only at hSw)
            (try simp only [List.getElem_toArray, List.getElem_cons_succ, List.getElem_cons_zero])
            go_simp
            (try with_reducible rfl)
          simp only [Act.put, List.getElem_toArray, List.getElem_cons_succ, List.getElem_cons_zero, List.setIfInBounds_toArray, List.set_cons_zero, List.set_cons_succ]
          refine wpAnyH_ready (rs := [6]) (by kernel_rfl) (by simp) ?_
          refine AllReadyH.cons rfl (fun K hK => ?_) AllReadyH.nil
          (try simp only [List.getElem_toArray, List.getElem_cons_succ, List.getElem_cons_zero])
          go_simp
          go_at_call 59
          refine (l7Event_any a b d m P _ HC.out hPl HPN.out).mono ?_
          rintro e w7 ⟨v7, rfl, hr7, hb7⟩
          have hF := hF.from hb7
          have hOE7 := hOE5.drew.below hb7
          have hOS7 := hOS5.drew.below hb7
          have c7 := HCP.out _ hOS7
          have hS := And.intro hF.flat c7
          refine hK.out _ _ hS (fun hHeld => ?_)
          clear hK K
          refine wpAnyH_ready (rs := [7]) (by kernel_rfl) (by simp) ?_
          refine AllReadyH.cons rfl (fun K hK => ?_) AllReadyH.nil
          (try simp only [List.getElem_toArray, List.getElem_cons_succ, List.getElem_cons_zero])
          rw [if_pos (by rfl)]
          refine opwp_append_ev _ _ _ 31 rfl (w.heap.size + 1) i0 Try.underlying31 HI.out HZ0.out HZ1.out HZ2.out _ evs rfl hOE7 _ _ _ _ rfl hr7 (by omega) hF.size ?_
          intro v8 w8 hOE8 hg8
          have hF := hF.grown hg8 (fun k hk => (hOE7.lt k hk).1)
          have hOS8 := hOS7.kept hg8 (os_apart hOS7 hOE7)
          have hS := And.intro hF.flat (HCP.out _ hOS8)
          refine hK.out _ _ hS (fun hHeld => ?_)
          clear hK K
          simp only [Act.put, List.setIfInBounds_toArray, List.set_cons_zero, List.set_cons_succ]
          refine wpAnyH_take (i := 8) (v := ?_) rfl (by kernel_rfl) (by kernel_rfl) (by kernel_rfl) (fun _ _ _ h => h) (Or.inl ⟨by rfl, ?_⟩) (by assumption) ?_
          rotate_left
          · intro wq hSw
            (try dsimp only at hSw)
            (try simp only [List.getElem_toArray, List.getElem_cons_succ, List.getElem_cons_zero])
            go_simp
            (try with_reducible rfl)
          simp only [Act.put, List.getElem_toArray, List.getElem_cons_succ, List.getElem_cons_zero, List.setIfInBounds_toArray, List.set_cons_zero, List.set_cons_succ]
          refine wpAnyH_done (by kernel_rfl) ?_ _
          have HOE8 := Lib.hid hOE8
          have HOS8 := Lib.hid hOS8
          have HF8 := Lib.hid hF
          clear hS hF hOE8 hOS8 hg8 hOE7 hOS7 hOE5 hOS5 hr7 hb7
          go_wp2
          go_roundw
          case rel => exact ⟨k + 1, evs ++ (evalL ⟨a, b, d, m⟩ P.data.toList).toList, by omega, by go_num, HOE8.out, by rw [HT.out, HV.out], by rw [List.length_append]; omega, HOS8.out, HF8.out⟩
          case measure => simp [intOf]; omega
    · have hge2 : ¬ (k : Int) + 1 < ss.length := by have := HLEN.out; omega
      have hge3 : ¬ k + 1 < ss.length := by have := HLEN.out; omega
      obtain rfl : k = ps.length := by omega
      have HE := Lib.hid (show evs = allL ⟨a, b, d, m⟩ s.data.toList by rw [HAll.out, HEV.out, List.take_length])
      have HF := Lib.hid hF
      clear hF hrs
      go_wp2
      go_ret
      exact ⟨_, rfl, by rw [← HE.out]; exact HOE.out.mono (by omega), HF.out.2⟩
end Go.Proofs.Ytfojlpnnhghcbaa
