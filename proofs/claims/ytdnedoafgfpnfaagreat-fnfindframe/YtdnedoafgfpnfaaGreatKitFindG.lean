/- FindAll, in the program. -/
import Derived.Test.YtdnedoafgfpnfaaGreatKitFindF
import Derived.Test.YtdnedoafgfpnfaaGreatOs
namespace Go.Proofs.YtdnedoafgfpnfaaGreat
open Go.ChangeShapes Go.WideShapes Go.ChangeAt Go.RowKit
theorem cut_free {e : UInt8} (p : List UInt8) (h : e ∉ p) : ∀ (ps : List (List UInt8)) (q : List UInt8), p.foldl (cutG e) (ps, q) = (ps, q ++ p) := by
  induction p with
  | nil => intro ps q; simp
  | cons b p ih =>
    intro ps q
    have hb : b ≠ e := fun x => h (by simp [x])
    rw [List.foldl_cons]
    have e1 : cutG e (ps, q) b = (ps, q ++ [b]) := by unfold cutG; rw [if_neg hb]
    rw [e1, ih (fun x => h (by simp [x]))]
    simp
theorem cut_pre {e : UInt8} (l : List UInt8) : ∀ (ps : List (List UInt8)) (q : List UInt8), l.foldl (cutG e) (ps, q) = (ps ++ (l.foldl (cutG e) ([], q)).1, (l.foldl (cutG e) ([], q)).2) := by
  induction l with
  | nil => intro ps q; simp
  | cons b l ih =>
    intro ps q
    rw [List.foldl_cons, List.foldl_cons]
    by_cases hb : b = e
    · have e1 : ∀ ps, cutG e (ps, q) b = (ps ++ [q], []) := fun ps => by unfold cutG; rw [if_pos hb]
      rw [e1, e1, ih (ps ++ [q]), ih ([] ++ [q])]
      simp
    · have e1 : ∀ ps, cutG e (ps, q) b = (ps, q ++ [b]) := fun ps => by unfold cutG; rw [if_neg hb]
      rw [e1, e1, ih ps]
theorem cutS_split {e : UInt8} {p : List UInt8} (r : List UInt8) (h : e ∉ p) : cutS e (p ++ e :: r) = (p :: (cutS e r).1, (cutS e r).2) := by
  unfold cutS
  rw [List.foldl_append, cut_free p h, List.foldl_cons]
  have e1 : cutG e ([], [] ++ p) e = ([p], []) := by unfold cutG; rw [if_pos rfl]; simp
  rw [e1, cut_pre]
  simp
theorem allL_split {c : Cf} {p : List UInt8} (r : List UInt8) (h : endOf c ∉ p) : allL c (p ++ endOf c :: r) = pieceE c p ++ allL c r := by
  unfold allL
  rw [cutS_split r h, List.flatMap_cons]
theorem allL_none {c : Cf} {l : List UInt8} (h : endOf c ∉ l) : allL c l = [] := by
  unfold allL cutS
  rw [cut_free l h]
  rfl
theorem pieceE_end (c : Cf) (p : List UInt8) : pieceE c p = (endE c ⟨p, decide (holdN c < (p.length : Int))⟩).toList := by
  unfold pieceE endE
  by_cases h : holdN c < (p.length : Int)
  · rw [if_pos h, if_pos (by simpa using h)]; rfl
  · rw [if_neg h, if_neg (by simpa using h)]
def AllPost (w : World) (l : List Ev) (e : Ending) (w' : World) : Prop := ∃ v, e = .returned v ∧ OE w' w.heap.size v l ∧ Below w.heap.size w w'
/-- the box of a configuration -/
def C1 (w W : World) (a b d m : Int) : Prop := BK W w.heap.size #[.int .i64 a, .int .i64 b, .int .i64 d, .int .i64 m] 24 ∧ Below w.heap.size w W
section
variable {w W W' : World} {a b d m : Int}
theorem C1.start (w : World) (a b d m : Int) : C1 w (w.alloc (.cells #[.int .i64 a, .int .i64 b, .int .i64 d, .int .i64 m] 24)) a b d m := ⟨BK.new _ _ _, (Below.refl _ _).alloc (Nat.le_refl _) _⟩
theorem C1.from (h : C1 w W a b d m) (hb : Below W.heap.size W W') : C1 w W' a b d m := ⟨h.1.from hb, h.2.trans (hb.mono h.2.size)⟩
theorem C1.alloc (h : C1 w W a b d m) (o : Obj) : C1 w (W.alloc o) a b d m := h.from ((Below.refl _ _).alloc (Nat.le_refl _) _)
theorem C1.drew (h : C1 w W a b d m) : C1 w W.drew a b d m := ⟨h.1, h.2.drew⟩
theorem C1.grown {row : Option Nat} (h : C1 w W a b d m) (hg : W.grownBy W' row) (hr : ∀ k, row = some k → w.heap.size + 1 ≤ k) : C1 w W' a b d m :=
  ⟨h.1.grown hg (fun e => by have := hr _ e; omega), h.2.grown hg h.2.size (fun k hk => by have := hr k hk; omega)⟩
theorem C1.size (h : C1 w W a b d m) : w.heap.size + 1 ≤ W.heap.size := h.1.lt
theorem C1.flat (h : C1 w W a b d m) : W.cell? ⟨w.heap.size, 0, none⟩ = some (.int .i64 a) ∧ W.cell? ⟨w.heap.size, 1, none⟩ = some (.int .i64 b) ∧ W.cell? ⟨w.heap.size, 2, none⟩ = some (.int .i64 d) ∧ W.cell? ⟨w.heap.size, 3, none⟩ = some (.int .i64 m) := ⟨h.1.cell rfl, h.1.cell rfl, h.1.cell rfl, h.1.cell rfl⟩
end
def strLen (v : Value) : Nat := match v with | .string s => s.size | _ => 0
set_option maxRecDepth 100000 in
set_option maxHeartbeats 4000000 in
theorem implFindAll_yes (a b d m : Int) (s : ByteArray) (w : World) (wa : (Lit.int .i64 a).wf = true) (hc : confB ⟨a, b, d, m⟩ = true) (hs : s.size ≤ 600) :
    Calls Tryz.prog 18 #[cfV a b d m, .string s] w (AllPost w (allL ⟨a, b, d, m⟩ s.data.toList)) := by
  have hall := allL_len ⟨a, b, d, m⟩ s.data.toList
  rw [size_list] at hall
  obtain ⟨_, hkb, hd, _, _⟩ := confB_yes hc
  simp only at hkb hd
  have hkb2 := kind_ge hkb
  obtain ⟨hp0, hp1, _, _⟩ := hold_pos hc
  obtain ⟨t, v, fd, fw, fr, rd, rw_, rr, hway, HW⟩ := way_of hc
  have HWV := Lib.hid hway
  have HC := Lib.hid hc
  have HWay := Lib.hid HW
  have q1 := HW.dm
  have q2 := HW.de
  have HDC := Lib.hid HW.dc
  clear hc hway HW hkb
  generalize hend : endOf ⟨a, b, d, m⟩ = c at *
  have HEnd := Lib.hid hend
  generalize hold : holdN ⟨a, b, d, m⟩ = hn at *
  have HO := Lib.hid hold
  clear hend hold
  go_enter Tryz.func18, Tryz.ntmps18
  go_wp2_with fail
  refine (codecOf_any a b d m _ wa).mono ?_
  rintro e w1 ⟨rfl, hb1⟩
  have HF := Lib.hid ((C1.start w a b d m).from hb1)
  rw [HC.out, HWV.out]
  clear hb1
  go_wp2
  go_loopw [1, 7] (fun sv ev wr => ∃ (S : ByteArray) (evs : List Ev), sv = .string S ∧ S.size ≤ 600 ∧ evs ++ allL ⟨a, b, d, m⟩ S.data.toList = allL ⟨a, b, d, m⟩ s.data.toList ∧ OE wr (w.heap.size + 1) ev evs ∧ C1 w wr a b d m) (fun sv _ _ => strLen sv)
  case atStart => exact ⟨s, [], rfl, hs, rfl, World.ownsRow_nil _ _ _ _, HF.out⟩
  case round =>
    clear HF
    obtain ⟨S, evs, rfl, hS6, hev, hoe, hF⟩ := hrel
    have hel : evs.length ≤ 600 := by
      have := congrArg List.length hev
      rw [List.length_append] at this
      omega
    have HEV := Lib.hid hev
    have HOE := Lib.hid hoe
    have HF := Lib.hid hF
    have HSL := Lib.hid (size_list S)
    clear hev hoe hF
    go_wp2_with fail
    refine (HDC.out _).mono ?_
    rintro e w2 ⟨rfl, hb2⟩
    have HF2 := Lib.hid (HF.out.from hb2)
    have HOE2 := Lib.hid (HOE.out.below hb2)
    clear hb2 HF HOE
    go_wp2_with fail
    refine (idx_any S _ _).mono ?_
    rintro e w3 ⟨rfl, rfl⟩
    rw [u8_back]
    by_cases hmem : c ∈ S.data.toList
    · obtain ⟨n, hn1, hn2, hn3, hn4⟩ := idx_split hmem
      rw [hn1]
      rw [size_list] at hn2
      obtain ⟨P, hP⟩ : ∃ P : ByteArray, S.extract 0 n = P := ⟨_, rfl⟩
      obtain ⟨R, hR⟩ : ∃ R : ByteArray, S.extract (n + 1) S.size = R := ⟨_, rfl⟩
      have hPd : P.data.toList = S.data.toList.take n := by rw [← hP, ext_to]
      have hRd : R.data.toList = S.data.toList.drop (n + 1) := by rw [← hR, ext_from]
      have hPn : P.size = n := by rw [← size_list, hPd, List.length_take, size_list]; omega
      have hRs : R.size + (n + 1) = S.size := by rw [← size_list, hRd, List.length_drop, size_list]; omega
      have hsl1 := slice_to S n (by omega)
      have hsl2 := slice_from S (n + 1) (by omega)
      rw [hP] at hsl1
      rw [hR] at hsl2
      have HN := Lib.hid (show (evs ++ (endE ⟨a, b, d, m⟩ ⟨P.data.toList, decide (hn < (P.size : Int))⟩).toList) ++ allL ⟨a, b, d, m⟩ R.data.toList = allL ⟨a, b, d, m⟩ s.data.toList by
        have h1 := allL_split (c := ⟨a, b, d, m⟩) (p := S.data.toList.take n) (S.data.toList.drop (n + 1)) (by rw [HEnd.out]; exact hn4)
        rw [HEnd.out, ← hn3, pieceE_end, ← hPd, ← hRd, HO.out, size_list] at h1
        rw [← HEV.out, h1, List.append_assoc])
      have HPN := Lib.hid (show endOf ⟨a, b, d, m⟩ ∉ P.data.toList by rw [HEnd.out, hPd]; exact hn4)
      have hPle : P.size ≤ 600 := by omega
      have HRS := Lib.hid hRs
      rw [hPn] at HN
      have hnn : ((n : Int) < 0) = False := by simp
      have hni : ((n + 1 : Nat) : Int) = (n : Int) + 1 := by omega
      rw [hni] at hsl2
      clear hP hR hPd hRd hRs hmem hn3 hn4 hni hn1 hPn
      obtain ⟨ob, hob⟩ : ∃ ob, decide (hn < (n : Int)) = ob := ⟨_, rfl⟩
      rw [hob] at HN
      have hob2 : decide (hn < (n : Int)) = ob := hob
      have HOb := Lib.hid hob
      have hEl := opt_len (endE ⟨a, b, d, m⟩ ⟨P.data.toList, ob⟩)
      clear hob
      go_wp2_with fail
      have hF := HF2.out.drew
      have hS := hF.flat
      have hO := HOE2.out.drew
      refine wp_region_held_drew (S := (fun wx => wx.cell? ⟨w.heap.size, 0, none⟩ = some (.int .i64 a) ∧ wx.cell? ⟨w.heap.size, 1, none⟩ = some (.int .i64 b) ∧ wx.cell? ⟨w.heap.size, 2, none⟩ = some (.int .i64 d) ∧ wx.cell? ⟨w.heap.size, 3, none⟩ = some (.int .i64 m))) (by kernel_rfl) hS (fun hHeld => ?_)
      refine wpAnyH_take (i := 0) (v := ?_) rfl (by kernel_rfl) (by kernel_rfl) (by kernel_rfl) (fun _ _ _ h => h) (Or.inl ⟨by rfl, ?_⟩) (by assumption) ?_
      rotate_left
      · intro wq hSw
        (try dsimp only at hSw)
        (try simp only [List.getElem_toArray, List.getElem_cons_zero])
        go_simp
        (try with_reducible rfl)
      simp only [Act.put, List.getElem_toArray, List.getElem_cons_zero, List.setIfInBounds_toArray, List.set_cons_zero, List.set_cons_succ]
      refine wpAnyH_take (i := 1) (v := ?_) rfl (by kernel_rfl) (by kernel_rfl) (by kernel_rfl) (fun _ _ _ h => h) (Or.inl ⟨by rfl, ?_⟩) (by assumption) ?_
      rotate_left
      · intro wq hSw
        (try dsimp only at hSw)
        (try simp only [List.getElem_toArray, List.getElem_cons_succ, List.getElem_cons_zero])
        go_simp
        (try with_reducible rfl)
      simp only [Act.put, List.getElem_toArray, List.getElem_cons_succ, List.getElem_cons_zero, List.setIfInBounds_toArray, List.set_cons_zero, List.set_cons_succ]
      refine wpAnyH_take (i := 2) (v := ?_) rfl (by kernel_rfl) (by kernel_rfl) (by kernel_rfl) (fun _ _ _ h => h) (Or.inl ⟨by rfl, ?_⟩) (by assumption) ?_
      rotate_left
      · intro wq hSw
        (try dsimp only at hSw)
        (try simp only [List.getElem_toArray, List.getElem_cons_succ, List.getElem_cons_zero])
        go_simp
        (try with_reducible rfl)
      simp only [Act.put, List.getElem_toArray, List.getElem_cons_succ, List.getElem_cons_zero, List.setIfInBounds_toArray, List.set_cons_zero, List.set_cons_succ]
      refine wpAnyH_take (i := 3) (v := ?_) rfl (by kernel_rfl) (by kernel_rfl) (by kernel_rfl) (fun _ _ _ h => h) (Or.inl ⟨by rfl, ?_⟩) (by assumption) ?_
      rotate_left
      · intro wq hSw
        (try dsimp only at hSw)
        (try simp only [List.getElem_toArray, List.getElem_cons_succ, List.getElem_cons_zero])
        go_simp
        (try with_reducible rfl)
      simp only [Act.put, List.getElem_toArray, List.getElem_cons_succ, List.getElem_cons_zero, List.setIfInBounds_toArray, List.set_cons_zero, List.set_cons_succ]
      refine wpAnyH_take (i := 4) (v := ?_) rfl (by kernel_rfl) (by kernel_rfl) (by kernel_rfl) (fun _ _ _ h => h) (Or.inl ⟨by rfl, ?_⟩) (by assumption) ?_
      rotate_left
      · intro wq hSw
        (try dsimp only at hSw)
        (try simp only [List.getElem_toArray, List.getElem_cons_succ, List.getElem_cons_zero])
        go_simp
        (try with_reducible rfl)
      simp only [Act.put, List.getElem_toArray, List.getElem_cons_succ, List.getElem_cons_zero, List.setIfInBounds_toArray, List.set_cons_zero, List.set_cons_succ]
      refine wpAnyH_take (i := 5) (v := ?_) rfl (by kernel_rfl) (by kernel_rfl) (by kernel_rfl) (fun _ _ _ h => h) (Or.inl ⟨by rfl, ?_⟩) (by assumption) ?_
      rotate_left
      · intro wq hSw
        (try dsimp only at hSw)
        (try simp only [List.getElem_toArray, List.getElem_cons_succ, List.getElem_cons_zero])
        go_simp
        (try with_reducible rfl)
      simp only [Act.put, List.getElem_toArray, List.getElem_cons_succ, List.getElem_cons_zero, List.setIfInBounds_toArray, List.set_cons_zero, List.set_cons_succ]
      refine wpAnyH_take (i := 6) (v := ?_) rfl (by kernel_rfl) (by kernel_rfl) (by kernel_rfl) (fun _ _ _ h => h) (Or.inl ⟨by rfl, ?_⟩) (by assumption) ?_
      rotate_left
      · intro wq hSw
        (try dsimp only at hSw)
        (try simp only [List.getElem_toArray, List.getElem_cons_succ, List.getElem_cons_zero])
        go_simp
        (try with_reducible rfl)
      simp only [Act.put, List.getElem_toArray, List.getElem_cons_succ, List.getElem_cons_zero, List.setIfInBounds_toArray, List.set_cons_zero, List.set_cons_succ]
      refine wpAnyH_take (i := 7) (v := ?_) rfl (by kernel_rfl) (by kernel_rfl) (by kernel_rfl) (fun _ _ _ h => h) (Or.inl ⟨by rfl, ?_⟩) (by assumption) ?_
      rotate_left
      · intro wq hSw
        (try dsimp only at hSw)
        (try simp only [List.getElem_toArray, List.getElem_cons_succ, List.getElem_cons_zero])
        go_simp
        (try with_reducible rfl)
      simp only [Act.put, List.getElem_toArray, List.getElem_cons_succ, List.getElem_cons_zero, List.setIfInBounds_toArray, List.set_cons_zero, List.set_cons_succ]
      refine wpAnyH_ready (rs := [8]) (by kernel_rfl) (by simp) ?_
      refine AllReadyH.cons rfl (fun K hK => ?_) AllReadyH.nil
      (try simp only [List.getElem_toArray, List.getElem_cons_succ, List.getElem_cons_zero])
      go_simp
      go_at_call 54
      refine (bufSize_any a b d m _ hkb2 hd).mono ?_
      rintro e w4 ⟨rfl, hb4⟩
      have hF := hF.from hb4
      have hO := hO.below hb4
      have hS := hF.flat
      rw [HO.out]
      refine hK.out _ _ hS (fun hHeld => ?_)
      clear hK K
      refine wpAnyH_take (i := 9) (v := ?_) rfl (by kernel_rfl) (by kernel_rfl) (by kernel_rfl) (fun _ _ _ h => h) (Or.inl ⟨by rfl, ?_⟩) (by assumption) ?_
      rotate_left
      · intro wq hSw
        (try dsimp only at hSw)
        (try simp only [List.getElem_toArray, List.getElem_cons_succ, List.getElem_cons_zero])
        go_simp
        (try with_reducible rfl)
      simp only [Act.put, List.getElem_toArray, List.getElem_cons_succ, List.getElem_cons_zero, List.setIfInBounds_toArray, List.set_cons_zero, List.set_cons_succ]
      refine wpAnyH_ready (rs := [10]) (by kernel_rfl) (by simp) ?_
      refine AllReadyH.cons rfl (fun K hK => ?_) AllReadyH.nil
      (try simp only [List.getElem_toArray, List.getElem_cons_succ, List.getElem_cons_zero])
      go_simp
      go_at_call 58
      refine (endEvent_any a b d m t v fd fw fr rd rw_ rr P ob _ HC.out HWay.out hPle (fun _ => HPN.out)).mono ?_
      rintro e w5 ⟨rfl, hb5⟩
      have hF := hF.from hb5
      have hO := hO.below hb5
      have hS := hF.flat
      refine hK.out _ _ hS (fun hHeld => ?_)
      clear hK K
      refine wpAnyH_ready (rs := [11]) (by kernel_rfl) (by simp) ?_
      refine AllReadyH.cons rfl (fun K hK => ?_) AllReadyH.nil
      (try simp only [List.getElem_toArray, List.getElem_cons_succ, List.getElem_cons_zero])
      go_simp
      go_at_call 57
      refine (report_any _ evs _ _ (w.heap.size + 1) hO (by omega) hF.size).mono ?_
      rintro e w6 ⟨v6, rfl, hoe6, hg6⟩
      have hF := hF.grown hg6 (fun k hk => (hO.lt k hk).1)
      have hS := hF.flat
      refine hK.out _ _ hS (fun hHeld => ?_)
      clear hK K
      refine wpAnyH_take (i := 12) (v := ?_) rfl (by kernel_rfl) (by kernel_rfl) (by kernel_rfl) (fun _ _ _ h => h) (Or.inl ⟨by rfl, ?_⟩) (by assumption) ?_
      rotate_left
      · intro wq hSw
        (try dsimp only at hSw)
        (try simp only [List.getElem_toArray, List.getElem_cons_succ, List.getElem_cons_zero])
        go_simp
        (try with_reducible rfl)
      simp only [Act.put, List.getElem_toArray, List.getElem_cons_succ, List.getElem_cons_zero, List.setIfInBounds_toArray, List.set_cons_zero, List.set_cons_succ]
      refine wpAnyH_done (by kernel_rfl) ?_ _
      rw [← evZ_list] at hoe6
      have HF6 := Lib.hid hF
      have HOE6 := Lib.hid hoe6
      clear hF hS hO hoe6 hg6
      go_wp2
      go_roundw
      case rel => exact ⟨R, _, rfl, by have := HRS.out; omega, HN.out, HOE6.out, HF6.out⟩
      case measure => simp [strLen]; have := HRS.out; omega
    · rw [idx_none hmem]
      have HV := Lib.hid (show evs = allL ⟨a, b, d, m⟩ s.data.toList by
        have := HEV.out; rw [allL_none (by rw [HEnd.out]; exact hmem)] at this; simpa using this)
      clear hmem
      go_wp2
      go_ret
      exact ⟨_, rfl, by rw [← HV.out]; exact HOE2.out.mono (by omega), HF2.out.2⟩
end Go.Proofs.YtdnedoafgfpnfaaGreat
/- FindAll, in the model. -/
namespace Go.Proofs.YtdnedoafgfpnfaaGreat
open Go.ChangeShapes Go.WideShapes Go.ChangeAt Go.RowKit
theorem ext_seg (s : ByteArray) (i m : Nat) : (s.extract i m).data.toList = (s.data.toList.take m).drop i := by rw [Lib.extract_data, List.drop_take]
def CutPost (w : World) (s : ByteArray) (c : UInt8) (e : Ending) (w' : World) : Prop := ∃ v ss, e = .returned v ∧ OS w' w.heap.size v ss ∧ ss.map (fun t => t.data.toList) = (cutS c s.data.toList).1 ++ [(cutS c s.data.toList).2] ∧ Below w.heap.size w w'
section
variable {P : Program} (w : World)
theorem run_append_ev (base : Nat) (t ty : TypeId) (i : TypeInfo) (ht : P.underlying t = some (.slice 39)) (hi : P.info? 39 = some i) (hz : i.zero = some (.agg #[.int .i64 0, .string ⟨#[]⟩]))
    (hsize : i.size = 2) (hby : i.bytes = 24) (v : Value) (l : List Ev) (hown : OE w base v l)
    (lo B : Nat) (v2 : Value) (news : List Ev) (hr : RE w lo B v2 news) (hlen : l.length + news.length ≤ 1000000000000) (hbase : base ≤ w.heap.size) :
    ∃ v' w', (Builtin.append_ #[t, t] ty #[v, v2]).run P w = .ok v' w' ∧ OE w' base v' (l ++ news) ∧ w.grownBy w' v.ownBlock ∧ (v'.ownBlock = v.ownBlock ∨ v'.ownBlock = some w.heap.size) := by
  obtain ⟨ad, cap, hv2, hr2⟩ := hr
  cases ad with
  | some y =>
    have hc : ∀ j u, (evCs news)[j]? = some u → w.cell? (y.add j) = some u := by
      by_cases h0 : 0 < news.length
      · obtain ⟨y', hy, _, _, hc⟩ := hr2 h0
        injection hy with hy
        subst hy
        exact fun j u hu => by rw [lit_add]; exact hc j u hu
      · have hn : news = [] := List.eq_nil_of_length_eq_zero (by omega)
        subst hn
        intro j u hu
        simp [evCs] at hu
    obtain ⟨v', w', r1, r2, r3, _, r5⟩ := run_append_own_at (P := P) w base t ty 39 i _ 2 24 ht hi hz hsize hby rfl (by omega) v l.length (evCs l) hown y news.length cap (evCs news) (by rw [evCs_len]) hc (evCs_one _) (by unfold maxLen; omega) (by omega) hbase
    refine ⟨v', w', by rw [hv2]; exact r1, ?_, r3, r5⟩
    unfold OE
    rw [List.length_append, evCs_append]
    exact r2
  | none =>
    have hn : news = [] := by
      by_cases h0 : 0 < news.length
      · obtain ⟨y', hy, _⟩ := hr2 h0
        cases hy
      · exact List.eq_nil_of_length_eq_zero (by omega)
    subst hn
    refine ⟨v, w, ?_, by simpa using hown, ⟨rfl, rfl, rfl, Nat.le_refl _, fun _ _ _ => rfl⟩, .inl rfl⟩
    rw [hv2]
    rcases hown.2 with ⟨rfl, hl⟩ | ⟨g, cp, cur, rfl, _, hg, hnc, _, hcs, _⟩
    · simp [Builtin.append_, run_underlying ht, sizeOf, typeInfo, hi, Builtin.lenOf, Builtin.firstCells]
    · simp [Builtin.append_, run_underlying ht, sizeOf, typeInfo, hi, Builtin.lenOf, Builtin.firstCells, hnc, storeCells]
/-- the operation 'append' of events, by itself -/
theorem opwp_append_ev {o : Oper} {a : Act} {K : Act → World → Prop} {Q : Exit → Act → World → Prop} (s x : Operand) (t : TypeId)
    (ho : o.op = .call { callee := .builtin .append, args := #[s, x], argTypes := #[t, t] })
    (base : Nat) (i : TypeInfo) (ht : P.underlying t = some (.slice 39)) (hi : P.info? 39 = some i) (hz : i.zero = some (.agg #[.int .i64 0, .string ⟨#[]⟩]))
    (hsize : i.size = 2) (hby : i.bytes = 24) (v : Value) (l : List Ev) (hs : a.eval s = v) (hown : OE w base v l)
    (lo B : Nat) (v2 : Value) (news : List Ev) (hx : a.eval x = v2) (hr : RE w lo B v2 news) (hlen : l.length + news.length ≤ 1000000000000) (hbase : base ≤ w.heap.size)
    (h : ∀ v' w', OE w' base v' (l ++ news) → w.grownBy w' v.ownBlock → K (a.put o.dst v') w') : Oper.wp P o a w K Q := by
  obtain ⟨v', w', hr, h2, h3, h4⟩ := run_append_ev (P := P) w base t o.type i ht hi hz hsize hby v l hown lo B v2 news hr hlen hbase
  unfold Oper.wp execOp
  simp only [ho, resolve, invoke, builtin, Sem.run_bind, Sem.run_pure, Result.andThen_ok, List.map_toArray, List.map_cons, List.map_nil, hs, hx, hr]
  exact h v' w' h2 h3
end
theorem os_apart {w : World} {b b' : Nat} {v v' : Value} {l : List ByteArray} {l' : List Ev} (h : OS w b v l) (h' : OE w b' v' l') : v.ownBlock = none ∨ v.ownBlock ≠ v'.ownBlock := by
  rcases h.2 with ⟨rfl, _⟩ | ⟨g, cap, cur, rfl, _, hg, _⟩
  · exact .inl rfl
  · rcases h'.2 with ⟨rfl, _⟩ | ⟨g', cap', cur', rfl, _, hg', _⟩
    · exact .inr (by simp [Value.ownBlock])
    · have hne : g ≠ g' := by
        rintro rfl
        rw [hg] at hg'
        injection hg' with e
        injection e with _ e2 _
        exact absurd e2 (by decide)
      exact .inr (by simp [Value.ownBlock]; exact hne)
theorem cutS_mass (e : UInt8) (l : List UInt8) : ∀ p ∈ (cutS e l).1, p.length ≤ l.length := by
  have : (cutS e l).2.length ≤ l.length ∧ ∀ p ∈ (cutS e l).1, p.length ≤ l.length := by
    induction l using snoc_ind with
    | h0 => simp [cutS]
    | h1 l b ih =>
      rw [cutS_snoc, List.length_append]
      unfold cutG
      split
      · refine ⟨by simp, fun p hp => ?_⟩
        simp only [List.mem_append, List.mem_singleton] at hp
        rcases hp with hp | hp
        · have := ih.2 p hp; omega
        · rw [hp]; have := ih.1; omega
      · refine ⟨by simp; exact ih.1, fun p hp => ?_⟩
        have := ih.2 p hp; omega
  exact this.2
theorem allL_take {c : Cf} {l : List UInt8} {ps : List (List UInt8)} (h : (cutS (endOf c) l).1 = ps) : allL c l = ps.flatMap (pieceE c) := by unfold allL; rw [h]
end Go.Proofs.YtdnedoafgfpnfaaGreat
/- FindAll at every argument, in the program and in the model. -/
namespace Go.Proofs.YtdnedoafgfpnfaaGreat
open Go.ChangeShapes Go.WideShapes Go.ChangeAt Go.RowKit
set_option maxHeartbeats 1000000 in
theorem implFindAll_any (a b d m : Int) (s : ByteArray) (w : World) (wa : (Lit.int .i64 a).wf = true) (hs : s.size ≤ maxLen) :
    Calls Tryz.prog 18 #[cfV a b d m, .string s] w (AllPost w (allF ⟨a, b, d, m⟩ s.data.toList)) := by
  unfold maxLen at hs
  cases hc : confB ⟨a, b, d, m⟩ with
  | false =>
    have HE := Lib.hid (show allF ⟨a, b, d, m⟩ s.data.toList = [] by unfold allF; rw [if_neg (by rw [hc]; simp)])
    have HC := Lib.hid hc
    clear hc
    go_enter Tryz.func18, Tryz.ntmps18
    go_wp2_with fail
    refine (codecOf_any a b d m _ wa).mono ?_
    rintro e w1 ⟨rfl, hb1⟩
    have HB := Lib.hid (alloc_below hb1)
    rw [HC.out]
    clear hb1
    go_wp2
    go_ret
    exact ⟨_, rfl, by rw [HE.out]; exact World.ownsRow_nil _ _ _ _, HB.out⟩
  | true =>
    by_cases hle : s.size ≤ 600
    · have HE := Lib.hid (show allF ⟨a, b, d, m⟩ s.data.toList = allL ⟨a, b, d, m⟩ s.data.toList by unfold allF; rw [if_pos ⟨hc, by rw [size_list]; exact hle⟩])
      rw [HE.out]
      exact implFindAll_yes a b d m s w wa hc hle
    · have HE := Lib.hid (show allF ⟨a, b, d, m⟩ s.data.toList = [] by unfold allF; rw [if_neg (by rw [size_list]; omega)])
      have HC := Lib.hid hc
      clear hc
      go_enter Tryz.func18, Tryz.ntmps18
      go_wp2_with fail
      refine (codecOf_any a b d m _ wa).mono ?_
      rintro e w1 ⟨rfl, hb1⟩
      have HB := Lib.hid (alloc_below hb1)
      rw [HC.out]
      clear hb1
      go_wp2
      go_ret
      exact ⟨_, rfl, by rw [HE.out]; exact World.ownsRow_nil _ _ _ _, HB.out⟩
theorem allF_len (c : Cf) (l : List UInt8) : (allF c l).length ≤ 600 := by
  unfold allF
  split
  · rename_i h; have := allL_len c l; omega
  · simp
end Go.Proofs.YtdnedoafgfpnfaaGreat
