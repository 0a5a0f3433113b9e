/- FnFindEnd: behind an end nothing of what was ahead is left. For every code (the law draws a configuration, a finder and bytes from it). No condition. -/
import Derived.Test.YtdnedoafgfpnfaaGreatFindL
import Derived.Test.YtdnedoafgfpnfaaGreatDrawFeedF
namespace Go.Proofs.YtdnedoafgfpnfaaGreat.fnFindEnd
open Go.ChangeShapes Go.WideShapes Go.ChangeAt Go.RowKit
set_option linter.unusedVariables false
set_option maxRecDepth 100000 in
set_option maxHeartbeats 8000000 in
theorem walk (a0 : Option Addr) (len0 cap0 : Nat) (z0 : List Int) (w : World) (w0 : IsRow .u8 w a0 len0 cap0 z0) :
    Calls Tryz.prog 3 #[.slice a0 len0 cap0] w fun e w' => e = .returned (.bool true) ∧ Below w.heap.size w w' := by
  by_cases hbig : 1048576 < len0
  · go_enter Tryz.func3, Tryz.ntmps3
    go_wp2
    go_ret
    exact ⟨rfl, Below.refl _ _⟩
  have HH := Lib.hid w0
  have hz := zero_find
  have hzc := zero_conf
  clear w0
  go_enter Tryz.func3, Tryz.ntmps3
  go_wp2_with fail
  refine (drawFeed_any a0 len0 cap0 z0 HH.out).mono ?_
  rintro e x1 ⟨a, b, d, m, H, o, s, rfl, hsm, hHs, hs, hb1⟩
  have wa := wf_small hsm.1
  have hB0 := Bx.new x1 a b d m H o 24 26
  have HB1 := Lib.hid hb1
  have HB0 := Lib.hid hB0
  have hHm : H.size ≤ maxLen := by unfold maxLen; omega
  have hsx : s.size ≤ maxLen := by unfold maxLen; omega
  have hlen := feedF_len ⟨a, b, d, m⟩ ⟨H.data.toList, o⟩ s.data.toList
  have HIM := Lib.hid (fun W => implFindFeed_any a b d m H o s W wa hHm hsx)
  have HSP := Lib.hid (fun W => specFindFeed_any a b d m H o s W hHm hsx)
  have HO1 := Lib.hid (fun W => implFindOk_any a b d m H o W wa hHm)
  have HAF := Lib.hid (fun (hok : okF ⟨a, b, d, m⟩ ⟨H.data.toList, o⟩ = true) => feedF_after _ _ s.data.toList hok (by rw [size_list]; exact hs))
  have HGD := Lib.hid (feedF_good ⟨a, b, d, m⟩ ⟨H.data.toList, o⟩ s.data.toList)
  obtain ⟨p, hp⟩ : ∃ p, feedF ⟨a, b, d, m⟩ ⟨H.data.toList, o⟩ s.data.toList = p := ⟨_, rfl⟩
  rw [hp] at HIM HSP hlen HAF HGD
  obtain ⟨⟨Xl, y⟩, evs⟩ := p
  obtain ⟨X, rfl⟩ : ∃ X : ByteArray, X.data.toList = Xl := ⟨⟨Xl.toArray⟩, rfl⟩
  simp only at hlen
  clear hb1 hB0 hp
  go_wp2_with fail
  refine (HIM.out _).mono ?_
  rintro e x2 ⟨v9, rfl, hoe2, hb2⟩
  simp only [fdL, Lib.mk_data]
  have hbx2 := (HB0.out.next hb2).alloc (.cells #[.string X, .bool y] 26)
  have hk8 := BK.new x2 #[.string X, .bool y] 26
  have HOE2 := Lib.hid (hoe2.alloc' (.cells #[.string X, .bool y] 26))
  obtain ⟨⟨c0, c1, c2, c3⟩, e0, e1⟩ := hbx2.flat
  have HBX2 := Lib.hid hbx2
  have HK8 := Lib.hid hk8
  clear hb2 hoe2 hbx2 hk8 HB0
  go_wp2_with fail
  refine (HSP.out _).mono ?_
  rintro e x3 ⟨v11, rfl, hoe3, hb3⟩
  simp only [fdL, Lib.mk_data]
  have hL : LT x1 (x3.alloc (.cells #[.string X, .bool y] 26)) a b d m H o x2.heap.size x3.heap.size (x3.alloc (.cells #[.string X, .bool y] 26)).heap.size X y v9 v11 evs := by
    have hB3 := (HBX2.out.next hb3).alloc (.cells #[.string X, .bool y] 26)
    have hs3 := hb3.size
    refine ⟨⟨hB3.1, hB3.2.1, (HK8.out.from hb3).alloc _, BK.new _ _ _, ((HOE2.out.below hb3).alloc' _).reads.mono (Nat.zero_le _) (Nat.le_refl _), (hoe3.alloc' _).reads.mono (Nat.zero_le _) (Nat.le_refl _)⟩, hB3.2.2.1, hB3.2.2.2, ?_, by simp, Nat.le_refl _⟩
    simp at hs3 ⊢
    omega
  obtain ⟨⟨⟨c0, c1, c2, c3⟩, e0, e1⟩, ⟨f0, f1⟩, f2, f3⟩ := hL.flat
  have HL := Lib.hid hL
  generalize (x3.alloc (.cells #[.string X, .bool y] 26)).heap.size = B at HL
  obtain ⟨g8, hg8⟩ : ∃ g8, x2.heap.size = g8 := ⟨_, rfl⟩
  obtain ⟨g10, hg10⟩ : ∃ g10, x3.heap.size = g10 := ⟨_, rfl⟩
  rw [hg8] at HL f0 f1
  rw [hg10] at HL f2 f3
  have q1 := fd_neq X y
  have q2 := guard_fd
  have q3 := fd_eq 9998 X y
  have q4 := fd_eql X y
  clear hb3 hoe3 hL HBX2 HK8 HOE2
  cases hok : okF ⟨a, b, d, m⟩ ⟨H.data.toList, o⟩ with
  | false =>
    rw [hok] at HO1
    clear hok HAF
    go_wp2_with fail
    refine (HL.out.ct hlen).mono ?_
    rintro e x4 ⟨rfl, hbx⟩
    have hL := HL.out.from hbx
    obtain ⟨⟨⟨c0, c1, c2, c3⟩, e0, e1⟩, ⟨f0, f1⟩, f2, f3⟩ := hL.flat
    have HL := Lib.hid hL
    clear hL hbx
    go_wp2_with fail
    refine (HO1.out _).mono ?_
    rintro e x5 ⟨rfl, hbx⟩
    have hL := HL.out.from hbx
    obtain ⟨⟨⟨c0, c1, c2, c3⟩, e0, e1⟩, ⟨f0, f1⟩, f2, f3⟩ := hL.flat
    have HL := Lib.hid hL
    clear hL hbx
    go_wp2_with fail
    refine (HL.out.ct hlen).mono ?_
    rintro e x6 ⟨rfl, hbx⟩
    have hL := HL.out.from hbx
    obtain ⟨⟨⟨c0, c1, c2, c3⟩, e0, e1⟩, ⟨f0, f1⟩, f2, f3⟩ := hL.flat
    have HL := Lib.hid hL
    clear hL hbx
    have HB := Lib.hid (HB1.out.trans (HL.out.below.mono HB1.out.size))
    clear HL
    go_wp2
    go_ret
    exact ⟨rfl, HB.out⟩
  | true =>
    rw [hok] at HO1
    have HOK := Lib.hid hok
    clear hok
    go_wp2_with fail
    refine (HL.out.ct hlen).mono ?_
    rintro e x4 ⟨rfl, hbx⟩
    have hL := HL.out.from hbx
    obtain ⟨⟨⟨c0, c1, c2, c3⟩, e0, e1⟩, ⟨f0, f1⟩, f2, f3⟩ := hL.flat
    have HL := Lib.hid hL
    clear hL hbx
    go_wp2_with fail
    refine (HO1.out _).mono ?_
    rintro e x5 ⟨rfl, hbx⟩
    have hL := HL.out.from hbx
    obtain ⟨⟨⟨c0, c1, c2, c3⟩, e0, e1⟩, ⟨f0, f1⟩, f2, f3⟩ := hL.flat
    have HL := Lib.hid hL
    clear hL hbx
    have HFS := Lib.hid (fun W => implFindSend_any a b d m ⟨#[]⟩ W wa (by show 0 ≤ maxLen; exact Nat.zero_le _))
    have hcb : confB ⟨a, b, d, m⟩ = true := (okF_yes HOK.out).1
    have hso : sendOk ⟨a, b, d, m⟩ [] = true := by
      simp only [sendOk, hcb, Bool.true_and, decide_eq_true_eq]
      exact (confB_yes hcb).2.2.1.1
    obtain ⟨T, hT⟩ : ∃ T : ByteArray, (⟨(sendA ⟨a, b, d, m⟩ []).toArray⟩ : ByteArray) = T := ⟨_, rfl⟩
    have hTl : T.data.toList = sendL ⟨a, b, d, m⟩ [] := by rw [← hT]; exact sendA_yes hso
    have hlen2 := sendL_len hso
    rw [← hTl, size_list] at hlen2
    obtain ⟨ht93, ht1⟩ := hlen2
    obtain ⟨n, hn, ⟨hnl, hlast⟩, _⟩ := last_send hso hTl
    have HFS2 := Lib.hid (show ∀ W, Calls Tryz.prog 16 #[cfV a b d m, .string ⟨#[]⟩] W fun e w' => e = .returned (.string T) ∧ Below W.heap.size W w' from fun W => by
      have h := HFS.out W
      rw [show (⟨#[]⟩ : ByteArray).data.toList = [] from rfl, hT] at h
      exact h)
    have hext : (T.extract n T.size).data.toList = [endOf ⟨a, b, d, m⟩] := by
      rw [ext_from, List.drop_eq_getElem_cons (by rw [size_list]; exact hnl), List.drop_eq_nil_of_le (by rw [size_list]; omega)]
      show [T[n]] = _
      rw [hlast]
    obtain ⟨U, hU⟩ : ∃ U, T.extract n T.size = U := ⟨_, rfl⟩
    rw [hU] at hext
    have hUs : U.size = 1 := by rw [← size_list, hext]; rfl
    obtain ⟨hX92, hokX⟩ := HAF.out HOK.out
    have hXm : X.size ≤ maxLen := by rw [← size_list]; unfold maxLen; omega
    have HFE := Lib.hid (fun W => implFindFeed_any a b d m X y U W wa hXm (by unfold maxLen; omega))
    rw [hext] at HFE
    have hfe := feedF_end hokX
    have HF1 := Lib.hid hfe.1
    have hF2 := hfe.2
    have HFT := Lib.hid (fun W => implFindFeed_any a b d m ⟨#[]⟩ false T W wa (by show 0 ≤ maxLen; exact Nat.zero_le _) (by unfold maxLen; omega))
    rw [hTl, show (⟨#[]⟩ : ByteArray).data.toList = [] from rfl, feedF_send hso] at HFT
    have hni : (T.size : Int) - 1 = (n : Int) := by omega
    have hn0 : (0 : Int) ≤ (n : Int) := by omega
    have hn1 : (n : Int) ≤ (T.size : Int) := by omega
    have hnw : IntKind.i64.wrap ((T.size : Int) - 1) = (n : Int) := by rw [IntKind.wrap_i64]; omega
    have hnw2 : IntKind.i64.wrap (n : Int) = (n : Int) := by rw [IntKind.wrap_i64]; omega
    have HN := Lib.hid hn
    clear hn hUs hext
    clear hT hTl hso hlast hokX HFS hfe
    go_wp2_with fail
    refine (HFS2.out _).mono ?_
    rintro e x6 ⟨rfl, hbx⟩
    have hL := HL.out.from hbx
    obtain ⟨⟨⟨c0, c1, c2, c3⟩, e0, e1⟩, ⟨f0, f1⟩, f2, f3⟩ := hL.flat
    have HL := Lib.hid hL
    clear hL hbx
    go_upto_region 9 with fail
    go_cut [11, 12] (fun sb se wx => ∃ g, sb = .pointer (some ⟨g, 0, none⟩) ∧ XO x6.drew wx g ⟨#[]⟩ false se (feedF ⟨a, b, d, m⟩ ⟨X.data.toList, y⟩ [endOf ⟨a, b, d, m⟩]).2)
    case first =>
      have hL := HL.out.drew
      have hge := hL.top
      have hW := Below.refl x6.drew.heap.size x6.drew
      go_region_held3 (fun wx => ((wx.cell? ⟨x1.heap.size, 0, none⟩ = some (.int .i64 a) ∧ wx.cell? ⟨x1.heap.size, 1, none⟩ = some (.int .i64 b) ∧ wx.cell? ⟨x1.heap.size, 2, none⟩ = some (.int .i64 d) ∧ wx.cell? ⟨x1.heap.size, 3, none⟩ = some (.int .i64 m)) ∧ (wx.cell? ⟨x1.heap.size + 1, 0, none⟩ = some (.string H) ∧ wx.cell? ⟨x1.heap.size + 1, 1, none⟩ = some (.bool o))) ∧ ((wx.cell? ⟨g8, 0, none⟩ = some (.string X) ∧ wx.cell? ⟨g8, 1, none⟩ = some (.bool y)) ∧ (wx.cell? ⟨g10, 0, none⟩ = some (.string X) ∧ wx.cell? ⟨g10, 1, none⟩ = some (.bool y)))) (first | exact hLl.flat | exact (hLl.alloc _).flat | exact ((hLl.farSet (Nat.le_trans hge hg0) _).farSet (Nat.le_trans hge hg0) _).flat | exact hL.flat | exact (hL.alloc _).flat) ((go_at_call 12; refine (HFE.out _).mono ?_; rintro e w3 ⟨v3, rfl, ho3, hb3⟩; rw [HF1.out]; simp only [fdL]; (first | (have hLl := hL.from hb3) | (have hx : BK (x6.drew.alloc (.cells #[.string ⟨#[]⟩, .bool false] 26)) x6.heap.size #[.string ⟨#[]⟩, .bool false] 26 := BK.new x6.drew _ _; have hx3 := hx.from hb3; have x0 := hx3.cell (i := 0) rfl; have x1' := hx3.cell (i := 1) rfl; have y0 := hx3.free 0; have y1 := hx3.free 1; have hg0 := hW.size; have hL := hL.alloc (.cells #[.string ⟨#[]⟩, .bool false] 26); have hW := hW.alloc hW.size (.cells #[.string ⟨#[]⟩, .bool false] 26); have hLl := hL.from hb3))))
      all_goals
        (first
          | (have hXO := xo_box hW hx hg0 hb3 ho3 ⟨#[]⟩ false)
          | (have hXO := xo_last hW hb3 ho3 ⟨#[]⟩ false))
        have HXO := Lib.hid hXO
        clear hXO
        go_wp2
        go_meet
        exact ⟨_, rfl, HXO.out⟩
    case rest =>
      obtain ⟨g11, rfl, hxo⟩ := hcut
      have hL := HL.out.drew.from hxo.2.2.2
      obtain ⟨⟨⟨c0, c1, c2, c3⟩, e0, e1⟩, ⟨f0, f1⟩, f2, f3⟩ := hL.flat
      have HL2 := Lib.hid hL
      have HK11 := Lib.hid hxo.1
      have p0 := hxo.1.cell (i := 0) rfl
      have p1 := hxo.1.cell (i := 1) rfl
      obtain ⟨am, capm, hum⟩ := hxo.2.2.1.reads.shape
      have hml : (feedF ⟨a, b, d, m⟩ ⟨X.data.toList, y⟩ [endOf ⟨a, b, d, m⟩]).2.length ≤ 1 := hF2
      generalize (feedF ⟨a, b, d, m⟩ ⟨X.data.toList, y⟩ [endOf ⟨a, b, d, m⟩]).2 = more at *
      obtain ⟨nm, hnm⟩ : ∃ nm, more.length = nm := ⟨_, rfl⟩
      rw [hnm] at hum hml
      subst hum
      have q5 := fd_eq 9998 ⟨#[]⟩ false
      have q6 := fd_eql ⟨#[]⟩ false
      clear hL hxo hnm HL HFE HF1 hF2 hU
      go_wp2_with fail
      refine (HFT.out _).mono ?_
      rintro e x7 ⟨v14, rfl, hoe, hb7⟩
      simp only [fdL]
      have hL := (HL2.out.from hb7).alloc (.cells #[.string ⟨#[]⟩, .bool false] 26)
      have hk11 := (HK11.out.from hb7).alloc (.cells #[.string ⟨#[]⟩, .bool false] 26)
      have hk13 := BK.new x7 #[.string ⟨#[]⟩, .bool false] 26
      have p0 := hk11.cell (i := 0) rfl
      have p1 := hk11.cell (i := 1) rfl
      have r0 := hk13.cell (i := 0) rfl
      have r1 := hk13.cell (i := 1) rfl
      have HOE := Lib.hid (hoe.alloc' (.cells #[.string ⟨#[]⟩, .bool false] 26))
      have HL3 := Lib.hid hL
      have HK11b := Lib.hid hk11
      have HK13 := Lib.hid hk13
      clear hL hk11 hk13 hoe hb7 HL2 HK11
      go_wp2_with fail
      refine (ctWhole_same v14 _ [⟨#[]⟩] _ _ _ _ ((HOE.out.alloc' _).reads) (RS_one (x7.alloc (.cells #[.string ⟨#[]⟩, .bool false] 26)) ⟨#[]⟩ (g := x7.heap.size + 1) (by simp)) (Nat.le_refl _) (by simp) (by simp)).mono ?_
      rintro e x8 ⟨rfl, hb8⟩
      have hk11 := (HK11b.out.alloc (.cells #[.string ⟨#[]⟩] 9)).from hb8
      have hk13 := (HK13.out.alloc (.cells #[.string ⟨#[]⟩] 9)).from hb8
      have p0 := hk11.cell (i := 0) rfl
      have p1 := hk11.cell (i := 1) rfl
      have r0 := hk13.cell (i := 0) rfl
      have r1 := hk13.cell (i := 1) rfl
      have HB := Lib.hid (HB1.out.trans (((HL3.out.alloc (.cells #[.string ⟨#[]⟩] 9)).from hb8).below.mono HB1.out.size))
      clear hk11 hk13 hb8 HL3 HK11b HK13 HOE
      go_wp2
      go_ret
      exact ⟨rfl, HB.out⟩
theorem own : ownKnob Tryz.prog.godebug = none := by kernel_rfl
theorem laidOut : laidOutB Tryz.prog = true := by kernel_rfl
set_option maxRecDepth 100000 in
theorem lifted (os : Os) (started : os.Started) (H : Type) (enc : TypeId × Value → H) :
    ReturnsInHanded {} Tryz.checked os 3 .any (Rows.fnFindEndSpec.pre6 enc Tryz.prog Tryz.f3 Rows.fnFindEndRow.domain false) (Rows.fnFindEndSpec.post enc Tryz.prog Tryz.f3 false true false false) := by
  refine returnsInHanded_of_change (C := Tryz.checked) own started (by kernel_rfl) Tryz.func3
    (ChangeSpec.witness6 (enc := enc) (C := Tryz.checked) false ⟨#[], #[.slice none 0 0], []⟩ 8 (by kernel_rfl) (by kernel_rfl) (by kernel_rfl) (by kernel_rfl)) ?_
  intro W base args ds gs before hval0 hW hcnd _
  have hval : ∀ (j : Nat) t v, Tryz.f3.params[j]? = some t → args[j]? = some v → Value.okWide Tryz.prog W .any base t v := hval0
  have hW' := hW
  obtain ⟨p, q, hA0, hV, rfl, hfz, hnd⟩ := hW
  have hA : DataW.TrodAll enc Tryz.prog W 0 (fun _ => true) true Tryz.f3.params.toList args.toList ds p := hA0
  rw [Tryz.params3] at hA hval
  obtain ⟨v0, vs0, d0, ds0, p0, q0, hargs, rfl, rfl, h0, r0⟩ := trodAll_cons hA
  obtain ⟨rfl, rfl, rfl⟩ := trodAll_nil r0
  obtain rfl : args = #[v0] := by cases args; simp_all
  obtain ⟨rfl, rfl⟩ := trodVars_none hV
  obtain ⟨a0, len0, cap0, rfl⟩ := okWide_slice Tryz.underlying22 (hval 0 22 v0 rfl rfl)
  have k0 := h0
  have lt0 : ∀ x ∈ p0, x.block < W.heap.size := by obtain ⟨m, hm⟩ := k0; exact DataW.trod_lt m _ _ _ hm
  obtain ⟨z0, w0⟩ : ∃ zs, IsRow .u8 W a0 len0 cap0 zs := by
    obtain ⟨fuel, hf⟩ := h0
    rcases open_ints Tryz.underlying22 Tryz.underlying5 (by kernel_rfl) hf with ⟨hcs, _⟩ | ⟨x, l, c, zs, hcs, _, hl, hm, hz, _, hcell, hwz⟩
    · simp [Value.cells] at hcs
      obtain ⟨rfl, rfl, rfl⟩ := hcs
      exact ⟨[], .inl ⟨rfl, rfl, rfl, rfl⟩⟩
    · simp [Value.cells] at hcs
      obtain ⟨rfl, rfl, rfl⟩ := hcs
      exact ⟨zs, .inr ⟨_, rfl, hl, hm, by simpa using hz, hcell, hwz⟩⟩
  clear hA0 hval0
  refine (walk a0 len0 cap0 z0 W w0).mono fun e W' ⟨he, bel⟩ => ?_
  subst he
  exact ⟨_, rfl, _, _, _, [], _, [], hW', trodAll_mk1 (shut_bool Tryz.underlying4 _), (trodAll_cons_mk (Below.trod laidOut (by kernel_rfl) (of_decide_eq_true (by kernel_rfl)) k0 bel lt0) trodAll_mk0), rfl, bel.frame _, fun h => by cases h⟩
theorem over : Rows.fnFindEndRow.holds Tryz.pinned (OpenSpec.ofChange Rows.fnFindEndSpec) :=
  OpenClaim.holds_of_wide 3 Tryz.f3 rfl rfl rfl rfl rfl rfl rfl ⟨rfl, rfl, rfl, rfl, rfl⟩ rfl rfl rfl rfl rfl (by kernel_rfl) Tryz.func3 (by kernel_rfl)
    (of_decide_eq_true (by kernel_rfl)) (by unfold Func.isWrapper; first | (rw [if_pos (by decide +kernel)]; kernel_rfl) | (rw [if_neg (by decide +kernel)]; exact ⟨rfl, rfl⟩))
    (fun os started H enc _ => lifted os started H enc)
theorem proved : Rows.FnFindEndSaid := over
end Go.Proofs.YtdnedoafgfpnfaaGreat.fnFindEnd
