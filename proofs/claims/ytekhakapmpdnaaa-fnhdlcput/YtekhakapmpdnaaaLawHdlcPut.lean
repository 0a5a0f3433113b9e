/- FnHdlcPut: frames are found again in their bits, at whatever is drawn from whatever bytes. No condition. -/
import Derived.Test.YtekhakapmpdnaaaDrawFrames
import Derived.Test.YtekhakapmpdnaaaDrawHdlc
import Derived.Test.YtekhakapmpdnaaaHdlcW
import Derived.Test.YtekhakapmpdnaaaHdlcR
namespace Go.Proofs.Ytekhakapmpdnaaa.fnHdlcPut
open Go.ChangeShapes Go.WideShapes Go.ChangeAt Go.RowKit
set_option linter.unusedVariables false
theorem feed_new (kd : Int) (X : ByteArray) (W : World) (p : HS × List Ev) (hk : kindB kd = true) (hX : okB X.data.toList = true) (hp : hfeed kd ⟨false, 0, []⟩ X.data.toList = p) :
    Calls Try.prog 14 #[.int .i64 kd, .agg #[.bool false, .int .i64 0, .string ⟨#[]⟩], .string X] W (FeedPost W p) := by
  subst hp
  exact implFeed_yes kd false 0 ⟨#[]⟩ X W hk rfl hX
set_option maxRecDepth 100000 in
set_option maxHeartbeats 8000000 in
theorem walk (a0 : Option Addr) (len0 cap0 : Nat) (z0 : List Int) (w : World) (w0 : IsRow .u8 w a0 len0 cap0 z0) :
    Calls Try.prog 3 #[.slice a0 len0 cap0] w fun e w' => e = .returned (.bool true) ∧ Below w.heap.size w w' := by
  have hcap : len0 ≤ cap0 ∧ cap0 ≤ maxLen := by
    rcases w0 with ⟨_, h1, h2, _⟩ | ⟨x, _, h1, h2, _⟩
    · subst h1 h2; simp [maxLen]
    · exact ⟨h1, h2⟩
  unfold maxLen at hcap
  obtain ⟨hcap1, hcap2⟩ := hcap
  have HD := Lib.hid (drawPut_any a0 len0 cap0 z0 w0)
  clear w0
  by_cases hbig : 1048576 < len0
  · go_enter Try.func3, Try.ntmps3
    go_wp2
    go_ret
    exact ⟨rfl, Below.refl _ _⟩
  go_enter Try.func3, Try.ntmps3
  go_wp2_with fail
  refine HD.out.mono ?_
  rintro e w1 ⟨kd, v, ss, rfl, hfew, hrs, hb1⟩
  have hl7 : ss.length ≤ 7 := hfew.1
  have hl : ss.length ≤ 1048576 := by omega
  have hz : ∀ s ∈ ss, s.size ≤ 1048576 := fun s hs => by have := hfew.2 s hs; omega
  have HRS := Lib.hid hrs
  have HB1 := Lib.hid hb1
  have HIm := Lib.hid (fun W (hb : Below w1.heap.size w1 W) => implHput_any kd v ss W _ (hrs.below hb) hb.size hl hz)
  have HSp := Lib.hid (fun W (hb : Below w1.heap.size w1 W) => specHput_any kd v ss W _ (hrs.below hb) hb.size hl hz)
  clear hfew hrs hb1 HD hz
  go_wp2_with fail
  refine (HIm.out _ (Below.refl _ _)).mono ?_
  rintro e w2 ⟨rfl, hb2⟩
  have HB2 := Lib.hid hb2
  clear hb2
  obtain ⟨X, hX⟩ : ∃ X : ByteArray, X = ⟨(hputA kd ss).toArray⟩ := ⟨_, rfl⟩
  have HX := Lib.hid (show X.data.toList = hputA kd ss by rw [hX])
  rw [← hX]
  have hXS : ∀ W, Below w1.heap.size w1 W → Calls Try.prog 12 #[.int .i64 kd, v] W fun e w' => e = .returned (.string X) ∧ Below W.heap.size W w' := fun W hb => by rw [hX]; exact HSp.out W hb
  have HXS := Lib.hid hXS
  clear hX HSp HIm hXS
  cases hv : (kindB kd && decide (ss.length ≤ 4) && roomB ss) with
  | false =>
    have hX0 : X = ⟨#[]⟩ := mk_toList (HX.out.trans (hputA_no hv))
    subst hX0
    clear hv
    go_wp2_with fail
    refine (HXS.out _ HB2.out).mono ?_
    rintro e w3 ⟨rfl, hb3⟩
    have HB3 := Lib.hid (HB2.out.trans (hb3.mono HB2.out.size))
    clear hb3
    go_wp2_with fail
    refine (HXS.out _ HB3.out).mono ?_
    rintro e w4 ⟨rfl, hb4⟩
    have HB4 := Lib.hid (HB1.out.trans ((HB3.out.trans (hb4.mono HB3.out.size)).mono HB1.out.size))
    clear hb4
    go_wp2
    go_ret
    exact ⟨rfl, HB4.out⟩
  | true =>
    have hp : kindB kd = true ∧ ss.length ≤ 4 ∧ roomB ss = true := by
      simp only [Bool.and_eq_true, decide_eq_true_eq] at hv
      exact ⟨hv.1.1, hv.1.2, hv.2⟩
    obtain ⟨hk, hl4, hroom⟩ := hp
    have hXe : X.data.toList = framesL kd (bitsL ss) := by rw [HX.out]; unfold hputA; rw [if_pos hv]
    have hXl := framesL_len kd hk ss hroom
    have hXok : okB X.data.toList = true := by
      rw [hXe]; exact ok_of (frames_bits kd _) (by omega)
    have hX0 : 0 < X.size := by
      rw [← size_list, hXe]
      simp [framesL, flagL]
    have hXm : X.size ≤ maxLen := by rw [← size_list, hXe]; unfold maxLen; omega
    have hroom' : ∀ f ∈ bitsL ss, f.length ≤ 24 := by
      intro f hf
      obtain ⟨s, hs, rfl⟩ := List.mem_map.1 hf
      rw [size_list]
      unfold roomB at hroom
      rw [List.all_eq_true] at hroom
      simpa using hroom s hs
    have hfd : hfeed kd ⟨false, 0, []⟩ X.data.toList = (⟨true, 0, []⟩, evsOf ss) := by rw [hXe]; exact all_found hk _ hroom'
    have HFd := Lib.hid (fun W => feed_new kd X W _ hk hXok hfd)
    have HOk := Lib.hid (fun W => implOk_any X W hXm)
    rw [hXok] at HOk
    have hE := empty_of hX0
    have hz := zero_hdlc
    clear hv hk hl4 hroom hXe hXl hXok hXm hroom' hfd HX
    go_wp2_with fail
    refine (HXS.out _ HB2.out).mono ?_
    rintro e w3 ⟨rfl, hb3⟩
    have HB3 := Lib.hid (HB2.out.trans (hb3.mono HB2.out.size))
    clear hb3
    go_wp2_with fail
    refine (HOk.out _).mono ?_
    rintro e w' ⟨rfl, rfl⟩
    go_wp2_with fail
    refine (HFd.out _).mono ?_
    rintro e w4 ⟨⟨v4, rfl, hoe4⟩, hb4⟩
    have HB4 := Lib.hid (HB3.out.trans (hb4.mono HB3.out.size))
    have HO4 := Lib.hid (hoe4.alloc (.cells #[.bool true, .int .i64 0, .string ⟨#[]⟩] 29))
    have HN4 := Lib.hid (B3.new w4 (.bool true) (.int .i64 0) (.string ⟨#[]⟩))
    have HB5 := Lib.hid (HB4.out.alloc HB4.out.size (.cells #[.bool true, .int .i64 0, .string ⟨#[]⟩] 29))
    clear hb4 hoe4
    rw [hV]
    go_wp2_with fail
    refine (ctWhole_same v4 v ss _ _ _ _ (OE.reads HO4.out) (HRS.out.below HB5.out) (Nat.le_refl _) HB5.out.size (by omega)).mono ?_
    rintro e w5 ⟨rfl, hb5⟩
    have HB6 := Lib.hid (HB1.out.trans ((HB5.out.trans (hb5.mono HB5.out.size)).mono HB1.out.size))
    obtain ⟨c0, c1, c2⟩ := (HN4.out.below hb5).cells
    clear hb5
    have q2 := guard_hd
    have q3 := hd_eq 9998 true 0 ⟨#[]⟩
    have q4 := hd_eql true 0 ⟨#[]⟩
    go_wp2
    go_ret
    exact ⟨rfl, HB6.out⟩
theorem own : ownKnob Try.prog.godebug = none := by kernel_rfl
theorem laidOut : laidOutB Try.prog = true := by kernel_rfl
set_option maxRecDepth 100000 in
theorem lifted (os : Os) (started : os.Started) (H : Type) (enc : TypeId × Value → H) :
    ReturnsInHanded {} Try.checked os 3 .any (Rows.fnHdlcPutSpec.pre6 enc Try.prog Try.f3 Rows.fnHdlcPutRow.domain false) (Rows.fnHdlcPutSpec.post enc Try.prog Try.f3 false true false false) := by
  refine returnsInHanded_of_change (C := Try.checked) own started (by kernel_rfl) Try.func3
    (ChangeSpec.witness6 (enc := enc) (C := Try.checked) false ⟨#[], #[.slice none 0 0], []⟩ 8 (by kernel_rfl) (by kernel_rfl) (by kernel_rfl) (by kernel_rfl)) ?_
  intro W base args ds gs before hval0 hW hcnd _
  have hval : ∀ (j : Nat) t v, Try.f3.params[j]? = some t → args[j]? = some v → Value.okWide Try.prog W .any base t v := hval0
  have hW' := hW
  obtain ⟨p, q, hA0, hV, rfl, hfz, hnd⟩ := hW
  have hA : DataW.TrodAll enc Try.prog W 0 (fun _ => true) true Try.f3.params.toList args.toList ds p := hA0
  rw [Try.params3] at hA hval
  obtain ⟨v0, vs0, d0, ds0, p0, q0, hargs, rfl, rfl, h0, r0⟩ := trodAll_cons hA
  obtain ⟨rfl, rfl, rfl⟩ := trodAll_nil r0
  obtain rfl : args = #[v0] := by cases args; simp_all
  obtain ⟨rfl, rfl⟩ := trodVars_none hV
  obtain ⟨a0, len0, cap0, rfl⟩ := okWide_slice Try.underlying22 (hval 0 22 v0 rfl rfl)
  have k0 := h0
  have lt0 : ∀ x ∈ p0, x.block < W.heap.size := by obtain ⟨m, hm⟩ := k0; exact DataW.trod_lt m _ _ _ hm
  obtain ⟨z0, w0⟩ : ∃ zs, IsRow .u8 W a0 len0 cap0 zs := by
    obtain ⟨fuel, hf⟩ := h0
    rcases open_ints Try.underlying22 Try.underlying5 (by kernel_rfl) hf with ⟨hcs, _⟩ | ⟨x, l, c, zs, hcs, _, hl, hm, hz, _, hcell, hwz⟩
    · simp [Value.cells] at hcs
      obtain ⟨rfl, rfl, rfl⟩ := hcs
      exact ⟨[], .inl ⟨rfl, rfl, rfl, rfl⟩⟩
    · simp [Value.cells] at hcs
      obtain ⟨rfl, rfl, rfl⟩ := hcs
      exact ⟨zs, .inr ⟨_, rfl, hl, hm, by simpa using hz, hcell, hwz⟩⟩
  clear hA0 hval0
  refine (walk a0 len0 cap0 z0 W w0).mono fun e W' ⟨he, bel⟩ => ?_
  subst he
  exact ⟨_, rfl, _, _, _, [], _, [], hW', trodAll_mk1 (shut_bool Try.underlying4 _), (trodAll_cons_mk (Below.trod laidOut (by kernel_rfl) (of_decide_eq_true (by kernel_rfl)) k0 bel lt0) trodAll_mk0), rfl, bel.frame _, fun h => by cases h⟩
theorem over : Rows.fnHdlcPutRow.holds Try.pinned (OpenSpec.ofChange Rows.fnHdlcPutSpec) :=
  OpenClaim.holds_of_wide 3 Try.f3 rfl rfl rfl rfl rfl rfl rfl ⟨rfl, rfl, rfl, rfl, rfl⟩ rfl rfl rfl rfl rfl (by kernel_rfl) Try.func3 (by kernel_rfl)
    (of_decide_eq_true (by kernel_rfl)) (by unfold Func.isWrapper; first | (rw [if_pos (by decide +kernel)]; kernel_rfl) | (rw [if_neg (by decide +kernel)]; exact ⟨rfl, rfl⟩))
    (fun os started H enc _ => lifted os started H enc)
theorem proved : Rows.FnHdlcPutSaid := over
end Go.Proofs.Ytekhakapmpdnaaa.fnHdlcPut
