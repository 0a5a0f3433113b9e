/- FnSession: What was told of the first lines is told first: of every draw of lines, and every cut of them, the program tells what the model tells, and what it tells of the lines ahead of the cut stands at its beginning. For every input; the listed tables, errors and names of events are as start-up lays them (tied). No other condition. -/
import Derived.Test.YtcegpcggdcgjbaaGreatDoorKitA
import Derived.Test.YtcegpcggdcgjbaaGreatDoorCards
import Derived.Test.YtcegpcggdcgjbaaGreatDoorTie
import Derived.SevenTiedAt
import Derived.Test.YtcegpcggdcgjbaaGreatDoorSesE
import Derived.Test.YtcegpcggdcgjbaaGreatDoorSesI
import Derived.Test.YtcegpcggdcgjbaaGreatDoorSesJ
namespace Go.Proofs.YtcegpcggdcgjbaaGreatDoor.fnSession
open Go.ChangeShapes Go.WideShapes Go.ChangeAt Go.RowKit Go.WideElems
open Go.ChangeMaps (open_string shut_string)
set_option linter.unusedVariables false
theorem os_to {w : World} {base r n cap k : Nat} {ss : List ByteArray} (h : OS w base (.slice (some ⟨r, 0, none⟩) n cap) ss) (hn : n = ss.length) (hk : k ≤ ss.length) : OS w base (.slice (some ⟨r, 0, none⟩) (ss.take k).length cap) (ss.take k) := by
  have hl : (ss.take k).length = k := by rw [List.length_take]; omega
  rcases h.2 with ⟨e, _⟩ | ⟨g', cap', cur', e, hb, hg, hc, hm, hs, ht⟩
  · cases e
  · injection e with e1 e2 e3
    injection e1 with e1
    injection e1 with e1
    subst e1 e3
    refine ⟨by simp, .inr ⟨r, cap, cur', rfl, hb, hg, by rw [hl]; omega, hm, hs, ?_⟩⟩
    rw [hl, Nat.mul_one]
    rw [Nat.mul_one] at ht
    have := congrArg (List.take k) ht
    rw [List.take_take, Nat.min_eq_left hk, ← List.map_take] at this
    exact this
theorem toks_take (ss : List ByteArray) (k : Nat) : toks (ss.take k) = (toks ss).take k := List.map_take
set_option maxRecDepth 100000 in
set_option maxHeartbeats 1000000 in
theorem walk (a0 : Option Addr) (len0 cap0 : Nat) (z0 : List Int) (a1 : Option Addr) (len1 cap1 : Nat) (z1 : List Int) (w : World) (w0 : IsRow .u8 w a0 len0 cap0 z0) (w1 : IsRow .u8 w a1 len1 cap1 z1) (hd : SesIs w) :
    Calls Tryz.prog 3 #[.slice a0 len0 cap0, .slice a1 len1 cap1] w fun e w' => e = .returned (.bool true) ∧ Below w.heap.size w w' := by
  have HD := Lib.hid hd
  clear hd
  by_cases hbig0 : 1048576 < len0
  · go_enter Tryz.func3, Tryz.ntmps3
    go_wp2
    go_ret
    exact ⟨rfl, Below.refl _ _⟩
  by_cases hbig1 : 1048576 < len1
  · go_enter Tryz.func3, Tryz.ntmps3
    go_wp2
    go_ret
    exact ⟨rfl, Below.refl _ _⟩
  have HH := Lib.hid w0
  clear w0 w1
  go_enter Tryz.func3, Tryz.ntmps3
  go_wp2_with fail
  refine (drawSession_any a0 len0 cap0 z0 HH.out).mono ?_
  rintro e x1 ⟨r, cap, ss, rfl, ho1, hl1, hl20, hok, hb1⟩
  have HB1 := Lib.hid hb1
  have HO1 := Lib.hid ho1
  have HOK := Lib.hid hok
  have HS1 := Lib.hid (HD.out.from hb1)
  have hcap := ho1.cap_le
  clear ho1 hb1 hok
  obtain ⟨S, hS, hSd, hSs⟩ := text_of (sessS (toks ss)).2
  have HS := Lib.hid hS
  have HSd := Lib.hid hSd
  clear hS hSd hSs
  go_wp2_with fail
  refine (implSession_any ss r cap _ _ HS1.out HO1.out (by omega) HOK.out).mono ?_
  rintro e x2 ⟨rfl, hb2⟩
  rw [HS.out]
  have HO2 := Lib.hid (HO1.out.below hb2)
  have HB2 := Lib.hid (HB1.out.trans (hb2.mono HB1.out.size))
  have HS2 := Lib.hid (HS1.out.from hb2)
  clear hb2
  go_wp2_with fail
  refine (specSession_any ss r cap _ _ HO2.out (by omega) HOK.out).mono ?_
  rintro e x3 ⟨rfl, hb3⟩
  rw [HS.out]
  have HO3 := Lib.hid (HO2.out.below hb3)
  have HB3 := Lib.hid (HB2.out.trans (hb3.mono HB2.out.size))
  have HS3 := Lib.hid (HS2.out.from hb3)
  clear hb3
  obtain ⟨k, hk⟩ : ∃ k, k = len1 % (ss.length + 1) := ⟨_, rfl⟩
  have hkn : k ≤ ss.length := by have := Nat.mod_lt len1 (show 0 < ss.length + 1 by omega); omega
  have hk1 : (len1 : Int) % ((ss.length : Int) + 1) = (k : Int) := by rw [hk, Int.natCast_emod]; rfl
  have hk2 : (len1 : Int).tmod ((ss.length : Int) + 1) = (k : Int) := by rw [Int.tmod_eq_emod_of_nonneg (by omega)]; exact hk1
  clear hk
  have hkl : (ss.take k).length = k := by rw [List.length_take]; omega
  have HIM := Lib.hid (implSession_any (ss.take k) r cap x3 _ HS3.out (os_to HO3.out rfl hkn) (by omega) (fun t ht => HOK.out t (List.mem_of_mem_take ht)))
  rw [hkl] at HIM
  obtain ⟨T, hT, hTd, hTs⟩ := text_of (sessS (toks (ss.take k))).2
  have HT := Lib.hid hT
  obtain ⟨q, hq⟩ := sessS_pre (toks ss) k
  have hST : S.data.toList = T.data.toList ++ q := by rw [HSd.out, hTd, toks_take]; exact hq
  have hle : T.size ≤ S.size := by rw [← size_list, ← size_list, hST, List.length_append]; omega
  have hsl : ∀ u : World, (Instr.slice 9 (.string S) none (some (.int .i64 (T.size : Int))) none).run Tryz.prog u = .ok (.string T) u := fun u => by
    rw [run_slice_string_to_if u 9 S .i64 (T.size : Int) Tryz.underlying9]
    have e : S.extract 0 T.size = T := by
      rw [← Lib.mk_data (S.extract 0 T.size), ← Lib.mk_data T]
      congr 2
      rw [Lib.extract_data, List.drop_zero, Nat.sub_zero, hST, ← size_list T, List.take_left]
    simp [hle, e]
  clear hkl hT hTd hTs hq hST
  go_wp2_with fail
  refine HIM.out.mono ?_
  rintro e x4 ⟨rfl, hb4⟩
  rw [HT.out]
  have HB4 := Lib.hid (HB3.out.trans (hb4.mono HB3.out.size))
  clear hb4
  go_wp2
  go_ret
  exact ⟨rfl, HB4.out⟩
theorem own : ownKnob Tryz.prog.godebug = none := by kernel_rfl
theorem laidOut : laidOutB Tryz.prog = true := by kernel_rfl
theorem varsOk : varsRowed Tryz.prog ["loop.example/cotterpin/impl.eventNames"] = true := by kernel_rfl
set_option maxRecDepth 100000 in
theorem lifted (os : Os) (started : os.Started) (H : Type) (enc : TypeId × Value → H) :
    ReturnsInHanded {} Tryz.checked os 3 .any (fun w args => (Rows.fnSessionSpec.pre enc Tryz.prog Tryz.f3 Rows.fnSessionRow.domain false w args ∧ laidMetH Tryz.prog laidSes w) ∧ sizedMet enc Tryz.prog Tryz.f3 (OpenSpec.ofChange Rows.fnSessionSpec) false w args) (Rows.fnSessionSpec.post enc Tryz.prog Tryz.f3 false true false false) := by
  refine returnsInHanded_of_change_and (C := Tryz.checked) (X := fun w _ => laidMetH Tryz.prog laidSes w) (fun _ _ _ hh h => h.of_heap hh) own started (by kernel_rfl) Tryz.func3
    (ChangeSpec.witness_shaped (enc := enc) (C := Tryz.checked) (os := os) (X := fun w _ => laidMetH Tryz.prog laidSes w) false (World.laidAll Tryz.prog os laidSes) #[.slice none 0 0, .slice none 0 0] 8 (World.laidAll_os _ _ _) (World.shaped_of_ZipB (by kernel_rfl) (by kernel_rfl)) (by kernel_rfl) (by kernel_rfl) (by kernel_rfl) (door_met os _)) ?_
  intro W base args ds gs before hval0 hW hcnd _ hL _
  have hval : ∀ (j : Nat) t v, Tryz.f3.params[j]? = some t → args[j]? = some v → Value.okWide Tryz.prog W .any base t v := hval0
  have hW' := hW
  obtain ⟨p, q, hA0, hV, rfl, hfz, hnd⟩ := hW
  have hA : DataW.TrodAll enc Tryz.prog W 0 (fun _ => true) true Tryz.f3.params.toList args.toList ds p := hA0
  rw [Tryz.params3] at hA hval
  obtain ⟨v0, vs0, d0, ds0, p0, q0, hargs, rfl, rfl, h0, r0⟩ := trodAll_cons hA
  obtain ⟨v1, vs1, d1, ds1, p1, q1, rfl, rfl, rfl, h1, r1⟩ := trodAll_cons r0
  obtain ⟨rfl, rfl, rfl⟩ := trodAll_nil r1
  obtain rfl : args = #[v0, v1] := by cases args; simp_all
  obtain ⟨a0, len0, cap0, rfl⟩ := okWide_slice Tryz.underlying22 (hval 0 22 v0 rfl rfl)
  have k0 := h0
  have lt0 : ∀ x ∈ p0, x.block < W.heap.size := by obtain ⟨m, hm⟩ := k0; exact DataW.trod_lt m _ _ _ hm
  obtain ⟨z0, w0⟩ : ∃ zs, IsRow .u8 W a0 len0 cap0 zs := by
    obtain ⟨fuel, hf⟩ := h0
    rcases open_ints Tryz.underlying22 Tryz.underlying5 (by kernel_rfl) hf with ⟨hcs, _⟩ | ⟨x, l, c, zs, hcs, _, hl, hm, hz, _, hcell, hwz⟩
    · simp [Value.cells] at hcs
      obtain ⟨rfl, rfl, rfl⟩ := hcs
      exact ⟨[], .inl ⟨rfl, rfl, rfl, rfl⟩⟩
    · simp [Value.cells] at hcs
      obtain ⟨rfl, rfl, rfl⟩ := hcs
      exact ⟨zs, .inr ⟨_, rfl, hl, hm, by simpa using hz, hcell, hwz⟩⟩
  obtain ⟨a1, len1, cap1, rfl⟩ := okWide_slice Tryz.underlying22 (hval 1 22 v1 rfl rfl)
  have k1 := h1
  have lt1 : ∀ x ∈ p1, x.block < W.heap.size := by obtain ⟨m, hm⟩ := k1; exact DataW.trod_lt m _ _ _ hm
  obtain ⟨z1, w1⟩ : ∃ zs, IsRow .u8 W a1 len1 cap1 zs := by
    obtain ⟨fuel, hf⟩ := h1
    rcases open_ints Tryz.underlying22 Tryz.underlying5 (by kernel_rfl) hf with ⟨hcs, _⟩ | ⟨x, l, c, zs, hcs, _, hl, hm, hz, _, hcell, hwz⟩
    · simp [Value.cells] at hcs
      obtain ⟨rfl, rfl, rfl⟩ := hcs
      exact ⟨[], .inl ⟨rfl, rfl, rfl, rfl⟩⟩
    · simp [Value.cells] at hcs
      obtain ⟨rfl, rfl, rfl⟩ := hcs
      exact ⟨zs, .inr ⟨_, rfl, hl, hm, by simpa using hz, hcell, hwz⟩⟩
  have hV2 := hV
  obtain ⟨_, _, _, _, g1, _, rfl, _⟩ := trodVars_one hV
  clear hA0 hval0
  refine (walk a0 len0 cap0 z0 a1 len1 cap1 z1 W w0 w1 (ses_gives hL)).mono fun e W' ⟨he, bel⟩ => ?_
  subst he
  exact ⟨_, rfl, _, _, _, [], _, _, hW', trodAll_mk1 (shut_bool Tryz.underlying4 _), (trodAll_cons_mk (Below.trod laidOut (by kernel_rfl) (of_decide_eq_true (by kernel_rfl)) k0 bel lt0) (trodAll_cons_mk (Below.trod laidOut (by kernel_rfl) (of_decide_eq_true (by kernel_rfl)) k1 bel lt1) trodAll_mk0)), Below.trodVars laidOut bel varsOk hV2, bel.frame _, fun h => by cases h⟩
theorem over : Rows.fnSessionRow.holds Tryz.pinned (OpenSpec.ofChange Rows.fnSessionSpec) :=
  OpenClaim.holds_of_wide 3 Tryz.f3 rfl rfl rfl rfl rfl rfl rfl ⟨rfl, rfl, rfl, rfl, rfl⟩ rfl rfl rfl rfl rfl (by kernel_rfl) Tryz.func3 (by kernel_rfl)
    (of_decide_eq_true (by kernel_rfl)) (by unfold Func.isWrapper; first | (rw [if_pos (by decide +kernel)]; kernel_rfl) | (rw [if_neg (by decide +kernel)]; exact ⟨rfl, rfl⟩))
    (fun os started H enc _ => lifted os started H enc)
theorem rowProved : Rows.FnSessionSaid := over
theorem proved : Rows.FnSessionCardSaid :=
  Claim7.holds_tied_plain_at .later [] [.data, .data, .data, .data, .sentinel, .sentinel, .data, .pinned] true (true, "2914f295d644a3e83aacc0a028aa2550eebbeb1127d283d77db4f9248c873dd6") true
    rowProved (fun _ h => by cases h) (by kernel_rfl) (fun _ h => by cases h) fnSession_row_tie rfl ⟨rfl, rfl⟩ (by kernel_rfl) rfl
    (fun f fn hf hfn => by
      obtain rfl : f = 3 := Option.some.inj ((show Tryz.prog.funcNamed "loop.example/cotterpin/laws.FnSession" = some 3 by kernel_rfl).symm.trans hf) |>.symm
      obtain rfl : fn = Tryz.f3 := (Option.some.inj (Tryz.func3.symm.trans hfn)).symm
      exact ⟨by kernel_rfl, fun j t ht => by
        rw [Tryz.params3] at ht
        have hm : t ∈ [22, 22] := by simpa using Array.mem_of_getElem? ht
        have hall : ([22, 22].all fun u => !Tryz.prog.wantsStandIn u) = true := by kernel_rfl
        exact (show Tryz.prog.wantsStandIn t = false by simpa using List.all_eq_true.1 hall t hm)⟩)
    (by kernel_rfl)
end Go.Proofs.YtcegpcggdcgjbaaGreatDoor.fnSession
