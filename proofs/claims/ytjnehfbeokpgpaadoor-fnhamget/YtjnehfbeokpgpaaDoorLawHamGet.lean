/- FnHamGet: What is read is near what was read from. For every input; the places of the data are as start-up lays them (tied). No other condition. -/
import Derived.Test.YtjnehfbeokpgpaaDoorKitA
import Derived.Test.YtjnehfbeokpgpaaDoorCards
import Derived.Test.YtjnehfbeokpgpaaDoorTie
import Derived.SevenTiedAt
import Derived.Test.YtjnehfbeokpgpaaDoorFar
import Derived.Test.YtjnehfbeokpgpaaDoorHamL
import Derived.Test.YtjnehfbeokpgpaaDoorDrawHg
namespace Go.Proofs.YtjnehfbeokpgpaaDoor.fnHamGet
open Go.ChangeShapes Go.WideShapes Go.ChangeAt Go.RowKit Go.WideElems
open Go.ChangeMaps (open_string shut_string)
set_option linter.unusedVariables false
set_option maxRecDepth 100000 in
set_option maxHeartbeats 8000000 in
theorem walk (a0 : Option Addr) (len0 cap0 : Nat) (z0 : List Int) (w : World) (w0 : IsRow .u8 w a0 len0 cap0 z0) (hd : DP w) :
    Calls Tryd.prog 4 #[.slice a0 len0 cap0] w fun e w' => e = .returned (.bool true) ∧ Below w.heap.size w w' := by
  have HD := Lib.hid hd
  clear hd
  by_cases hbig0 : 1048576 < len0
  · go_enter Tryd.func4, Tryd.ntmps4
    go_wp2
    go_ret
    exact ⟨rfl, Below.refl _ _⟩
  have HH := Lib.hid w0
  clear w0
  go_enter Tryd.func4, Tryd.ntmps4
  go_wp2_with fail
  refine (drawHamGet_any a0 len0 cap0 z0 HH.out).mono ?_
  rintro e w1 ⟨s, rfl, hs, hb1⟩
  have HB1 := Lib.hid hb1
  clear hb1
  have hmax : s.size ≤ maxLen := by unfold maxLen; omega
  cases hk : getOk7 s.data.toList with
  | false =>
    have HK := Lib.hid hk
    clear hk
    go_wp2_with fail
    refine (implHamGet_no s _ hmax HK.out).mono ?_
    rintro e w' ⟨rfl, rfl⟩
    go_wp2_with fail
    refine (specHamGet_no s _ hmax HK.out).mono ?_
    rintro e w' ⟨rfl, rfl⟩
    go_wp2
    go_ret
    exact ⟨rfl, HB1.out⟩
  | true =>
    have HK := Lib.hid hk
    obtain ⟨hok, h7⟩ := getOk7_parts hk
    have hsz := ok_size hok
    have h7l : s.data.toList.length % 7 = 0 := by rw [size_list]; exact h7
    have hbits := (okB_iff.1 hok).1
    obtain ⟨hn, hub⟩ := ham_near _ h7l hbits
    obtain ⟨hul, hu2⟩ := unhamL_len _ h7l
    rw [size_list] at hul hu2
    obtain ⟨U, hU⟩ : ∃ U : ByteArray, U = ⟨(unhamL s.data.toList).1.toArray⟩ := ⟨_, rfl⟩
    have hUl : U.data.toList = (unhamL s.data.toList).1 := by rw [hU]
    have hUs : U.size = s.size / 7 * 4 := by rw [← size_list, hUl, hul]
    obtain ⟨M, hM⟩ : ∃ M, (unhamL s.data.toList).2 = M := ⟨_, rfl⟩
    have HU := Lib.hid hU
    have HM := Lib.hid hM
    have HOH : Hid (U.size ≤ 600 → hamOkB U.data.toList = true) := Lib.hid (fun h => by
      unfold hamOkB
      rw [okB_iff.2 ⟨by rw [hUl]; exact hub, by rw [size_list]; omega⟩, size_list, decide_eq_true h, decide_eq_true (by omega)]; rfl)
    obtain ⟨Z, hZ⟩ : ∃ Z : ByteArray, Z = ⟨(hamL U.data.toList).toArray⟩ := ⟨_, rfl⟩
    have hZl : Z.data.toList = hamL U.data.toList := by rw [hZ]
    have hU4 : U.data.toList.length % 4 = 0 := by rw [size_list]; omega
    have HF := Lib.hid (show farOkB Z.data.toList s.data.toList = true by
      unfold farOkB
      rw [hok, hZl, okB_iff.2 ⟨hamL_bits _ hU4 (by rw [hUl]; exact hub), by rw [hamL_len _ hU4, size_list]; omega⟩, hamL_len _ hU4, size_list, size_list, decide_eq_true (by omega)]; rfl)
    have HN := Lib.hid (show farN Z.data.toList s.data.toList = M by rw [hZl, hUl, hn, hM])
    have HZ := Lib.hid hZ
    have HUS := Lib.hid hUs
    have hUi : (U.size : Int) = (s.size : Int) / 7 * 4 := by omega
    have hMs : M ≤ 1200 := by omega
    have hq : ((U.size : Int) == (s.size : Int) / 7 * 4) = true := by rw [beq_iff_eq]; exact hUi
    clear hk hok h7 h7l hbits hn hub hul hu2 hU hUl hUs hM hZ hZl hU4 hUi
    go_wp2_with fail
    refine (implHamGet_yes s _ HK.out (HD.out.from HB1.out)).mono ?_
    rintro e w2 ⟨rfl, hb2⟩
    have HB2 := Lib.hid (HB1.out.trans (hb2.mono HB1.out.size))
    clear hb2
    rw [← HU.out, HM.out]
    go_wp2_with fail
    refine (specHamGet_yes s _ HK.out).mono ?_
    rintro e w3 ⟨rfl, hb3⟩
    have HB3 := Lib.hid (HB2.out.trans (hb3.mono HB2.out.size))
    clear hb3
    rw [← HU.out, HM.out]
    by_cases h0 : s.size = 0
    · obtain rfl : s = ⟨#[]⟩ := by
        rw [← Lib.mk_data s, List.eq_nil_of_length_eq_zero ((size_list s).trans h0)]
      clear h0
      go_wp2
      go_ret
      exact ⟨by simp, HB3.out⟩
    · have h1 : s.toList ≠ [] := by
        rw [Lib.toList_data]; intro h
        have := size_list s
        rw [h] at this
        exact h0 this.symm
      have h2 : s.toList.isEmpty = false := by cases hh : s.toList with | nil => exact absurd hh h1 | cons x l => rfl
      by_cases hbg : 600 < U.size
      · have hbgi : (600 : Int) < (U.size : Int) := by omega
        clear h0
        go_wp2
        go_ret
        exact ⟨by simp, HB3.out⟩
      · have hbgi : ¬ (600 : Int) < (U.size : Int) := by omega
        have hU6 : U.size ≤ 600 := by omega
        clear h0 hbg
        go_wp2_with fail
        refine (implHam_yes U _ (HOH.out hU6) (HD.out.from HB3.out)).mono ?_
        rintro e w4 ⟨rfl, hb4⟩
        have HB4 := Lib.hid (HB3.out.trans (hb4.mono HB3.out.size))
        clear hb4
        rw [← HZ.out]
        go_wp2_with fail
        refine (implFar_yes Z s _ HF.out).mono ?_
        rintro e w5 ⟨rfl, hb5⟩
        have HB5 := Lib.hid (HB4.out.trans (hb5.mono HB4.out.size))
        clear hb5
        rw [HN.out]
        go_wp2
        go_ret
        exact ⟨by simp, HB5.out⟩
theorem own : ownKnob Tryd.prog.godebug = none := by kernel_rfl
theorem laidOut : laidOutB Tryd.prog = true := by kernel_rfl
theorem varsOk : varsRowed Tryd.prog ["loop.example/cotterpin/impl.dataPlaces"] = true := by kernel_rfl
set_option maxRecDepth 100000 in
theorem lifted (os : Os) (started : os.Started) (H : Type) (enc : TypeId × Value → H) :
    ReturnsInHanded {} Tryd.checked os 4 .any (fun w args => (Rows.fnHamGetSpec.pre enc Tryd.prog Tryd.f4 Rows.fnHamGetRow.domain false w args ∧ laidMetH Tryd.prog laidHam w) ∧ sizedMet enc Tryd.prog Tryd.f4 (OpenSpec.ofChange Rows.fnHamGetSpec) false w args) (Rows.fnHamGetSpec.post enc Tryd.prog Tryd.f4 false true false false) := by
  refine returnsInHanded_of_change_and (C := Tryd.checked) (X := fun w _ => laidMetH Tryd.prog laidHam w) (fun _ _ _ hh h => h.of_heap hh) own started (by kernel_rfl) Tryd.func4
    (ChangeSpec.witness_shaped (enc := enc) (C := Tryd.checked) (os := os) (X := fun w _ => laidMetH Tryd.prog laidHam w) false (World.doorLaid Tryd.prog 400 os) #[.slice none 0 0] 8 rfl (World.shaped_of_RefB (by kernel_rfl) (by kernel_rfl)) (by kernel_rfl) (by kernel_rfl) (by kernel_rfl) (door_met os _)) ?_
  intro W base args ds gs before hval0 hW hcnd _ hL _
  have hval : ∀ (j : Nat) t v, Tryd.f4.params[j]? = some t → args[j]? = some v → Value.okWide Tryd.prog W .any base t v := hval0
  have hW' := hW
  obtain ⟨p, q, hA0, hV, rfl, hfz, hnd⟩ := hW
  have hA : DataW.TrodAll enc Tryd.prog W 0 (fun _ => true) true Tryd.f4.params.toList args.toList ds p := hA0
  rw [Tryd.params4] at hA hval
  obtain ⟨v0, vs0, d0, ds0, p0, q0, hargs, rfl, rfl, h0, r0⟩ := trodAll_cons hA
  obtain ⟨rfl, rfl, rfl⟩ := trodAll_nil r0
  obtain rfl : args = #[v0] := by cases args; simp_all
  obtain ⟨a0, len0, cap0, rfl⟩ := okWide_slice Tryd.underlying22 (hval 0 22 v0 rfl rfl)
  have k0 := h0
  have lt0 : ∀ x ∈ p0, x.block < W.heap.size := by obtain ⟨m, hm⟩ := k0; exact DataW.trod_lt m _ _ _ hm
  obtain ⟨z0, w0⟩ : ∃ zs, IsRow .u8 W a0 len0 cap0 zs := by
    obtain ⟨fuel, hf⟩ := h0
    rcases open_ints Tryd.underlying22 Tryd.underlying5 (by kernel_rfl) hf with ⟨hcs, _⟩ | ⟨x, l, c, zs, hcs, _, hl, hm, hz, _, hcell, hwz⟩
    · simp [Value.cells] at hcs
      obtain ⟨rfl, rfl, rfl⟩ := hcs
      exact ⟨[], .inl ⟨rfl, rfl, rfl, rfl⟩⟩
    · simp [Value.cells] at hcs
      obtain ⟨rfl, rfl, rfl⟩ := hcs
      exact ⟨zs, .inr ⟨_, rfl, hl, hm, by simpa using hz, hcell, hwz⟩⟩
  have hV2 := hV
  obtain ⟨_, _, _, _, g1, _, rfl, _⟩ := trodVars_one hV
  clear hA0 hval0
  refine (walk a0 len0 cap0 z0 W w0 (laid_gives hL)).mono fun e W' ⟨he, bel⟩ => ?_
  subst he
  exact ⟨_, rfl, _, _, _, [], _, _, hW', trodAll_mk1 (shut_bool Tryd.underlying4 _), (trodAll_cons_mk (Below.trod laidOut (by kernel_rfl) (of_decide_eq_true (by kernel_rfl)) k0 bel lt0) trodAll_mk0), Below.trodVars laidOut bel varsOk hV2, bel.frame _, fun h => by cases h⟩
theorem over : Rows.fnHamGetRow.holds Tryd.pinned (OpenSpec.ofChange Rows.fnHamGetSpec) :=
  OpenClaim.holds_of_wide 4 Tryd.f4 rfl rfl rfl rfl rfl rfl rfl ⟨rfl, rfl, rfl, rfl, rfl⟩ rfl rfl rfl rfl rfl (by kernel_rfl) Tryd.func4 (by kernel_rfl)
    (of_decide_eq_true (by kernel_rfl)) (by unfold Func.isWrapper; first | (rw [if_pos (by decide +kernel)]; kernel_rfl) | (rw [if_neg (by decide +kernel)]; exact ⟨rfl, rfl⟩))
    (fun os started H enc _ => lifted os started H enc)
theorem rowProved : Rows.FnHamGetSaid := over
theorem proved : Rows.FnHamGetCardSaid :=
  Claim7.holds_tied_plain_at .later [] [.data] true (true, "06b2c8f9a575171d32cfbc770e383585cc37b8541dfa12e20b01e4e714535db9") false
    rowProved (fun _ h => by cases h) (by kernel_rfl) (fun _ h => by cases h) fnHamGet_row_tie rfl ⟨rfl, rfl⟩ (by kernel_rfl) rfl
    (fun f fn hf hfn => by
      obtain rfl : f = 4 := Option.some.inj ((show Tryd.prog.funcNamed "loop.example/cotterpin/laws.FnHamGet" = some 4 by kernel_rfl).symm.trans hf) |>.symm
      obtain rfl : fn = Tryd.f4 := (Option.some.inj (Tryd.func4.symm.trans hfn)).symm
      exact ⟨by kernel_rfl, fun j t ht => by
        rw [Tryd.params4] at ht
        have hm : t ∈ [22] := by simpa using Array.mem_of_getElem? ht
        have hall : ([22].all fun u => !Tryd.prog.wantsStandIn u) = true := by kernel_rfl
        exact (show Tryd.prog.wantsStandIn t = false by simpa using List.all_eq_true.1 hall t hm)⟩)
    (by kernel_rfl)
end Go.Proofs.YtjnehfbeokpgpaaDoor.fnHamGet
