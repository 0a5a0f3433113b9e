/- FnHamBlocks: Two blocks that are not the same are three apart. For every input; the places of the data are as start-up lays them (tied). No other condition. -/
import Derived.Test.YtjnehfbeokpgpaaDoorKitA
import Derived.Test.YtjnehfbeokpgpaaDoorCards
import Derived.Test.YtjnehfbeokpgpaaDoorTie
import Derived.SevenTiedAt
import Derived.Test.YtjnehfbeokpgpaaDoorFar
import Derived.Test.YtjnehfbeokpgpaaDoorHamL
import Derived.Test.YtjnehfbeokpgpaaDoorDrawHg
namespace Go.Proofs.YtjnehfbeokpgpaaDoor.fnHamBlocks
open Go.ChangeShapes Go.WideShapes Go.ChangeAt Go.RowKit Go.WideElems
open Go.ChangeMaps (open_string shut_string)
set_option linter.unusedVariables false
set_option maxRecDepth 100000 in
set_option maxHeartbeats 8000000 in
theorem walk (a0 : Option Addr) (len0 cap0 : Nat) (z0 : List Int) (a1 : Option Addr) (len1 cap1 : Nat) (z1 : List Int) (w : World) (w0 : IsRow .u8 w a0 len0 cap0 z0) (w1 : IsRow .u8 w a1 len1 cap1 z1) (hd : DP w) :
    Calls Tryd.prog 5 #[.slice a0 len0 cap0, .slice a1 len1 cap1] w fun e w' => e = .returned (.bool true) ∧ Below w.heap.size w w' := by
  have HD := Lib.hid hd
  clear hd
  by_cases hbig0 : 1048576 < len0
  · go_enter Tryd.func5, Tryd.ntmps5
    go_wp2
    go_ret
    exact ⟨rfl, Below.refl _ _⟩
  by_cases hbig1 : 1048576 < len1
  · go_enter Tryd.func5, Tryd.ntmps5
    go_wp2
    go_ret
    exact ⟨rfl, Below.refl _ _⟩
  have HH := Lib.hid w0
  clear w0 w1
  go_enter Tryd.func5, Tryd.ntmps5
  go_wp2_with fail
  refine (drawHamPut_any a0 len0 cap0 z0 HH.out).mono ?_
  rintro e w1 ⟨s, rfl, hs, hb1⟩
  have HB1 := Lib.hid hb1
  clear hb1
  have hmax : s.size ≤ maxLen := by unfold maxLen; omega
  go_wp2_with fail
  refine (implHam_any _ _ hmax (HD.out.from HB1.out)).mono ?_
  rintro e w2 ⟨rfl, hb2⟩
  have HB2 := Lib.hid (HB1.out.trans (hb2.mono HB1.out.size))
  clear hb2
  obtain ⟨X, hX⟩ : ∃ X : ByteArray, X = ⟨(hamPutL s.data.toList).toArray⟩ := ⟨_, rfl⟩
  have hXL : X.data.toList = hamPutL s.data.toList := by rw [hX]
  have HX := Lib.hid hX
  rw [← hX]
  clear hX
  go_wp2_with fail
  refine (specHam_any _ _ hmax).mono ?_
  rintro e w3 ⟨rfl, hb3⟩
  have HB3 := Lib.hid (HB2.out.trans (hb3.mono HB2.out.size))
  clear hb3
  rw [← HX.out]
  by_cases hk : hamOkB s.data.toList = true ∧ s.size ≠ 0
  · obtain ⟨hk1, hk2⟩ := hk
    obtain ⟨hok, hsz, hs4⟩ := hamOk_parts hk1
    rw [hamPutL_yes hk1] at hXL
    have h4l : s.data.toList.length % 4 = 0 := by rw [size_list]; exact hs4
    have hbits := (okB_iff.1 hok).1
    have hXs : X.size = s.size / 4 * 7 := by rw [← size_list, hXL, hamL_len _ h4l, size_list]
    have hXok : okB X.data.toList = true := by
      rw [okB_iff]
      exact ⟨by rw [hXL]; exact hamL_bits _ h4l hbits, by rw [size_list]; omega⟩
    obtain ⟨k, hkk, hks⟩ : ∃ k : Nat, (len1 : Int) % (s.size : Int) = (k : Int) ∧ k < s.size := ⟨len1 % s.size, by omega, Nat.mod_lt _ (by omega)⟩
    have HE := Lib.hid hkk
    obtain ⟨O, hO⟩ : ∃ O : ByteArray, O = ⟨(turnL s.data.toList k).toArray⟩ := ⟨_, rfl⟩
    have hOl : O.data.toList = turnL s.data.toList k := by rw [hO]
    have hO4 : O.data.toList.length % 4 = 0 := by rw [hOl, turnL_len]; exact h4l
    have hOok : okB O.data.toList = true := by rw [hOl]; exact turnL_ok hok k
    have hOs : O.size = s.size := by rw [← size_list, hOl, turnL_len, size_list]
    have HOH := Lib.hid (show hamOkB O.data.toList = true by
      unfold hamOkB
      rw [hOok, decide_eq_true hO4, size_list, decide_eq_true (by omega)]; rfl)
    obtain ⟨Z, hZ⟩ : ∃ Z : ByteArray, Z = ⟨(hamL O.data.toList).toArray⟩ := ⟨_, rfl⟩
    have hZl : Z.data.toList = hamL O.data.toList := by rw [hZ]
    have HF := Lib.hid (show farOkB Z.data.toList X.data.toList = true by
      unfold farOkB
      rw [hXok, hZl, okB_iff.2 ⟨hamL_bits _ hO4 (okB_iff.1 hOok).1, by rw [hamL_len _ hO4, size_list]; omega⟩, hamL_len _ hO4, size_list, size_list, decide_eq_true (by omega)]; rfl)
    have HN := Lib.hid (show farN Z.data.toList X.data.toList = 3 ∨ farN Z.data.toList X.data.toList = 4 by
      rw [hZl, hXL, hOl]; exact ham_apart _ h4l hbits k (by rw [size_list]; exact hks))
    have h1 : X.toList ≠ [] := by
      rw [Lib.toList_data]; intro h
      have := size_list X
      rw [h] at this
      simp at this; omega
    have h2 : X.toList.isEmpty = false := by cases hh : X.toList with | nil => exact absurd hh h1 | cons x l => rfl
    have HOK := Lib.hid hok
    have HO := Lib.hid hO
    have HZ := Lib.hid hZ
    have hs0 : (s.size : Int) ≠ 0 := by omega
    have hs1 : (0 : Int) < (s.size : Int) := by omega
    have hs2 : ((s.size : Int) == 0) = false := beq_eq_false_iff_ne.2 hs0
    clear hk1 hk2 hok hXL hXs hXok hbits h4l hs4 hkk hO hOl hO4 hOok hOs hZ hZl
    go_wp2_with fail
    rw [HE.out]
    refine (implTurn_yes s k _ HOK.out hks).mono ?_
    rintro e w4 ⟨rfl, hb4⟩
    have HB4 := Lib.hid (HB3.out.trans (hb4.mono HB3.out.size))
    clear hb4
    rw [← HO.out]
    go_wp2_with fail
    refine (implHam_yes O _ HOH.out (HD.out.from HB4.out)).mono ?_
    rintro e w5 ⟨rfl, hb5⟩
    have HB5 := Lib.hid (HB4.out.trans (hb5.mono HB4.out.size))
    clear hb5
    rw [← HZ.out]
    go_wp2_with fail
    refine (implFar_yes Z X _ HF.out).mono ?_
    rintro e w6 ⟨rfl, hb6⟩
    have HB6 := Lib.hid (HB5.out.trans (hb6.mono HB5.out.size))
    clear hb6
    rcases HN.out with h | h
    all_goals
      rw [h]
      clear h
      go_wp2
      go_ret
      exact ⟨rfl, HB6.out⟩
  · have h0 : X = ⟨#[]⟩ := by
      have : X.data.toList = [] := by
        rw [hXL]
        cases hm : hamOkB s.data.toList with
        | false => exact hamPutL_no hm
        | true =>
          have hz : s.size = 0 := by
            rcases Nat.eq_zero_or_pos s.size with h | h
            · exact h
            · exact absurd ⟨hm, by omega⟩ hk
          rw [hamPutL_yes hm, List.eq_nil_of_length_eq_zero ((size_list s).trans hz)]; rfl
      rw [← Lib.mk_data X, this]
    subst h0
    clear hXL hk
    go_wp2_with fail
    refine (specHam_any _ _ hmax).mono ?_
    rintro e w4 ⟨rfl, hb4⟩
    have HB4 := Lib.hid (HB3.out.trans (hb4.mono HB3.out.size))
    clear hb4
    rw [← HX.out]
    go_wp2
    go_ret
    exact ⟨rfl, HB4.out⟩
theorem own : ownKnob Tryd.prog.godebug = none := by kernel_rfl
theorem laidOut : laidOutB Tryd.prog = true := by kernel_rfl
theorem varsOk : varsRowed Tryd.prog ["loop.example/cotterpin/impl.dataPlaces"] = true := by kernel_rfl
set_option maxRecDepth 100000 in
theorem lifted (os : Os) (started : os.Started) (H : Type) (enc : TypeId × Value → H) :
    ReturnsInHanded {} Tryd.checked os 5 .any (fun w args => (Rows.fnHamBlocksSpec.pre enc Tryd.prog Tryd.f5 Rows.fnHamBlocksRow.domain false w args ∧ laidMetH Tryd.prog laidHam w) ∧ sizedMet enc Tryd.prog Tryd.f5 (OpenSpec.ofChange Rows.fnHamBlocksSpec) false w args) (Rows.fnHamBlocksSpec.post enc Tryd.prog Tryd.f5 false true false false) := by
  refine returnsInHanded_of_change_and (C := Tryd.checked) (X := fun w _ => laidMetH Tryd.prog laidHam w) (fun _ _ _ hh h => h.of_heap hh) own started (by kernel_rfl) Tryd.func5
    (ChangeSpec.witness_shaped (enc := enc) (C := Tryd.checked) (os := os) (X := fun w _ => laidMetH Tryd.prog laidHam w) false (World.doorLaid Tryd.prog 400 os) #[.slice none 0 0, .slice none 0 0] 8 rfl (World.shaped_of_RefB (by kernel_rfl) (by kernel_rfl)) (by kernel_rfl) (by kernel_rfl) (by kernel_rfl) (door_met os _)) ?_
  intro W base args ds gs before hval0 hW hcnd _ hL _
  have hval : ∀ (j : Nat) t v, Tryd.f5.params[j]? = some t → args[j]? = some v → Value.okWide Tryd.prog W .any base t v := hval0
  have hW' := hW
  obtain ⟨p, q, hA0, hV, rfl, hfz, hnd⟩ := hW
  have hA : DataW.TrodAll enc Tryd.prog W 0 (fun _ => true) true Tryd.f5.params.toList args.toList ds p := hA0
  rw [Tryd.params5] at hA hval
  obtain ⟨v0, vs0, d0, ds0, p0, q0, hargs, rfl, rfl, h0, r0⟩ := trodAll_cons hA
  obtain ⟨v1, vs1, d1, ds1, p1, q1, rfl, rfl, rfl, h1, r1⟩ := trodAll_cons r0
  obtain ⟨rfl, rfl, rfl⟩ := trodAll_nil r1
  obtain rfl : args = #[v0, v1] := by cases args; simp_all
  obtain ⟨a0, len0, cap0, rfl⟩ := okWide_slice Tryd.underlying22 (hval 0 22 v0 rfl rfl)
  have k0 := h0
  have lt0 : ∀ x ∈ p0, x.block < W.heap.size := by obtain ⟨m, hm⟩ := k0; exact DataW.trod_lt m _ _ _ hm
  obtain ⟨z0, w0⟩ : ∃ zs, IsRow .u8 W a0 len0 cap0 zs := by
    obtain ⟨fuel, hf⟩ := h0
    rcases open_ints Tryd.underlying22 Tryd.underlying5 (by kernel_rfl) hf with ⟨hcs, _⟩ | ⟨x, l, c, zs, hcs, _, hl, hm, hz, _, hcell, hwz⟩
    · simp [Value.cells] at hcs
      obtain ⟨rfl, rfl, rfl⟩ := hcs
      exact ⟨[], .inl ⟨rfl, rfl, rfl, rfl⟩⟩
    · simp [Value.cells] at hcs
      obtain ⟨rfl, rfl, rfl⟩ := hcs
      exact ⟨zs, .inr ⟨_, rfl, hl, hm, by simpa using hz, hcell, hwz⟩⟩
  obtain ⟨a1, len1, cap1, rfl⟩ := okWide_slice Tryd.underlying22 (hval 1 22 v1 rfl rfl)
  have k1 := h1
  have lt1 : ∀ x ∈ p1, x.block < W.heap.size := by obtain ⟨m, hm⟩ := k1; exact DataW.trod_lt m _ _ _ hm
  obtain ⟨z1, w1⟩ : ∃ zs, IsRow .u8 W a1 len1 cap1 zs := by
    obtain ⟨fuel, hf⟩ := h1
    rcases open_ints Tryd.underlying22 Tryd.underlying5 (by kernel_rfl) hf with ⟨hcs, _⟩ | ⟨x, l, c, zs, hcs, _, hl, hm, hz, _, hcell, hwz⟩
    · simp [Value.cells] at hcs
      obtain ⟨rfl, rfl, rfl⟩ := hcs
      exact ⟨[], .inl ⟨rfl, rfl, rfl, rfl⟩⟩
    · simp [Value.cells] at hcs
      obtain ⟨rfl, rfl, rfl⟩ := hcs
      exact ⟨zs, .inr ⟨_, rfl, hl, hm, by simpa using hz, hcell, hwz⟩⟩
  have hV2 := hV
  obtain ⟨_, _, _, _, g1, _, rfl, _⟩ := trodVars_one hV
  clear hA0 hval0
  refine (walk a0 len0 cap0 z0 a1 len1 cap1 z1 W w0 w1 (laid_gives hL)).mono fun e W' ⟨he, bel⟩ => ?_
  subst he
  exact ⟨_, rfl, _, _, _, [], _, _, hW', trodAll_mk1 (shut_bool Tryd.underlying4 _), (trodAll_cons_mk (Below.trod laidOut (by kernel_rfl) (of_decide_eq_true (by kernel_rfl)) k0 bel lt0) (trodAll_cons_mk (Below.trod laidOut (by kernel_rfl) (of_decide_eq_true (by kernel_rfl)) k1 bel lt1) trodAll_mk0)), Below.trodVars laidOut bel varsOk hV2, bel.frame _, fun h => by cases h⟩
theorem over : Rows.fnHamBlocksRow.holds Tryd.pinned (OpenSpec.ofChange Rows.fnHamBlocksSpec) :=
  OpenClaim.holds_of_wide 5 Tryd.f5 rfl rfl rfl rfl rfl rfl rfl ⟨rfl, rfl, rfl, rfl, rfl⟩ rfl rfl rfl rfl rfl (by kernel_rfl) Tryd.func5 (by kernel_rfl)
    (of_decide_eq_true (by kernel_rfl)) (by unfold Func.isWrapper; first | (rw [if_pos (by decide +kernel)]; kernel_rfl) | (rw [if_neg (by decide +kernel)]; exact ⟨rfl, rfl⟩))
    (fun os started H enc _ => lifted os started H enc)
theorem rowProved : Rows.FnHamBlocksSaid := over
theorem proved : Rows.FnHamBlocksCardSaid :=
  Claim7.holds_tied_plain_at .later [] [.data] true (true, "06b2c8f9a575171d32cfbc770e383585cc37b8541dfa12e20b01e4e714535db9") false
    rowProved (fun _ h => by cases h) (by kernel_rfl) (fun _ h => by cases h) fnHamBlocks_row_tie rfl ⟨rfl, rfl⟩ (by kernel_rfl) rfl
    (fun f fn hf hfn => by
      obtain rfl : f = 5 := Option.some.inj ((show Tryd.prog.funcNamed "loop.example/cotterpin/laws.FnHamBlocks" = some 5 by kernel_rfl).symm.trans hf) |>.symm
      obtain rfl : fn = Tryd.f5 := (Option.some.inj (Tryd.func5.symm.trans hfn)).symm
      exact ⟨by kernel_rfl, fun j t ht => by
        rw [Tryd.params5] at ht
        have hm : t ∈ [22, 22] := by simpa using Array.mem_of_getElem? ht
        have hall : ([22, 22].all fun u => !Tryd.prog.wantsStandIn u) = true := by kernel_rfl
        exact (show Tryd.prog.wantsStandIn t = false by simpa using List.all_eq_true.1 hall t hm)⟩)
    (by kernel_rfl)
end Go.Proofs.YtjnehfbeokpgpaaDoor.fnHamBlocks
