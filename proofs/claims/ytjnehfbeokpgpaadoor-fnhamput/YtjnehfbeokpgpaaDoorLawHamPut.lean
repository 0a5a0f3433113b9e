/- FnHamPut: Bits are read back from their blocks, and so they are with a bit turned in each. For every input; the places of the data are as start-up lays them (tied). No other condition. -/
import Derived.Test.YtjnehfbeokpgpaaDoorKitA
import Derived.Test.YtjnehfbeokpgpaaDoorCards
import Derived.Test.YtjnehfbeokpgpaaDoorTie
import Derived.SevenTiedAt
import Derived.Test.YtjnehfbeokpgpaaDoorFar
import Derived.Test.YtjnehfbeokpgpaaDoorHamL
import Derived.Test.YtjnehfbeokpgpaaDoorDrawHg
namespace Go.Proofs.YtjnehfbeokpgpaaDoor.fnHamPut
open Go.ChangeShapes Go.WideShapes Go.ChangeAt Go.RowKit Go.WideElems
open Go.ChangeMaps (open_string shut_string)
set_option linter.unusedVariables false
set_option maxRecDepth 100000 in
set_option maxHeartbeats 8000000 in
theorem walk (a0 : Option Addr) (len0 cap0 : Nat) (z0 : List Int) (a1 : Option Addr) (len1 cap1 : Nat) (z1 : List Int) (w : World) (w0 : IsRow .u8 w a0 len0 cap0 z0) (w1 : IsRow .u8 w a1 len1 cap1 z1) (hd : DP w) :
    Calls Tryd.prog 3 #[.slice a0 len0 cap0, .slice a1 len1 cap1] w fun e w' => e = .returned (.bool true) ∧ Below w.heap.size w w' := by
  have HD := Lib.hid hd
  clear hd
  by_cases hbig0 : 1048576 < len0
  · go_enter Tryd.func3, Tryd.ntmps3
    go_wp2
    go_ret
    exact ⟨rfl, Below.refl _ _⟩
  by_cases hbig1 : 1048576 < len1
  · go_enter Tryd.func3, Tryd.ntmps3
    go_wp2
    go_ret
    exact ⟨rfl, Below.refl _ _⟩
  have HH := Lib.hid w0
  clear w0 w1
  obtain ⟨c, hc, hc7⟩ : ∃ c : Nat, c = len1 % 7 ∧ c < 7 := ⟨_, rfl, by omega⟩
  have HCC := Lib.hid hc
  clear hc
  go_enter Tryd.func3, Tryd.ntmps3
  go_wp2_with fail
  refine (drawHamPut_any a0 len0 cap0 z0 HH.out).mono ?_
  rintro e w1 ⟨s, rfl, hs, hb1⟩
  have HB1 := Lib.hid hb1
  clear hb1
  have hmax : s.size ≤ maxLen := by unfold maxLen; omega
  go_wp2_with fail
  refine (implHam_any _ _ hmax (HD.out.from HB1.out)).mono ?_
  rintro e w2 ⟨rfl, hb2⟩
  have HB2 := Lib.hid (HB1.out.trans (hb2.mono HB1.out.size))
  clear hb2
  obtain ⟨X, hX⟩ : ∃ X : ByteArray, X = ⟨(hamPutL s.data.toList).toArray⟩ := ⟨_, rfl⟩
  have hXL : X.data.toList = hamPutL s.data.toList := by rw [hX]
  have HX := Lib.hid hX
  rw [← hX]
  clear hX
  go_wp2_with fail
  refine (specHam_any _ _ hmax).mono ?_
  rintro e w3 ⟨rfl, hb3⟩
  have HB3 := Lib.hid (HB2.out.trans (hb3.mono HB2.out.size))
  clear hb3
  rw [← HX.out]
  by_cases hk : hamOkB s.data.toList = true ∧ s.size ≠ 0
  · obtain ⟨hk1, hk2⟩ := hk
    obtain ⟨hok, hsz, hs4⟩ := hamOk_parts hk1
    rw [hamPutL_yes hk1] at hXL
    have h4l : s.data.toList.length % 4 = 0 := by rw [size_list]; exact hs4
    have hbits := (okB_iff.1 hok).1
    have hXs : X.size = s.size / 4 * 7 := by rw [← size_list, hXL, hamL_len _ h4l, size_list]
    have hXok : okB X.data.toList = true := by
      rw [okB_iff]
      exact ⟨by rw [hXL]; exact hamL_bits _ h4l hbits, by rw [size_list]; omega⟩
    have hX7 : X.data.toList.length % 7 = 0 := by rw [size_list]; omega
    have HG := Lib.hid (show getOk7 X.data.toList = true by unfold getOk7; rw [hXok, decide_eq_true hX7]; rfl)
    have HU := Lib.hid (show unhamL X.data.toList = (s.data.toList, 0) by rw [hXL]; exact unham_ham _ h4l hbits)
    have HUB := Lib.hid (show unhamL (bendC c X.data.toList) = (s.data.toList, s.size / 4) by rw [hXL, unham_bendC c hc7 _ h4l hbits, size_list])
    have HX7 := Lib.hid hX7
    have HXO := Lib.hid hXok
    have HXS := Lib.hid hXs
    have hXle : X.size ≤ 1200 := by omega
    have hX0 : 0 < X.size := by omega
    have h1 : X.toList ≠ [] := by
      rw [Lib.toList_data]; intro h
      have := size_list X
      rw [h] at this
      simp at this; omega
    have h2 : X.toList.isEmpty = false := by cases hh : X.toList with | nil => exact absurd hh h1 | cons x l => rfl
    have HS4 := Lib.hid hs4
    clear hk1 hk2 hok hXL hXs hXok hbits h4l hX7 hs4
    go_wp2_with fail
    refine (implHamGet_yes X _ HG.out (HD.out.from HB3.out)).mono ?_
    rintro e w4 ⟨rfl, hb4⟩
    have HB4 := Lib.hid (HB3.out.trans (hb4.mono HB3.out.size))
    clear hb4
    rw [HU.out]
    simp only [Lib.mk_data]
    rw [show ((0 : Nat) : Int) = 0 from rfl]
    go_wp2
    go_loopw [4, 10, 11, 12, 13] (fun _ v i _ _ wr => ∃ (k : Nat) (Y : ByteArray), 7 * k ≤ X.size ∧ i = .int .i64 ((7 * k : Nat) : Int) ∧ v = .string Y ∧ Y.data.toList = bendUp c X.data.toList k ∧ Y.size = X.size ∧ okB Y.data.toList = true ∧ Below w.heap.size w wr) (fun _ _ i _ _ _ => X.size + 7 - (intOf i).toNat)
    case atStart => exact ⟨0, X, by omega, rfl, rfl, (bendUp_zero _ _).symm, rfl, HXO.out, HB4.out⟩
    case round =>
      obtain ⟨k, Y, hk, rfl, rfl, hY, hYs, hYo, hb⟩ := hrel
      obtain ⟨i, hi7⟩ : ∃ i, 7 * k = i := ⟨_, rfl⟩
      rw [hi7] at hk ⊢
      have HI7 := Lib.hid hi7
      have HY := Lib.hid hY
      have HYS := Lib.hid hYs
      have HYO := Lib.hid hYo
      have HB := Lib.hid hb
      clear hY hYs hYo hb hi7
      by_cases hlt : i < X.size
      · obtain ⟨p, hp, hpl⟩ : ∃ p : Nat, (i : Int) + ((len1 : Int) + (i : Int)) % 7 = (p : Int) ∧ p < Y.size := ⟨i + c, by have := HI7.out; have := HCC.out; omega, by have := HI7.out; have := HYS.out; have h := HX7.out; rw [size_list] at h; omega⟩
        have HP := Lib.hid hp
        have HST := Lib.hid (show bendUp c X.data.toList (k + 1) = turnL Y.data.toList p by
          rw [HY.out, bendUp_step c _ k HX7.out (by rw [size_list, HI7.out]; exact hlt) hc7]
          congr 1
          have := HI7.out; have := HCC.out; omega)
        clear hp
        go_wp2_with fail
        rw [HP.out]
        refine (implTurn_yes Y p _ HYO.out hpl).mono ?_
        rintro e w5 ⟨rfl, hb5⟩
        have HB5 := Lib.hid (HB.out.trans (hb5.mono HB.out.size))
        clear hb5
        obtain ⟨Z, hZ⟩ : ∃ Z : ByteArray, Z = ⟨(turnL Y.data.toList p).toArray⟩ := ⟨_, rfl⟩
        have hZl : Z.data.toList = turnL Y.data.toList p := by rw [hZ]
        have HZL := Lib.hid hZl
        rw [← hZ]
        clear hZ hZl
        go_wp2
        go_roundw
        case rel =>
          refine ⟨k + 1, Z, by have := HI7.out; have h := HX7.out; rw [size_list] at h; omega, val_int (by have := HI7.out; omega), rfl, by rw [HZL.out, HST.out], ?_, ?_, HB5.out⟩
          · rw [← size_list, HZL.out, turnL_len, size_list]; exact HYS.out
          · rw [HZL.out]; exact turnL_ok HYO.out p
        case measure => simp [intOf]; omega
      · have HE := Lib.hid (show Y.data.toList = bendC c X.data.toList by rw [HY.out, bendUp_all c _ k (by rw [size_list]; have := HI7.out; omega)])
        have HGY := Lib.hid (show getOk7 Y.data.toList = true by
          unfold getOk7
          rw [HYO.out, size_list, HYS.out, ← size_list, decide_eq_true HX7.out]; rfl)
        have HUY := Lib.hid (show unhamL Y.data.toList = (s.data.toList, s.size / 4) by rw [HE.out]; exact HUB.out)
        go_wp2_with fail
        refine (implHamGet_yes Y _ HGY.out (HD.out.from HB.out)).mono ?_
        rintro e w5 ⟨rfl, hb5⟩
        have HB5 := Lib.hid (HB.out.trans (hb5.mono HB.out.size))
        clear hb5
        rw [HUY.out]
        simp only [Lib.mk_data]
        obtain ⟨q, hq⟩ : ∃ q, s.size / 4 = q := ⟨_, rfl⟩
        have hqa : ((q : Int) == (X.size : Int) / 7) = true := by rw [beq_iff_eq]; have := HXS.out; omega
        have hqb : ((X.size : Int) == (s.size : Int) / 4 * 7) = true := by rw [beq_iff_eq]; have := HXS.out; omega
        rw [hq]
        clear hq
        go_wp2
        go_ret
        exact ⟨rfl, HB5.out⟩
  · have h0 : X = ⟨#[]⟩ := by
      have : X.data.toList = [] := by
        rw [hXL]
        cases hm : hamOkB s.data.toList with
        | false => exact hamPutL_no hm
        | true =>
          have hz : s.size = 0 := by
            rcases Nat.eq_zero_or_pos s.size with h | h
            · exact h
            · exact absurd ⟨hm, by omega⟩ hk
          rw [hamPutL_yes hm, List.eq_nil_of_length_eq_zero ((size_list s).trans hz)]; rfl
      rw [← Lib.mk_data X, this]
    subst h0
    clear hXL hk
    go_wp2_with fail
    refine (specHam_any _ _ hmax).mono ?_
    rintro e w4 ⟨rfl, hb4⟩
    have HB4 := Lib.hid (HB3.out.trans (hb4.mono HB3.out.size))
    clear hb4
    rw [← HX.out]
    go_wp2
    go_ret
    exact ⟨rfl, HB4.out⟩
theorem own : ownKnob Tryd.prog.godebug = none := by kernel_rfl
theorem laidOut : laidOutB Tryd.prog = true := by kernel_rfl
theorem varsOk : varsRowed Tryd.prog ["loop.example/cotterpin/impl.dataPlaces"] = true := by kernel_rfl
set_option maxRecDepth 100000 in
theorem lifted (os : Os) (started : os.Started) (H : Type) (enc : TypeId × Value → H) :
    ReturnsInHanded {} Tryd.checked os 3 .any (fun w args => (Rows.fnHamPutSpec.pre enc Tryd.prog Tryd.f3 Rows.fnHamPutRow.domain false w args ∧ laidMetH Tryd.prog laidHam w) ∧ sizedMet enc Tryd.prog Tryd.f3 (OpenSpec.ofChange Rows.fnHamPutSpec) false w args) (Rows.fnHamPutSpec.post enc Tryd.prog Tryd.f3 false true false false) := by
  refine returnsInHanded_of_change_and (C := Tryd.checked) (X := fun w _ => laidMetH Tryd.prog laidHam w) (fun _ _ _ hh h => h.of_heap hh) own started (by kernel_rfl) Tryd.func3
    (ChangeSpec.witness_shaped (enc := enc) (C := Tryd.checked) (os := os) (X := fun w _ => laidMetH Tryd.prog laidHam w) false (World.doorLaid Tryd.prog 400 os) #[.slice none 0 0, .slice none 0 0] 8 rfl (World.shaped_of_RefB (by kernel_rfl) (by kernel_rfl)) (by kernel_rfl) (by kernel_rfl) (by kernel_rfl) (door_met os _)) ?_
  intro W base args ds gs before hval0 hW hcnd _ hL _
  have hval : ∀ (j : Nat) t v, Tryd.f3.params[j]? = some t → args[j]? = some v → Value.okWide Tryd.prog W .any base t v := hval0
  have hW' := hW
  obtain ⟨p, q, hA0, hV, rfl, hfz, hnd⟩ := hW
  have hA : DataW.TrodAll enc Tryd.prog W 0 (fun _ => true) true Tryd.f3.params.toList args.toList ds p := hA0
  rw [Tryd.params3] at hA hval
  obtain ⟨v0, vs0, d0, ds0, p0, q0, hargs, rfl, rfl, h0, r0⟩ := trodAll_cons hA
  obtain ⟨v1, vs1, d1, ds1, p1, q1, rfl, rfl, rfl, h1, r1⟩ := trodAll_cons r0
  obtain ⟨rfl, rfl, rfl⟩ := trodAll_nil r1
  obtain rfl : args = #[v0, v1] := by cases args; simp_all
  obtain ⟨a0, len0, cap0, rfl⟩ := okWide_slice Tryd.underlying22 (hval 0 22 v0 rfl rfl)
  have k0 := h0
  have lt0 : ∀ x ∈ p0, x.block < W.heap.size := by obtain ⟨m, hm⟩ := k0; exact DataW.trod_lt m _ _ _ hm
  obtain ⟨z0, w0⟩ : ∃ zs, IsRow .u8 W a0 len0 cap0 zs := by
    obtain ⟨fuel, hf⟩ := h0
    rcases open_ints Tryd.underlying22 Tryd.underlying5 (by kernel_rfl) hf with ⟨hcs, _⟩ | ⟨x, l, c, zs, hcs, _, hl, hm, hz, _, hcell, hwz⟩
    · simp [Value.cells] at hcs
      obtain ⟨rfl, rfl, rfl⟩ := hcs
      exact ⟨[], .inl ⟨rfl, rfl, rfl, rfl⟩⟩
    · simp [Value.cells] at hcs
      obtain ⟨rfl, rfl, rfl⟩ := hcs
      exact ⟨zs, .inr ⟨_, rfl, hl, hm, by simpa using hz, hcell, hwz⟩⟩
  obtain ⟨a1, len1, cap1, rfl⟩ := okWide_slice Tryd.underlying22 (hval 1 22 v1 rfl rfl)
  have k1 := h1
  have lt1 : ∀ x ∈ p1, x.block < W.heap.size := by obtain ⟨m, hm⟩ := k1; exact DataW.trod_lt m _ _ _ hm
  obtain ⟨z1, w1⟩ : ∃ zs, IsRow .u8 W a1 len1 cap1 zs := by
    obtain ⟨fuel, hf⟩ := h1
    rcases open_ints Tryd.underlying22 Tryd.underlying5 (by kernel_rfl) hf with ⟨hcs, _⟩ | ⟨x, l, c, zs, hcs, _, hl, hm, hz, _, hcell, hwz⟩
    · simp [Value.cells] at hcs
      obtain ⟨rfl, rfl, rfl⟩ := hcs
      exact ⟨[], .inl ⟨rfl, rfl, rfl, rfl⟩⟩
    · simp [Value.cells] at hcs
      obtain ⟨rfl, rfl, rfl⟩ := hcs
      exact ⟨zs, .inr ⟨_, rfl, hl, hm, by simpa using hz, hcell, hwz⟩⟩
  have hV2 := hV
  obtain ⟨_, _, _, _, g1, _, rfl, _⟩ := trodVars_one hV
  clear hA0 hval0
  refine (walk a0 len0 cap0 z0 a1 len1 cap1 z1 W w0 w1 (laid_gives hL)).mono fun e W' ⟨he, bel⟩ => ?_
  subst he
  exact ⟨_, rfl, _, _, _, [], _, _, hW', trodAll_mk1 (shut_bool Tryd.underlying4 _), (trodAll_cons_mk (Below.trod laidOut (by kernel_rfl) (of_decide_eq_true (by kernel_rfl)) k0 bel lt0) (trodAll_cons_mk (Below.trod laidOut (by kernel_rfl) (of_decide_eq_true (by kernel_rfl)) k1 bel lt1) trodAll_mk0)), Below.trodVars laidOut bel varsOk hV2, bel.frame _, fun h => by cases h⟩
theorem over : Rows.fnHamPutRow.holds Tryd.pinned (OpenSpec.ofChange Rows.fnHamPutSpec) :=
  OpenClaim.holds_of_wide 3 Tryd.f3 rfl rfl rfl rfl rfl rfl rfl ⟨rfl, rfl, rfl, rfl, rfl⟩ rfl rfl rfl rfl rfl (by kernel_rfl) Tryd.func3 (by kernel_rfl)
    (of_decide_eq_true (by kernel_rfl)) (by unfold Func.isWrapper; first | (rw [if_pos (by decide +kernel)]; kernel_rfl) | (rw [if_neg (by decide +kernel)]; exact ⟨rfl, rfl⟩))
    (fun os started H enc _ => lifted os started H enc)
theorem rowProved : Rows.FnHamPutSaid := over
theorem proved : Rows.FnHamPutCardSaid :=
  Claim7.holds_tied_plain_at .later [] [.data] true (true, "06b2c8f9a575171d32cfbc770e383585cc37b8541dfa12e20b01e4e714535db9") false
    rowProved (fun _ h => by cases h) (by kernel_rfl) (fun _ h => by cases h) fnHamPut_row_tie rfl ⟨rfl, rfl⟩ (by kernel_rfl) rfl
    (fun f fn hf hfn => by
      obtain rfl : f = 3 := Option.some.inj ((show Tryd.prog.funcNamed "loop.example/cotterpin/laws.FnHamPut" = some 3 by kernel_rfl).symm.trans hf) |>.symm
      obtain rfl : fn = Tryd.f3 := (Option.some.inj (Tryd.func3.symm.trans hfn)).symm
      exact ⟨by kernel_rfl, fun j t ht => by
        rw [Tryd.params3] at ht
        have hm : t ∈ [22, 22] := by simpa using Array.mem_of_getElem? ht
        have hall : ([22, 22].all fun u => !Tryd.prog.wantsStandIn u) = true := by kernel_rfl
        exact (show Tryd.prog.wantsStandIn t = false by simpa using List.all_eq_true.1 hall t hm)⟩)
    (by kernel_rfl)
end Go.Proofs.YtjnehfbeokpgpaaDoor.fnHamPut
