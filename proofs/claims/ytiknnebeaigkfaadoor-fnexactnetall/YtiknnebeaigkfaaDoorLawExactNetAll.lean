/- FnExactNetAll: NetAll of the program answers as the model's, at every string, and what it answers is its own. The listed tables and errors are as start-up lays them (tied). No other condition. -/
import Derived.Test.YtiknnebeaigkfaaDoorKitA
import Derived.Test.YtiknnebeaigkfaaDoorCards
import Derived.Test.YtiknnebeaigkfaaDoorTie
import Derived.SevenTiedAt
import Derived.Test.YtiknnebeaigkfaaDoorNetE
import Derived.Test.YtiknnebeaigkfaaDoorNMark
namespace Go.Proofs.YtiknnebeaigkfaaDoor.fnExactNetAll
open Go.ChangeShapes Go.WideShapes Go.ChangeAt Go.RowKit Go.WideElems
open Go.ChangeMaps (open_string shut_string)
set_option linter.unusedVariables false
theorem all_len (t : List UInt8) : ((netAllL t).1.map strN).length ≤ 12 := by
  rw [List.length_map]
  unfold netAllL
  split
  · exact (curRun_len netGetL 12 t).1
  · exact Nat.zero_le _
theorem OS.pastN {w w' : World} {base base' : Nat} {v u : Value} {ss us : List ByteArray} (h : OS w base v ss) (hl : ∀ k, v.ownBlock = some k → k < base') (hu : OS w base' u us) (hg : w.grownBy w' u.ownBlock) : OS w' base v ss := by
  refine h.kept hg ?_
  cases hv : v.ownBlock with
  | none => exact .inl rfl
  | some k => exact .inr (fun e => by have h1 := hl k hv; have h2 := (hu.low k e.symm).1; omega)
set_option maxRecDepth 100000 in
set_option maxHeartbeats 4000000 in
theorem walk (s0 : ByteArray) (w : World) (w0 : s0.size ≤ maxLen) (hd : NumIs w) :
    Calls Tryd.prog 8 #[.string s0] w fun e w' => e = .returned (.bool true) ∧ Below w.heap.size w w' := by
  have HD := Lib.hid hd
  clear hd
  by_cases hbig : 1048576 < s0.size
  · go_enter Tryd.func8, Tryd.ntmps8
    go_wp2
    go_ret
    exact ⟨rfl, Below.refl _ _⟩
  have hs : s0.size ≤ 1048576 := by omega
  have HS := Lib.hid (fun u => specNetAll_any s0 u hs)
  have HI := Lib.hid (fun u hu => implNetAll_any s0 u hu hs)
  unfold NAllPost at HS HI
  have hll := all_len s0.data.toList
  generalize (netAllL s0.data.toList).1.map strN = L at HS HI hll
  generalize (netAllL s0.data.toList).2 = ok at HS HI
  have HLL := Lib.hid hll
  clear hs hll
  go_enter Tryd.func8, Tryd.ntmps8
  go_wp2_with fail
  refine (HS.out _).mono ?_
  rintro e w1 ⟨⟨v0, rfl, ho1⟩, hb1⟩
  have HB1 := Lib.hid hb1
  have HO1 := Lib.hid ho1
  have HV0 := Lib.hid (fun k hk => (ho1.low k hk).2)
  clear hb1 ho1
  go_wp2_with fail
  refine (HI.out _ (HD.out.below HB1.out)).mono ?_
  rintro e w2 ⟨⟨v1, rfl, ho2⟩, hb2⟩
  have HB2 := Lib.hid (HB1.out.trans (hb2.mono HB1.out.size))
  have HO1 := Lib.hid (HO1.out.below hb2)
  have HO2 := Lib.hid ho2
  clear hb2 ho2
  go_wp2_with fail
  refine (eqStrs_same v1 v0 L _ _ _ HO2.out.reads HO1.out.reads (Nat.le_refl _) (Nat.le_refl _) (by have := HLL.out; omega)).mono ?_
  rintro e w3 ⟨rfl, hb3⟩
  have HB3 := Lib.hid (HB2.out.trans (hb3.mono HB2.out.size))
  have HO1 := Lib.hid (HO1.out.below hb3)
  have HO2 := Lib.hid (HO2.out.below hb3)
  clear hb3
  go_wp2_with fail
  refine (NmarkS_any v1 L 1 _ w1.heap.size HO2.out (by omega) (by have := HLL.out; omega)).mono ?_
  rintro e w4 ⟨rfl, ho4, hg4⟩
  have HO1 := Lib.hid (OS.pastN HO1.out HV0.out HO2.out hg4)
  have HB4 := Lib.hid (HB3.out.grown hg4 HB3.out.size (fun j hj => Nat.le_trans HB1.out.size (HO2.out.low j hj).1))
  have HO2 := Lib.hid ho4
  clear hg4 ho4
  go_wp2_with fail
  refine (NheldS_any v1 1 L.length _ _ HO2.out.reads (Nat.le_refl _) (by omega) (by have := HLL.out; omega)).mono ?_
  rintro e w5 ⟨rfl, hb5⟩
  have HB5 := Lib.hid (HB4.out.trans (hb5.mono HB4.out.size))
  have HO1 := Lib.hid (HO1.out.below hb5)
  have HO2 := Lib.hid (HO2.out.below hb5)
  clear hb5
  have hq : ¬ (((1 + L.length : Nat) : Int) < 0) := by omega
  go_wp2_with fail
  refine (HI.out _ (HD.out.below HB5.out)).mono ?_
  rintro e w6 ⟨⟨v2, rfl, ho6⟩, hb6⟩
  have HB6 := Lib.hid (HB5.out.trans (hb6.mono HB5.out.size))
  have HO1 := Lib.hid (HO1.out.below hb6)
  have HO2 := Lib.hid (HO2.out.below hb6)
  have HO6 := Lib.hid ho6
  clear hb6 ho6
  go_wp2_with fail
  refine (eqStrs_same v2 v0 L _ _ _ HO6.out.reads HO1.out.reads (Nat.le_refl _) (Nat.le_refl _) (by have := HLL.out; omega)).mono ?_
  rintro e w7 ⟨rfl, hb7⟩
  have HB7 := Lib.hid (HB6.out.trans (hb7.mono HB6.out.size))
  have HO2 := Lib.hid (HO2.out.below hb7)
  clear hb7
  go_wp2_with fail
  refine (NheldS_any v1 1 L.length _ _ HO2.out.reads (Nat.le_refl _) (by omega) (by have := HLL.out; omega)).mono ?_
  rintro e w8 ⟨rfl, hb8⟩
  have HB8 := Lib.hid (HB7.out.trans (hb8.mono HB7.out.size))
  clear hb8
  go_wp2
  go_ret
  exact ⟨rfl, HB8.out⟩
theorem door_met (os : Os) (args : Array Value) : laidMetH Tryd.prog laidNum ((World.doorLaid Tryd.prog 400 os).forCall (fun _ _ => 0) ⟨#[], args, []⟩).memory := num_met os args
theorem own : ownKnob Tryd.prog.godebug = none := by kernel_rfl
theorem laidOut : laidOutB Tryd.prog = true := by kernel_rfl
set_option maxRecDepth 100000 in
theorem lifted (os : Os) (started : os.Started) (H : Type) (enc : TypeId × Value → H) :
    ReturnsInHanded {} Tryd.checked os 8 .any (fun w args => (Rows.fnExactNetAllSpec.pre enc Tryd.prog Tryd.f8 Rows.fnExactNetAllRow.domain false w args ∧ laidMetH Tryd.prog laidNum w) ∧ sizedMet enc Tryd.prog Tryd.f8 (OpenSpec.ofChange Rows.fnExactNetAllSpec) false w args) (Rows.fnExactNetAllSpec.post enc Tryd.prog Tryd.f8 false true false false) := by
  refine returnsInHanded_of_change_and (C := Tryd.checked) (X := fun w _ => laidMetH Tryd.prog laidNum w) (fun _ _ _ hh h => h.of_heap hh) own started (by kernel_rfl) Tryd.func8
    (ChangeSpec.witness_shaped (enc := enc) (C := Tryd.checked) (os := os) (X := fun w _ => laidMetH Tryd.prog laidNum w) false (World.doorLaid Tryd.prog 400 os) #[.string .empty] 8 rfl (World.shaped_of_RefB (by kernel_rfl) (by kernel_rfl)) (by kernel_rfl) (by kernel_rfl) (by kernel_rfl) (door_met os _)) ?_
  intro W base args ds gs before hval0 hW hcnd _ hL _
  have hval : ∀ (j : Nat) t v, Tryd.f8.params[j]? = some t → args[j]? = some v → Value.okWide Tryd.prog W .any base t v := hval0
  have hW' := hW
  obtain ⟨p, q, hA0, hV, rfl, hfz, hnd⟩ := hW
  have hA : DataW.TrodAll enc Tryd.prog W 0 (fun _ => true) true Tryd.f8.params.toList args.toList ds p := hA0
  rw [Tryd.params8] at hA hval
  obtain ⟨v0, vs0, d0, ds0, p0, q0, hargs, rfl, rfl, h0, r0⟩ := trodAll_cons hA
  obtain ⟨rfl, rfl, rfl⟩ := trodAll_nil r0
  obtain rfl : args = #[v0] := by cases args; simp_all
  obtain ⟨rfl, rfl⟩ := trodVars_none hV
  obtain ⟨s0, rfl, rfl, rfl, w0⟩ := open_string Tryd.underlying9 (hval 0 9 v0 rfl rfl) h0
  clear hA0 hval0
  refine (walk s0 W w0 (num_gives hL)).mono fun e W' ⟨he, bel⟩ => ?_
  subst he
  exact ⟨_, rfl, _, _, _, [], _, [], hW', trodAll_mk1 (shut_bool Tryd.underlying4 _), (trodAll_cons_mk (shut_string Tryd.underlying9 w0) trodAll_mk0), rfl, bel.frame _, fun h => by cases h⟩
theorem over : Rows.fnExactNetAllRow.holds Tryd.pinned (OpenSpec.ofChange Rows.fnExactNetAllSpec) :=
  OpenClaim.holds_of_wide 8 Tryd.f8 rfl rfl rfl rfl rfl rfl rfl ⟨rfl, rfl, rfl, rfl, rfl⟩ rfl rfl rfl rfl rfl (by kernel_rfl) Tryd.func8 (by kernel_rfl)
    (of_decide_eq_true (by kernel_rfl)) (by unfold Func.isWrapper; first | (rw [if_pos (by decide +kernel)]; kernel_rfl) | (rw [if_neg (by decide +kernel)]; exact ⟨rfl, rfl⟩))
    (fun os started H enc _ => lifted os started H enc)
theorem rowProved : Rows.FnExactNetAllSaid := over
theorem proved : Rows.FnExactNetAllCardSaid :=
  Claim7.holds_tied_plain_at .later [] [.data, .data, .data, .sentinel, .sentinel] true (true, "cedc07671df28a9db4192050b691ba4c2a19f249450183cf68b718be69a18ff2") true
    rowProved (fun _ h => by cases h) (by kernel_rfl) (fun _ h => by cases h) fnExactNetAll_row_tie rfl ⟨rfl, rfl⟩ (by kernel_rfl) rfl
    (fun f fn hf hfn => by
      obtain rfl : f = 8 := Option.some.inj ((show Tryd.prog.funcNamed "loop.example/cotterpin/laws.FnExactNetAll" = some 8 by kernel_rfl).symm.trans hf) |>.symm
      obtain rfl : fn = Tryd.f8 := (Option.some.inj (Tryd.func8.symm.trans hfn)).symm
      exact ⟨by kernel_rfl, fun j t ht => by
        rw [Tryd.params8] at ht
        have hm : t ∈ [9] := by simpa using Array.mem_of_getElem? ht
        have hall : ([9].all fun u => !Tryd.prog.wantsStandIn u) = true := by kernel_rfl
        exact (show Tryd.prog.wantsStandIn t = false by simpa using List.all_eq_true.1 hall t hm)⟩)
    (by kernel_rfl)
end Go.Proofs.YtiknnebeaigkfaaDoor.fnExactNetAll
