/- FnNetAll: All that stands one behind the other is read; written again it is the same. For every input; the listed tables and errors are as start-up lays them (tied). No other condition. -/
import Derived.Test.YtiknnebeaigkfaaDoorKitA
import Derived.Test.YtiknnebeaigkfaaDoorCards
import Derived.Test.YtiknnebeaigkfaaDoorTie
import Derived.SevenTiedAt
import Derived.Test.YtiknnebeaigkfaaDoorNetE
import Derived.Test.YtiknnebeaigkfaaDoorNCt
import Derived.Test.YtiknnebeaigkfaaDoorDrawNet
namespace Go.Proofs.YtiknnebeaigkfaaDoor.fnNetAll
open Go.ChangeShapes Go.WideShapes Go.ChangeAt Go.RowKit Go.WideElems
open Go.ChangeMaps (open_string shut_string)
set_option linter.unusedVariables false
theorem all_len (t : List UInt8) : (netAllL t).1.length ≤ 12 := by
  unfold netAllL
  split
  · exact (curRun_len netGetL 12 t).1
  · exact Nat.zero_le _
theorem all_again {t : List UInt8} (h : (netAllL t).2 = true) : ((netAllL t).1.flatMap netPutL) = t := by
  have h3 := run_again 12 t
  unfold netAllL at h ⊢
  split at h
  · rename_i h2
    rw [if_pos h2]
    rw [h2, List.append_nil] at h3
    exact h3
  · cases h
theorem flat_snoc (ls : List (List UInt8)) (k : Nat) (hk : k < ls.length) : (ls.take (k + 1)).flatMap netPutL = (ls.take k).flatMap netPutL ++ netPutL ls[k] := by
  rw [List.take_succ_eq_append_getElem hk, List.flatMap_append]
  simp only [List.flatMap_cons, List.flatMap_nil, List.append_nil]
theorem flat_len (ls : List (List UInt8)) : ∀ k, ((ls.take k).flatMap netPutL).length ≤ 606 * k := by
  induction ls with
  | nil => intro k; simp
  | cons a r ih =>
    intro k
    cases k with
    | zero => simp
    | succ k =>
      have := ih k
      have h2 := put_short a
      rw [List.take_succ_cons, List.flatMap_cons, List.length_append]
      omega
set_option maxRecDepth 100000 in
set_option maxHeartbeats 4000000 in
theorem walk (a0 : Option Addr) (len0 cap0 : Nat) (z0 : List Int) (w : World) (w0 : IsRow .u8 w a0 len0 cap0 z0) (hd : NumIs w) :
    Calls Tryd.prog 5 #[.slice a0 len0 cap0] w fun e w' => e = .returned (.bool true) ∧ Below w.heap.size w w' := by
  have HD := Lib.hid hd
  clear hd
  by_cases hbig0 : 1048576 < len0
  · go_enter Tryd.func5, Tryd.ntmps5
    go_wp2
    go_ret
    exact ⟨rfl, Below.refl _ _⟩
  have HH := Lib.hid w0
  clear w0
  go_enter Tryd.func5, Tryd.ntmps5
  go_wp2_with fail
  refine (drawNetAll_any a0 len0 cap0 z0 HH.out).mono ?_
  rintro e w1 ⟨t, rfl, ht, hb1⟩
  have HB1 := Lib.hid hb1
  clear hb1
  have HS := Lib.hid (fun u => specNetAll_any t u (by omega))
  have HI := Lib.hid (fun u hu => implNetAll_any t u hu (by omega))
  unfold NAllPost at HS HI
  have hll := all_len t.data.toList
  have hag := fun h => all_again (t := t.data.toList) h
  generalize (netAllL t.data.toList).1 = L at HS HI hll hag
  generalize (netAllL t.data.toList).2 = ok at HS HI hag
  have HAG := Lib.hid hag
  clear hag
  go_wp2_with fail
  refine (HI.out _ (HD.out.below HB1.out)).mono ?_
  rintro e w2 ⟨⟨v0, rfl, ho2⟩, hb2⟩
  have HB2 := Lib.hid (HB1.out.trans (hb2.mono HB1.out.size))
  have HO2 := Lib.hid ho2
  clear hb2 ho2
  go_wp2_with fail
  refine (HS.out _).mono ?_
  rintro e w3 ⟨⟨v1, rfl, ho3⟩, hb3⟩
  have HB3 := Lib.hid (HB2.out.trans (hb3.mono HB2.out.size))
  have HO2 := Lib.hid (HO2.out.below hb3)
  have HO3 := Lib.hid ho3
  clear hb3 ho3
  go_wp2_with fail
  refine (NctTexts_same v0 v1 (L.map strN) _ _ _ HO2.out.reads HO3.out.reads (Nat.le_refl _) (Nat.le_refl _) (by rw [List.length_map]; omega)).mono ?_
  rintro e w4 ⟨rfl, hb4⟩
  have HB4 := Lib.hid (HB3.out.trans (hb4.mono HB3.out.size))
  have HO2 := Lib.hid (HO2.out.below hb4)
  have HO3 := Lib.hid (HO3.out.below hb4)
  clear hb4
  cases ok with
  | false =>
    go_wp2_with fail
    refine (NctTexts_same v0 v1 (L.map strN) _ _ _ HO2.out.reads HO3.out.reads (Nat.le_refl _) (Nat.le_refl _) (by rw [List.length_map]; omega)).mono ?_
    rintro e w5 ⟨rfl, hb5⟩
    have HB5 := Lib.hid (HB4.out.trans (hb5.mono HB4.out.size))
    clear hb5
    go_wp2
    go_ret
    exact ⟨rfl, HB5.out⟩
  | true =>
    obtain ⟨va, vc, rfl⟩ := HO2.out.reads.shape
    rw [List.length_map] at HO2 ⊢
    go_wp2
    go_loopw [8, 9] (fun o i wr => ∃ (k : Nat) (x : ByteArray), k ≤ L.length ∧ i = .int .i64 (k : Int) ∧ o = .string x ∧ x.data.toList = (L.take k).flatMap netPutL ∧ Below w4.heap.size w4 wr) (fun _ i _ => L.length - (intOf i).toNat)
    case atStart => exact ⟨0, ⟨#[]⟩, Nat.zero_le _, rfl, rfl, by simp, Below.refl _ _⟩
    case round =>
      obtain ⟨k, x, hk, rfl, rfl, hx, hb⟩ := hrel
      have HB := Lib.hid hb
      clear hb
      have hfl := flat_len L k
      rw [← hx, size_list] at hfl
      have HX := Lib.hid hx
      clear hx
      by_cases hlt : k < L.length
      · have HSN := Lib.hid (flat_snoc L k hlt)
        have hR : RS w4 w4.heap.size (.slice va (L.map strN).length vc) (L.map strN) := by rw [List.length_map]; exact HO2.out.reads
        obtain ⟨y, rfl, _, c0⟩ := (hR.below HB.out).at_ (k := k) (by rw [List.length_map]; exact hlt)
        rw [List.getElem_map] at c0
        clear hR
        obtain ⟨s, hs⟩ : ∃ s, s = strN L[k] := ⟨_, rfl⟩
        have HSL := Lib.hid (show s.data.toList = L[k] by rw [hs]; rfl)
        rw [← hs] at c0
        clear hs
        go_wp2_with fail
        refine (implNetPut_any s _ (HD.out.below (HB4.out.trans (HB.out.mono HB4.out.size))).pow).mono ?_
        rintro e w5 ⟨rfl, hb5⟩
        have HB5 := Lib.hid (HB.out.trans (hb5.mono HB.out.size))
        clear hb5 c0
        have hps := put_size s
        obtain ⟨p, hp⟩ : ∃ p : ByteArray, p = ⟨(netPutL s.data.toList).toArray⟩ := ⟨_, rfl⟩
        have HP := Lib.hid (show p.data.toList = netPutL L[k] by rw [hp, ← HSL.out])
        rw [← hp] at hps ⊢
        clear hp
        go_wp2
        go_roundw
        case rel => exact ⟨k + 1, x ++ p, by omega, by go_num, rfl, by rw [HSN.out, ← HX.out, ← HP.out]; simp, HB5.out⟩
        case measure => simp [intOf]; omega
      · have hke : k = L.length := by omega
        have hfin : x.data.toList = t.data.toList := by rw [HX.out, hke, List.take_length]; exact HAG.out (by trivial)
        have hxt : x = t := by rw [← Lib.mk_data x, ← Lib.mk_data t, hfin]
        clear hfin
        subst hxt
        go_wp2
        go_ret
        exact ⟨by simp; omega, HB4.out.trans (HB.out.mono HB4.out.size)⟩
theorem door_met (os : Os) (args : Array Value) : laidMetH Tryd.prog laidNum ((World.doorLaid Tryd.prog 400 os).forCall (fun _ _ => 0) ⟨#[], args, []⟩).memory := num_met os args
theorem own : ownKnob Tryd.prog.godebug = none := by kernel_rfl
theorem laidOut : laidOutB Tryd.prog = true := by kernel_rfl
set_option maxRecDepth 100000 in
theorem lifted (os : Os) (started : os.Started) (H : Type) (enc : TypeId × Value → H) :
    ReturnsInHanded {} Tryd.checked os 5 .any (fun w args => (Rows.fnNetAllSpec.pre enc Tryd.prog Tryd.f5 Rows.fnNetAllRow.domain false w args ∧ laidMetH Tryd.prog laidNum w) ∧ sizedMet enc Tryd.prog Tryd.f5 (OpenSpec.ofChange Rows.fnNetAllSpec) false w args) (Rows.fnNetAllSpec.post enc Tryd.prog Tryd.f5 false true false false) := by
  refine returnsInHanded_of_change_and (C := Tryd.checked) (X := fun w _ => laidMetH Tryd.prog laidNum w) (fun _ _ _ hh h => h.of_heap hh) own started (by kernel_rfl) Tryd.func5
    (ChangeSpec.witness_shaped (enc := enc) (C := Tryd.checked) (os := os) (X := fun w _ => laidMetH Tryd.prog laidNum w) false (World.doorLaid Tryd.prog 400 os) #[.slice none 0 0] 8 rfl (World.shaped_of_RefB (by kernel_rfl) (by kernel_rfl)) (by kernel_rfl) (by kernel_rfl) (by kernel_rfl) (door_met os _)) ?_
  intro W base args ds gs before hval0 hW hcnd _ hL _
  have hval : ∀ (j : Nat) t v, Tryd.f5.params[j]? = some t → args[j]? = some v → Value.okWide Tryd.prog W .any base t v := hval0
  have hW' := hW
  obtain ⟨p, q, hA0, hV, rfl, hfz, hnd⟩ := hW
  have hA : DataW.TrodAll enc Tryd.prog W 0 (fun _ => true) true Tryd.f5.params.toList args.toList ds p := hA0
  rw [Tryd.params5] at hA hval
  obtain ⟨v0, vs0, d0, ds0, p0, q0, hargs, rfl, rfl, h0, r0⟩ := trodAll_cons hA
  obtain ⟨rfl, rfl, rfl⟩ := trodAll_nil r0
  obtain rfl : args = #[v0] := by cases args; simp_all
  obtain ⟨rfl, rfl⟩ := trodVars_none hV
  obtain ⟨a0, len0, cap0, rfl⟩ := okWide_slice Tryd.underlying22 (hval 0 22 v0 rfl rfl)
  have k0 := h0
  have lt0 : ∀ x ∈ p0, x.block < W.heap.size := by obtain ⟨m, hm⟩ := k0; exact DataW.trod_lt m _ _ _ hm
  obtain ⟨z0, w0⟩ : ∃ zs, IsRow .u8 W a0 len0 cap0 zs := by
    obtain ⟨fuel, hf⟩ := h0
    rcases open_ints Tryd.underlying22 Tryd.underlying5 (by kernel_rfl) hf with ⟨hcs, _⟩ | ⟨x, l, c, zs, hcs, _, hl, hm, hz, _, hcell, hwz⟩
    · simp [Value.cells] at hcs
      obtain ⟨rfl, rfl, rfl⟩ := hcs
      exact ⟨[], .inl ⟨rfl, rfl, rfl, rfl⟩⟩
    · simp [Value.cells] at hcs
      obtain ⟨rfl, rfl, rfl⟩ := hcs
      exact ⟨zs, .inr ⟨_, rfl, hl, hm, by simpa using hz, hcell, hwz⟩⟩
  clear hA0 hval0
  refine (walk a0 len0 cap0 z0 W w0 (num_gives hL)).mono fun e W' ⟨he, bel⟩ => ?_
  subst he
  exact ⟨_, rfl, _, _, _, [], _, [], hW', trodAll_mk1 (shut_bool Tryd.underlying4 _), (trodAll_cons_mk (Below.trod laidOut (by kernel_rfl) (of_decide_eq_true (by kernel_rfl)) k0 bel lt0) trodAll_mk0), rfl, bel.frame _, fun h => by cases h⟩
theorem over : Rows.fnNetAllRow.holds Tryd.pinned (OpenSpec.ofChange Rows.fnNetAllSpec) :=
  OpenClaim.holds_of_wide 5 Tryd.f5 rfl rfl rfl rfl rfl rfl rfl ⟨rfl, rfl, rfl, rfl, rfl⟩ rfl rfl rfl rfl rfl (by kernel_rfl) Tryd.func5 (by kernel_rfl)
    (of_decide_eq_true (by kernel_rfl)) (by unfold Func.isWrapper; first | (rw [if_pos (by decide +kernel)]; kernel_rfl) | (rw [if_neg (by decide +kernel)]; exact ⟨rfl, rfl⟩))
    (fun os started H enc _ => lifted os started H enc)
theorem rowProved : Rows.FnNetAllSaid := over
theorem proved : Rows.FnNetAllCardSaid :=
  Claim7.holds_tied_plain_at .later [] [.data, .data, .data, .sentinel, .sentinel] true (true, "cedc07671df28a9db4192050b691ba4c2a19f249450183cf68b718be69a18ff2") true
    rowProved (fun _ h => by cases h) (by kernel_rfl) (fun _ h => by cases h) fnNetAll_row_tie rfl ⟨rfl, rfl⟩ (by kernel_rfl) rfl
    (fun f fn hf hfn => by
      obtain rfl : f = 5 := Option.some.inj ((show Tryd.prog.funcNamed "loop.example/cotterpin/laws.FnNetAll" = some 5 by kernel_rfl).symm.trans hf) |>.symm
      obtain rfl : fn = Tryd.f5 := (Option.some.inj (Tryd.func5.symm.trans hfn)).symm
      exact ⟨by kernel_rfl, fun j t ht => by
        rw [Tryd.params5] at ht
        have hm : t ∈ [22] := by simpa using Array.mem_of_getElem? ht
        have hall : ([22].all fun u => !Tryd.prog.wantsStandIn u) = true := by kernel_rfl
        exact (show Tryd.prog.wantsStandIn t = false by simpa using List.all_eq_true.1 hall t hm)⟩)
    (by kernel_rfl)
end Go.Proofs.YtiknnebeaigkfaaDoor.fnNetAll
