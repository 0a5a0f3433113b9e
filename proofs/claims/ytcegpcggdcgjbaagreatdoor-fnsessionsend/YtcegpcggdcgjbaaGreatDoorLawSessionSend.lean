/- FnSessionSend: What is sent comes: of every draw of lines, behind which how frames are written is set anew and a frame is sent, the bytes that are told for the frame, fed again, tell the frame. For every input; the listed tables, errors and names of events are as start-up lays them (tied). No other condition. -/
import Derived.Test.YtcegpcggdcgjbaaGreatDoorKitA
import Derived.Test.YtcegpcggdcgjbaaGreatDoorCards
import Derived.Test.YtcegpcggdcgjbaaGreatDoorTie
import Derived.SevenTiedAt
import Derived.Test.YtcegpcggdcgjbaaGreatDoorSesE
import Derived.Test.YtcegpcggdcgjbaaGreatDoorSesI
import Derived.Test.YtcegpcggdcgjbaaGreatDoorSesJ
namespace Go.Proofs.YtcegpcggdcgjbaaGreatDoor.fnSessionSend
open Go.ChangeShapes Go.WideShapes Go.ChangeAt Go.RowKit Go.WideElems
open Go.ChangeMaps (open_string shut_string)
set_option linter.unusedVariables false
def cf0 : Cf := ⟨2, 2, 12, 0⟩
def st0 : St := ⟨cf0, ⟨[], false⟩⟩
def fr0 : List UInt8 := sendA cf0 [1, 0]
theorem set_line (s : St) : lineS s [115, 101, 116, 32, 99, 111, 98, 115, 32, 50, 32, 49, 50, 32, 48] = (st0, aOk) := by
  have hw : wordsL [115, 101, 116, 32, 99, 111, 98, 115, 32, 50, 32, 49, 50, 32, 48] = [wSet, wCobs, [50], [49, 50], [48]] := by decide +kernel
  have hc : confW wCobs [50] [49, 50] [48] = cf0 := by kernel_rfl
  unfold lineS
  rw [hw]
  show (if wSet = wSet then setS s (confW wCobs [50] [49, 50] [48]) else (s, aWhat)) = _
  rw [if_pos rfl, hc]
  unfold setS
  rw [if_pos (by decide)]
  rfl
theorem fr0_val : fr0.length ≤ 40 ∧ 1 ≤ fr0.length := by decide +kernel
theorem send_line : lineS st0 [115, 101, 110, 100, 32, 48, 49, 48, 48] = (st0, putH fr0) := by kernel_rfl
theorem fed0 : ffeed cf0 ⟨[], false⟩ fr0 = (⟨[], false⟩, [⟨1, [1, 0]⟩]) := by kernel_rfl
theorem feed_line0 : lineS st0 (wFeed ++ 32 :: putH fr0) = (st0, [102, 114, 97, 109, 101, 32, 48, 49, 48, 48, 44]) := by
  have hw := (feed_line fr0_val.1).2
  have hg := getH_putH fr0_val.1
  unfold lineS
  rw [hw]
  show (if getHOk (putH fr0) = true then twoS st0 wFeed (getH (putH fr0)) else (st0, aWhat)) = _
  rw [if_pos hg.1, hg.2]
  unfold twoS
  rw [if_neg (by decide), if_pos rfl]
  unfold feedS
  rw [if_pos (by decide)]
  show ((⟨cf0, (ffeed cf0 ⟨[], false⟩ fr0).1⟩ : St), evsB (ffeed cf0 ⟨[], false⟩ fr0).2) = _
  rw [fed0]
  kernel_rfl
theorem more_told (ls : List (List UInt8)) : (sessS (ls ++ [[115, 101, 116, 32, 99, 111, 98, 115, 32, 50, 32, 49, 50, 32, 48], [115, 101, 110, 100, 32, 48, 49, 48, 48], wFeed ++ 32 :: putH fr0])).2 = (sessS ls).2 ++ [111, 107, 10] ++ putH fr0 ++ [10, 102, 114, 97, 109, 101, 32, 48, 49, 48, 48, 44, 10] := by
  rw [sessS_append]
  simp only [List.foldl_cons, List.foldl_nil]
  unfold goS
  simp only [set_line, send_line, feed_line0]
  simp [aOk]
theorem RS_three (w : World) (a b c : ByteArray) {g : Nat} (hg : w.heap.size = g := by rfl) : RS (w.alloc (.cells #[.string a, .string b, .string c] 9)) (g + 1) (.slice (some ⟨g, 0, none⟩) 3 3) [a, b, c] := by
  subst hg
  refine ⟨some ⟨w.heap.size, 0, none⟩, 3, rfl, fun _ => ⟨⟨w.heap.size, 0, none⟩, rfl, Nat.lt_succ_self _, fun j hj => ?_⟩⟩
  rw [slit_add, cell_of_row _ _ _ _ _ _ (heap_alloc_new w _)]
  match j, hj with
  | 0, _ => rfl
  | 1, _ => rfl
  | 2, _ => rfl
set_option maxRecDepth 100000 in
set_option maxHeartbeats 1000000 in
theorem walk (a0 : Option Addr) (len0 cap0 : Nat) (z0 : List Int) (w : World) (w0 : IsRow .u8 w a0 len0 cap0 z0) (hd : SesIs w) :
    Calls Tryz.prog 4 #[.slice a0 len0 cap0] w fun e w' => e = .returned (.bool true) ∧ Below w.heap.size w w' := by
  have HD := Lib.hid hd
  clear hd
  by_cases hbig0 : 1048576 < len0
  · go_enter Tryz.func4, Tryz.ntmps4
    go_wp2
    go_ret
    exact ⟨rfl, Below.refl _ _⟩
  have HH := Lib.hid w0
  clear w0
  obtain ⟨i0, hi, hz0, hz1, hz2⟩ := info_parts info_str
  have HI := Lib.hid hi
  have HZ0 := Lib.hid hz0
  have HZ1 := Lib.hid hz1
  have HZ2 := Lib.hid hz2
  clear hi hz0 hz1 hz2
  have hzc := zero_confS
  go_enter Tryz.func4, Tryz.ntmps4
  go_wp2_with fail
  refine (drawSession_any a0 len0 cap0 z0 HH.out).mono ?_
  rintro e x1 ⟨r, cap, ss, rfl, ho1, hl1, hl20, hok, hb1⟩
  have HB1 := Lib.hid hb1
  have HO1 := Lib.hid ho1
  have HOK := Lib.hid hok
  have HS1 := Lib.hid (HD.out.from hb1)
  have hcap := ho1.cap_le
  have hsl := sessS_len (toks ss)
  have htl : (toks ss).length ≤ 20 := by unfold toks; rw [List.length_map]; exact hl20
  clear ho1 hb1 hok
  obtain ⟨S, hS, hSd, hSs⟩ := text_of (sessS (toks ss)).2
  have hSz : S.size ≤ 100000 := by omega
  have HS := Lib.hid hS
  have HSd := Lib.hid hSd
  clear hS hSd hSs hsl htl
  go_wp2_with fail
  refine (implSession_any ss r cap _ _ HS1.out HO1.out (by omega) HOK.out).mono ?_
  rintro e x2 ⟨rfl, hb2⟩
  rw [HS.out]
  have HO2 := Lib.hid (HO1.out.below hb2)
  have HB2 := Lib.hid (HB1.out.trans (hb2.mono HB1.out.size))
  have HS2 := Lib.hid (HS1.out.from hb2)
  clear hb2
  go_wp2_with fail
  refine (specSession_any ss r cap _ _ HO2.out (by omega) HOK.out).mono ?_
  rintro e x3 ⟨rfl, hb3⟩
  rw [HS.out]
  have HO3 := Lib.hid (HO2.out.below hb3)
  have HB3 := Lib.hid (HB2.out.trans (hb3.mono HB2.out.size))
  have HS3 := Lib.hid (HS2.out.from hb3)
  clear hb3
  obtain ⟨F, hF, hFd, hFs⟩ := text_of fr0
  have HF := Lib.hid (show (⟨(sendA ⟨2, 2, 12, 0⟩ (⟨#[1, 0]⟩ : ByteArray).data.toList).toArray⟩ : ByteArray) = F from hF)
  have HFd := Lib.hid hFd
  obtain ⟨T, hT, hTd, hTs⟩ := text_of (putH F.data.toList)
  have HT := Lib.hid hT
  have HTd := Lib.hid (show T.data.toList = putH fr0 by rw [hTd, hFd])
  have hTz : T.size ≤ 80 := by rw [hTs]; exact putH_len _
  have HFS := Lib.hid (fun u => implFindSend_any 2 2 12 0 ⟨#[1, 0]⟩ u (by decide) (by decide))
  clear hF hFd hFs hT hTd hTs
  have hn34 : ¬ (34 : Int) ≤ (ss.length : Int) := by omega
  go_wp2_with fail
  refine (HFS.out _).mono ?_
  rintro e x4 ⟨rfl, hb4⟩
  rw [HF.out]
  have HO4 := Lib.hid (HO3.out.below hb4)
  have HB4 := Lib.hid (HB3.out.trans (hb4.mono HB3.out.size))
  have HS4 := Lib.hid (HS3.out.from hb4)
  clear hb4
  go_wp2_with fail
  refine (implHexPut_any F _).mono ?_
  rintro e x5 ⟨rfl, hb5⟩
  rw [HT.out]
  have HO5 := Lib.hid (HO4.out.below hb5)
  have HB5 := Lib.hid (HB4.out.trans (hb5.mono HB4.out.size))
  have HS5 := Lib.hid (HS4.out.from hb5)
  have hx5 : w.heap.size ≤ x5.heap.size := HB5.out.size
  clear hb5 hn34
  obtain ⟨C, hCd, hCs, hCe, hcC⟩ := cat_any ⟨#[102, 101, 101, 100, 32]⟩ T (by have : (⟨#[102, 101, 101, 100, 32]⟩ : ByteArray).size = 5 := rfl; omega)
  have HCd := Lib.hid (show C.data.toList = wFeed ++ 32 :: putH fr0 by rw [hCd, HTd.out]; rfl)
  have HCOK := Lib.hid (show lineOk C.data.toList by rw [HCd.out]; exact (feed_line fr0_val.1).1)
  obtain ⟨D1, hD1d, hD1s, hD1e, hcD1⟩ := cat_any S ⟨#[111, 107, 10]⟩ (by have : (⟨#[111, 107, 10]⟩ : ByteArray).size = 3 := rfl; omega)
  have hD1z : D1.size ≤ 100010 := by have : (⟨#[111, 107, 10]⟩ : ByteArray).size = 3 := rfl; omega
  obtain ⟨D2, hD2d, hD2s, hD2e, hcD2⟩ := cat_any D1 T (by omega)
  have hD2z : D2.size ≤ 100100 := by omega
  obtain ⟨D3, hD3d, hD3s, hD3e, hcD3⟩ := cat_any D2 ⟨#[10, 102, 114, 97, 109, 101, 32, 48, 49, 48, 48, 44, 10]⟩ (by have : (⟨#[10, 102, 114, 97, 109, 101, 32, 48, 49, 48, 48, 44, 10]⟩ : ByteArray).size = 13 := rfl; omega)
  have HD3 := Lib.hid (show D3.data.toList = (sessS (toks ss)).2 ++ [111, 107, 10] ++ putH fr0 ++ [10, 102, 114, 97, 109, 101, 32, 48, 49, 48, 48, 44, 10] by rw [hD3d, hD2d, hD1d, HSd.out, HTd.out])
  clear hCd hCs hCe hD1d hD1s hD1e hD2d hD2s hD2e hD3d hD3s hD3e
  go_wp2_with (first
    | (at_builtin; refine wpList_append_os _ rfl _ _ 23 rfl x5.heap.size i0 Tryz.underlying23 HI.out HZ0.out HZ1.out HZ2.out _ ss rfl (HO6.out.alloc _) _ _ [⟨#[115, 101, 116, 32, 99, 111, 98, 115, 32, 50, 32, 49, 50, 32, 48]⟩, ⟨#[115, 101, 110, 100, 32, 48, 49, 48, 48]⟩, C] rfl (RS_three w6 ⟨#[115, 101, 116, 32, 99, 111, 98, 115, 32, 50, 32, 49, 50, 32, 48]⟩ ⟨#[115, 101, 110, 100, 32, 48, 49, 48, 48]⟩ C) (by simp; omega) (by have := HB6.out.size; simp; omega) ?_; intro v7 w7 ho7 hg7 _; have HB7 := Lib.hid ((HB6.out.alloc HB6.out.size (.cells #[.string ⟨#[115, 101, 116, 32, 99, 111, 98, 115, 32, 50, 32, 49, 50, 32, 48]⟩, .string ⟨#[115, 101, 110, 100, 32, 48, 49, 48, 48]⟩, .string C] 9)).grown hg7 (by have := HB6.out.size; simp; omega) (fun j e => (HO6.out.low j e).1)); have HO7 := Lib.hid ho7; clear ho7 hg7)
    | (at_builtin; refine wpList_append_os _ rfl _ _ 23 rfl x5.heap.size i0 Tryz.underlying23 HI.out HZ0.out HZ1.out HZ2.out _ [] rfl (OS_made x5 rfl (Nat.le_refl _)) _ _ ss rfl (HO5.out.reads.below ((Below.refl _ _).alloc (Nat.le_refl _) _)) (by simp; omega) (by simp) ?_; intro v6 w6 ho6 hg6 _; rw [List.nil_append] at ho6; have HO6 := Lib.hid ho6; have HB6 := Lib.hid (((Below.refl x5.heap.size x5).alloc (Nat.le_refl _) (.cells #[] 9)).grown hg6 (by simp) (fun j e => ((OS_made x5 rfl (Nat.le_refl _)).low j e).1)); clear ho6 hg6))
  obtain ⟨r7, cap7, hv, _, _⟩ := HO7.out.pos (by simp)
  subst hv
  have HDE := Lib.hid (show (⟨(sessS (toks (ss ++ [⟨#[115, 101, 116, 32, 99, 111, 98, 115, 32, 50, 32, 49, 50, 32, 48]⟩, ⟨#[115, 101, 110, 100, 32, 48, 49, 48, 48]⟩, C]))).2.toArray⟩ : ByteArray) = D3 by
    rw [← Lib.mk_data D3, HD3.out]
    have e : toks (ss ++ [⟨#[115, 101, 116, 32, 99, 111, 98, 115, 32, 50, 32, 49, 50, 32, 48]⟩, ⟨#[115, 101, 110, 100, 32, 48, 49, 48, 48]⟩, C]) = toks ss ++ [[115, 101, 116, 32, 99, 111, 98, 115, 32, 50, 32, 49, 50, 32, 48], [115, 101, 110, 100, 32, 48, 49, 48, 48], wFeed ++ 32 :: putH fr0] := by
      unfold toks
      rw [List.map_append]
      simp [HCd.out]
    rw [e, more_told])
  refine (implSession_any (ss ++ [⟨#[115, 101, 116, 32, 99, 111, 98, 115, 32, 50, 32, 49, 50, 32, 48]⟩, ⟨#[115, 101, 110, 100, 32, 48, 49, 48, 48]⟩, C]) r7 cap7 _ _ (HS5.out.from HB7.out) HO7.out (by simp; omega) (fun t ht => ?_)).mono ?_
  · simp only [List.mem_append, List.mem_cons, List.not_mem_nil, or_false] at ht
    rcases ht with ht | rfl | rfl | rfl
    · exact HOK.out t ht
    · show lineOk [115, 101, 116, 32, 99, 111, 98, 115, 32, 50, 32, 49, 50, 32, 48]; decide +kernel
    · show lineOk [115, 101, 110, 100, 32, 48, 49, 48, 48]; decide +kernel
    · exact HCOK.out
  rintro e x8 ⟨rfl, hb8⟩
  rw [HDE.out]
  have HB8 := Lib.hid (HB5.out.trans ((HB7.out.trans (hb8.mono HB7.out.size)).mono HB5.out.size))
  clear hb8
  go_wp2
  go_ret
  exact ⟨rfl, HB8.out⟩
theorem own : ownKnob Tryz.prog.godebug = none := by kernel_rfl
theorem laidOut : laidOutB Tryz.prog = true := by kernel_rfl
theorem varsOk : varsRowed Tryz.prog ["loop.example/cotterpin/impl.eventNames"] = true := by kernel_rfl
set_option maxRecDepth 100000 in
theorem lifted (os : Os) (started : os.Started) (H : Type) (enc : TypeId × Value → H) :
    ReturnsInHanded {} Tryz.checked os 4 .any (fun w args => (Rows.fnSessionSendSpec.pre enc Tryz.prog Tryz.f4 Rows.fnSessionSendRow.domain false w args ∧ laidMetH Tryz.prog laidSes w) ∧ sizedMet enc Tryz.prog Tryz.f4 (OpenSpec.ofChange Rows.fnSessionSendSpec) false w args) (Rows.fnSessionSendSpec.post enc Tryz.prog Tryz.f4 false true false false) := by
  refine returnsInHanded_of_change_and (C := Tryz.checked) (X := fun w _ => laidMetH Tryz.prog laidSes w) (fun _ _ _ hh h => h.of_heap hh) own started (by kernel_rfl) Tryz.func4
    (ChangeSpec.witness_shaped (enc := enc) (C := Tryz.checked) (os := os) (X := fun w _ => laidMetH Tryz.prog laidSes w) false (World.laidAll Tryz.prog os laidSes) #[.slice none 0 0] 8 (World.laidAll_os _ _ _) (World.shaped_of_ZipB (by kernel_rfl) (by kernel_rfl)) (by kernel_rfl) (by kernel_rfl) (by kernel_rfl) (door_met os _)) ?_
  intro W base args ds gs before hval0 hW hcnd _ hL _
  have hval : ∀ (j : Nat) t v, Tryz.f4.params[j]? = some t → args[j]? = some v → Value.okWide Tryz.prog W .any base t v := hval0
  have hW' := hW
  obtain ⟨p, q, hA0, hV, rfl, hfz, hnd⟩ := hW
  have hA : DataW.TrodAll enc Tryz.prog W 0 (fun _ => true) true Tryz.f4.params.toList args.toList ds p := hA0
  rw [Tryz.params4] at hA hval
  obtain ⟨v0, vs0, d0, ds0, p0, q0, hargs, rfl, rfl, h0, r0⟩ := trodAll_cons hA
  obtain ⟨rfl, rfl, rfl⟩ := trodAll_nil r0
  obtain rfl : args = #[v0] := by cases args; simp_all
  obtain ⟨a0, len0, cap0, rfl⟩ := okWide_slice Tryz.underlying22 (hval 0 22 v0 rfl rfl)
  have k0 := h0
  have lt0 : ∀ x ∈ p0, x.block < W.heap.size := by obtain ⟨m, hm⟩ := k0; exact DataW.trod_lt m _ _ _ hm
  obtain ⟨z0, w0⟩ : ∃ zs, IsRow .u8 W a0 len0 cap0 zs := by
    obtain ⟨fuel, hf⟩ := h0
    rcases open_ints Tryz.underlying22 Tryz.underlying5 (by kernel_rfl) hf with ⟨hcs, _⟩ | ⟨x, l, c, zs, hcs, _, hl, hm, hz, _, hcell, hwz⟩
    · simp [Value.cells] at hcs
      obtain ⟨rfl, rfl, rfl⟩ := hcs
      exact ⟨[], .inl ⟨rfl, rfl, rfl, rfl⟩⟩
    · simp [Value.cells] at hcs
      obtain ⟨rfl, rfl, rfl⟩ := hcs
      exact ⟨zs, .inr ⟨_, rfl, hl, hm, by simpa using hz, hcell, hwz⟩⟩
  have hV2 := hV
  obtain ⟨_, _, _, _, g1, _, rfl, _⟩ := trodVars_one hV
  clear hA0 hval0
  refine (walk a0 len0 cap0 z0 W w0 (ses_gives hL)).mono fun e W' ⟨he, bel⟩ => ?_
  subst he
  exact ⟨_, rfl, _, _, _, [], _, _, hW', trodAll_mk1 (shut_bool Tryz.underlying4 _), (trodAll_cons_mk (Below.trod laidOut (by kernel_rfl) (of_decide_eq_true (by kernel_rfl)) k0 bel lt0) trodAll_mk0), Below.trodVars laidOut bel varsOk hV2, bel.frame _, fun h => by cases h⟩
theorem over : Rows.fnSessionSendRow.holds Tryz.pinned (OpenSpec.ofChange Rows.fnSessionSendSpec) :=
  OpenClaim.holds_of_wide 4 Tryz.f4 rfl rfl rfl rfl rfl rfl rfl ⟨rfl, rfl, rfl, rfl, rfl⟩ rfl rfl rfl rfl rfl (by kernel_rfl) Tryz.func4 (by kernel_rfl)
    (of_decide_eq_true (by kernel_rfl)) (by unfold Func.isWrapper; first | (rw [if_pos (by decide +kernel)]; kernel_rfl) | (rw [if_neg (by decide +kernel)]; exact ⟨rfl, rfl⟩))
    (fun os started H enc _ => lifted os started H enc)
theorem rowProved : Rows.FnSessionSendSaid := over
theorem proved : Rows.FnSessionSendCardSaid :=
  Claim7.holds_tied_plain_at .later [] [.data, .data, .data, .data, .sentinel, .sentinel, .data, .pinned] true (true, "2914f295d644a3e83aacc0a028aa2550eebbeb1127d283d77db4f9248c873dd6") true
    rowProved (fun _ h => by cases h) (by kernel_rfl) (fun _ h => by cases h) fnSessionSend_row_tie rfl ⟨rfl, rfl⟩ (by kernel_rfl) rfl
    (fun f fn hf hfn => by
      obtain rfl : f = 4 := Option.some.inj ((show Tryz.prog.funcNamed "loop.example/cotterpin/laws.FnSessionSend" = some 4 by kernel_rfl).symm.trans hf) |>.symm
      obtain rfl : fn = Tryz.f4 := (Option.some.inj (Tryz.func4.symm.trans hfn)).symm
      exact ⟨by kernel_rfl, fun j t ht => by
        rw [Tryz.params4] at ht
        have hm : t ∈ [22] := by simpa using Array.mem_of_getElem? ht
        have hall : ([22].all fun u => !Tryz.prog.wantsStandIn u) = true := by kernel_rfl
        exact (show Tryz.prog.wantsStandIn t = false by simpa using List.all_eq_true.1 hall t hm)⟩)
    (by kernel_rfl)
end Go.Proofs.YtcegpcggdcgjbaaGreatDoor.fnSessionSend
