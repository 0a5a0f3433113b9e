/- FnHamFar: How far bits are apart is the same both ways, nought just where they are the same, and no way round is shorter. For all codes (the law draws the bits from them). No condition. -/
import Derived.Test.YtjnehfbeokpgpaaKitA
import Derived.Test.YtjnehfbeokpgpaaFarS
import Derived.Test.YtjnehfbeokpgpaaDrawHm
namespace Go.Proofs.Ytjnehfbeokpgpaa.fnHamFar
open Go.ChangeShapes Go.WideShapes Go.ChangeAt Go.RowKit
open Go.ChangeMaps (open_string shut_string)
set_option linter.unusedVariables false
theorem cell_in {u : World} {p : Addr} {v : Value} (h : u.cell? p = some v) : p.block < u.heap.size := by
  unfold World.cell? at h
  cases hg : u.heap[p.block]? with
  | none => simp [hg] at h
  | some o => exact (Array.getElem?_eq_some_iff.1 hg).1
theorem isRow_below {k : IntKind} {u u' : World} {a : Option Addr} {len cap : Nat} {zs : List Int} (h : IsRow k u a len cap zs) (hb : Below u.heap.size u u') : IsRow k u' a len cap zs := by
  rcases h with h | ⟨x, h1, h2, h3, h4, h5, h6⟩
  · exact .inl h
  · exact .inr ⟨x, h1, h2, h3, h4, fun i hi => (hb.cell (cell_in (h5 i hi))).trans (h5 i hi), h6⟩
theorem farI_of {a b : List UInt8} (h : farOkB a b = true) : farI a b = (farN a b : Int) := by unfold farI; rw [if_pos h]
theorem farI_ge {a b : List UInt8} (h : 0 ≤ farI a b) : farOkB a b = true := by
  cases hk : farOkB a b with
  | true => rfl
  | false => unfold farI at h; rw [if_neg (by rw [hk]; decide)] at h; exact absurd h (by decide)
theorem farOk_len {a b : List UInt8} (h : farOkB a b = true) : a.length = b.length := by
  unfold farOkB at h
  rw [Bool.and_eq_true, decide_eq_true_iff] at h
  exact h.2
theorem farOk_comm (a b : List UInt8) : farOkB a b = farOkB b a := by
  unfold farOkB
  rw [Bool.and_comm (okB a) (okB b)]
  congr 1
  rw [decide_eq_decide]; exact eq_comm
theorem farI_comm (a b : List UInt8) : farI a b = farI b a := by unfold farI; rw [farOk_comm, far_comm]
theorem farI_le (a b : List UInt8) (h : a.length ≤ 1300) : farI a b ≤ 1300 ∧ -1 ≤ farI a b := by
  unfold farI
  have := farN_le a b
  split <;> omega
theorem tri (a b c : List UInt8) (h : farOkB a b = true) : farI a c < 0 ∨ farI c b < 0 ∨ (farN a b : Int) ≤ farI a c + farI c b := by
  by_cases h1 : farI a c < 0
  · exact .inl h1
  by_cases h2 : farI c b < 0
  · exact .inr (.inl h2)
  refine .inr (.inr ?_)
  have k1 := farI_ge (show 0 ≤ farI a c by omega)
  have k2 := farI_ge (show 0 ≤ farI c b by omega)
  rw [farI_of k1, farI_of k2]
  have := far_tri a b c (farOk_len k1) (farOk_len k2)
  omega
set_option maxRecDepth 100000 in
set_option maxHeartbeats 8000000 in
theorem walk (a0 : Option Addr) (len0 cap0 : Nat) (z0 : List Int) (a1 : Option Addr) (len1 cap1 : Nat) (z1 : List Int) (w : World) (w0 : IsRow .u8 w a0 len0 cap0 z0) (w1 : IsRow .u8 w a1 len1 cap1 z1) :
    Calls Try.prog 3 #[.slice a0 len0 cap0, .slice a1 len1 cap1] w fun e w' => e = .returned (.bool true) ∧ Below w.heap.size w w' := by
  by_cases hbig : 1048576 < len0
  · go_enter Try.func3, Try.ntmps3
    go_wp2
    go_ret
    exact ⟨rfl, Below.refl _ _⟩
  by_cases hbig1 : 1048576 < len1
  · go_enter Try.func3, Try.ntmps3
    go_wp2
    go_ret
    exact ⟨rfl, Below.refl _ _⟩
  have HH := Lib.hid w0
  have HH1 := Lib.hid w1
  clear w0 w1
  go_enter Try.func3, Try.ntmps3
  go_wp2_with fail
  refine (drawHamFar_any a0 len0 cap0 z0 HH.out).mono ?_
  rintro e w1 ⟨s, t, rfl, hs, ht, hb1⟩
  have HB1 := Lib.hid hb1
  clear hb1
  have hmaxs : s.size ≤ maxLen := by unfold maxLen; omega
  have hmaxt : t.size ≤ maxLen := by unfold maxLen; omega
  cases hk : farOkB s.data.toList t.data.toList with
  | false =>
    have HK := Lib.hid hk
    clear hk
    go_wp2_with fail
    refine (implFar_no s t _ hmaxs hmaxt HK.out).mono ?_
    rintro e w' ⟨rfl, rfl⟩
    go_wp2_with fail
    refine (specFar_no s t _ hmaxs hmaxt HK.out).mono ?_
    rintro e w' ⟨rfl, rfl⟩
    go_wp2_with fail
    refine (specFar_no s t _ hmaxs hmaxt HK.out).mono ?_
    rintro e w' ⟨rfl, rfl⟩
    go_wp2
    go_ret
    exact ⟨rfl, HB1.out⟩
  | true =>
    have HK := Lib.hid hk
    obtain ⟨_, _, hst⟩ := farOk_parts hk
    have hle := farN_le s.data.toList t.data.toList
    rw [size_list] at hle
    have HZ := Lib.hid (far_zero s.data.toList t.data.toList (farOk_len hk))
    have HC := Lib.hid (show farI t.data.toList s.data.toList = (farN s.data.toList t.data.toList : Int) by rw [farI_comm, farI_of hk])
    have HST := Lib.hid hst
    clear hk hst
    go_wp2_with fail
    refine (implFar_yes s t _ HK.out).mono ?_
    rintro e w2 ⟨rfl, hb2⟩
    have HB2 := Lib.hid (HB1.out.trans (hb2.mono HB1.out.size))
    clear hb2
    go_wp2_with fail
    refine (specFar_yes s t _ HK.out).mono ?_
    rintro e w3 ⟨rfl, hb3⟩
    have HB3 := Lib.hid (HB2.out.trans (hb3.mono HB2.out.size))
    clear hb3
    -- the third text, cut to the first one's length
    have HTRI := Lib.hid (fun c => tri s.data.toList t.data.toList c HK.out)
    obtain ⟨F, hF⟩ : ∃ F, farN s.data.toList t.data.toList = F := ⟨_, rfl⟩
    rw [hF] at hle HZ HC HTRI ⊢
    clear hF
    go_wp2_with fail
    refine (drawHamFar_any a1 len1 cap1 z1 (isRow_below HH1.out HB3.out)).mono ?_
    rintro e w4 ⟨c, c2, rfl, hc, hc2, hb4⟩
    have HB4 := Lib.hid (HB3.out.trans (hb4.mono HB3.out.size))
    clear hb4
    by_cases hlong : s.size < c.size
    all_goals
      first
        | (have hls : (s.size : Int) ≤ (c.size : Int) := by omega
           have hsl : ∀ u : World, (Instr.slice 9 (.string c) none (some (.int .i64 (s.size : Int))) none).run Try.prog u = .ok (.string (c.extract 0 s.size)) u := fun u => by
             rw [run_slice_string_to_if u 9 c .i64 (s.size : Int) Try.underlying9]
             simp [hls]
           obtain ⟨D, hD⟩ : ∃ D : ByteArray, c.extract 0 s.size = D := ⟨_, rfl⟩
           have hDs : D.size ≤ 1205 := by rw [← hD, ByteArray.size_extract]; omega
           have HD := Lib.hid hD
           clear hD
           have hgt : decide ((c.size : Int) > (s.size : Int)) = true := decide_eq_true (by omega)
           have hlt : decide ((s.size : Int) < (c.size : Int)) = true := decide_eq_true (by omega)
           have hlt2 : (s.size : Int) < (c.size : Int) := by omega
           go_wp2_with fail
           rw [HD.out])
        | (obtain ⟨D, hD⟩ : ∃ D : ByteArray, D = c := ⟨_, rfl⟩
           subst hD
           have hDs := hc
           go_wp2_with fail)
    all_goals
      have hmaxD : D.size ≤ maxLen := by unfold maxLen; omega
      refine (implFar_any s D _ hmaxs hmaxD).mono ?_
      rintro e w5 ⟨rfl, hb5⟩
      have HB5 := Lib.hid (HB4.out.trans (hb5.mono HB4.out.size))
      clear hb5
      obtain ⟨hM1, hM2⟩ := farI_le s.data.toList D.data.toList (by rw [size_list]; omega)
      have HTD := Lib.hid (HTRI.out D.data.toList)
      obtain ⟨M, hM⟩ : ∃ M, farI s.data.toList D.data.toList = M := ⟨_, rfl⟩
      rw [hM] at hM1 hM2 HTD ⊢
      clear hM
      go_wp2_with fail
      refine (implFar_any D t _ hmaxD hmaxt).mono ?_
      rintro e w6 ⟨rfl, hb6⟩
      have HB6 := Lib.hid (HB5.out.trans (hb6.mono HB5.out.size))
      clear hb6
      obtain ⟨hK1, hK2⟩ := farI_le D.data.toList t.data.toList (by rw [size_list]; omega)
      obtain ⟨K, hK⟩ : ∃ K, farI D.data.toList t.data.toList = K := ⟨_, rfl⟩
      rw [hK] at hK1 hK2 HTD ⊢
      clear hK
      go_wp2_with fail
      refine (implFar_any t s _ hmaxt hmaxs).mono ?_
      rintro e w7 ⟨rfl, hb7⟩
      have HB7 := Lib.hid (HB6.out.trans (hb7.mono HB6.out.size))
      clear hb7
      rw [HC.out]
      have hws : IntKind.i64.wrap (M + K) = M + K := wrap_in _ (by omega) (by omega)
      have hbnd : -9223372036854775808 ≤ M + K ∧ M + K ≤ 9223372036854775807 := by omega
      have hx : ∃ x : Bool, ((F : Int) == 0) = x ∧ (s.toList == t.toList) = x := by
        refine ⟨_, rfl, ?_⟩
        rw [Lib.toList_data, Lib.toList_data, Bool.eq_iff_iff, beq_iff_eq, beq_iff_eq, ← HZ.out]; omega
      obtain ⟨x, hx1, hx2⟩ := hx
      clear HZ HC HST
      cases x
      all_goals
        rcases HTD.out with h | h | h
        · have hm : decide (M < 0) = true := decide_eq_true h
          clear HTD
          go_wp2
          go_ret
          exact ⟨rfl, HB7.out⟩
        · have hm : decide (K < 0) = true := decide_eq_true h
          clear HTD
          by_cases h2 : M < 0
          · go_wp2
            go_ret
            exact ⟨rfl, HB7.out⟩
          · go_wp2
            go_ret
            exact ⟨rfl, HB7.out⟩
        · have hm : decide ((F : Int) ≤ M + K) = true := decide_eq_true h
          clear HTD
          by_cases h2 : M < 0
          · go_wp2
            go_ret
            exact ⟨rfl, HB7.out⟩
          · by_cases h3 : K < 0
            · go_wp2
              go_ret
              exact ⟨rfl, HB7.out⟩
            · go_wp2
              go_ret
              exact ⟨rfl, HB7.out⟩
theorem own : ownKnob Try.prog.godebug = none := by kernel_rfl
theorem laidOut : laidOutB Try.prog = true := by kernel_rfl
set_option maxRecDepth 100000 in
theorem lifted (os : Os) (started : os.Started) (H : Type) (enc : TypeId × Value → H) :
    ReturnsInHanded {} Try.checked os 3 .any (Rows.fnHamFarSpec.pre6 enc Try.prog Try.f3 Rows.fnHamFarRow.domain false) (Rows.fnHamFarSpec.post enc Try.prog Try.f3 false true false false) := by
  refine returnsInHanded_of_change (C := Try.checked) own started (by kernel_rfl) Try.func3
    (ChangeSpec.witness6 (enc := enc) (C := Try.checked) false ⟨#[], #[.slice none 0 0, .slice none 0 0], []⟩ 8 (by kernel_rfl) (by kernel_rfl) (by kernel_rfl) (by kernel_rfl)) ?_
  intro W base args ds gs before hval0 hW hcnd _
  have hval : ∀ (j : Nat) t v, Try.f3.params[j]? = some t → args[j]? = some v → Value.okWide Try.prog W .any base t v := hval0
  have hW' := hW
  obtain ⟨p, q, hA0, hV, rfl, hfz, hnd⟩ := hW
  have hA : DataW.TrodAll enc Try.prog W 0 (fun _ => true) true Try.f3.params.toList args.toList ds p := hA0
  rw [Try.params3] at hA hval
  obtain ⟨v0, vs0, d0, ds0, p0, q0, hargs, rfl, rfl, h0, r0⟩ := trodAll_cons hA
  obtain ⟨v1, vs1, d1, ds1, p1, q1, rfl, rfl, rfl, h1, r1⟩ := trodAll_cons r0
  obtain ⟨rfl, rfl, rfl⟩ := trodAll_nil r1
  obtain rfl : args = #[v0, v1] := by cases args; simp_all
  obtain ⟨rfl, rfl⟩ := trodVars_none hV
  obtain ⟨a0, len0, cap0, rfl⟩ := okWide_slice Try.underlying22 (hval 0 22 v0 rfl rfl)
  have k0 := h0
  have lt0 : ∀ x ∈ p0, x.block < W.heap.size := by obtain ⟨m, hm⟩ := k0; exact DataW.trod_lt m _ _ _ hm
  obtain ⟨z0, w0⟩ : ∃ zs, IsRow .u8 W a0 len0 cap0 zs := by
    obtain ⟨fuel, hf⟩ := h0
    rcases open_ints Try.underlying22 Try.underlying5 (by kernel_rfl) hf with ⟨hcs, _⟩ | ⟨x, l, c, zs, hcs, _, hl, hm, hz, _, hcell, hwz⟩
    · simp [Value.cells] at hcs
      obtain ⟨rfl, rfl, rfl⟩ := hcs
      exact ⟨[], .inl ⟨rfl, rfl, rfl, rfl⟩⟩
    · simp [Value.cells] at hcs
      obtain ⟨rfl, rfl, rfl⟩ := hcs
      exact ⟨zs, .inr ⟨_, rfl, hl, hm, by simpa using hz, hcell, hwz⟩⟩
  obtain ⟨a1, len1, cap1, rfl⟩ := okWide_slice Try.underlying22 (hval 1 22 v1 rfl rfl)
  have k1 := h1
  have lt1 : ∀ x ∈ p1, x.block < W.heap.size := by obtain ⟨m, hm⟩ := k1; exact DataW.trod_lt m _ _ _ hm
  obtain ⟨z1, w1⟩ : ∃ zs, IsRow .u8 W a1 len1 cap1 zs := by
    obtain ⟨fuel, hf⟩ := h1
    rcases open_ints Try.underlying22 Try.underlying5 (by kernel_rfl) hf with ⟨hcs, _⟩ | ⟨x, l, c, zs, hcs, _, hl, hm, hz, _, hcell, hwz⟩
    · simp [Value.cells] at hcs
      obtain ⟨rfl, rfl, rfl⟩ := hcs
      exact ⟨[], .inl ⟨rfl, rfl, rfl, rfl⟩⟩
    · simp [Value.cells] at hcs
      obtain ⟨rfl, rfl, rfl⟩ := hcs
      exact ⟨zs, .inr ⟨_, rfl, hl, hm, by simpa using hz, hcell, hwz⟩⟩
  clear hA0 hval0
  refine (walk a0 len0 cap0 z0 a1 len1 cap1 z1 W w0 w1).mono fun e W' ⟨he, bel⟩ => ?_
  subst he
  exact ⟨_, rfl, _, _, _, [], _, [], hW', trodAll_mk1 (shut_bool Try.underlying4 _), (trodAll_cons_mk (Below.trod laidOut (by kernel_rfl) (of_decide_eq_true (by kernel_rfl)) k0 bel lt0) (trodAll_cons_mk (Below.trod laidOut (by kernel_rfl) (of_decide_eq_true (by kernel_rfl)) k1 bel lt1) trodAll_mk0)), rfl, bel.frame _, fun h => by cases h⟩
theorem over : Rows.fnHamFarRow.holds Try.pinned (OpenSpec.ofChange Rows.fnHamFarSpec) :=
  OpenClaim.holds_of_wide 3 Try.f3 rfl rfl rfl rfl rfl rfl rfl ⟨rfl, rfl, rfl, rfl, rfl⟩ rfl rfl rfl rfl rfl (by kernel_rfl) Try.func3 (by kernel_rfl)
    (of_decide_eq_true (by kernel_rfl)) (by unfold Func.isWrapper; first | (rw [if_pos (by decide +kernel)]; kernel_rfl) | (rw [if_neg (by decide +kernel)]; exact ⟨rfl, rfl⟩))
    (fun os started H enc _ => lifted os started H enc)
theorem proved : Rows.FnHamFarSaid := over
end Go.Proofs.Ytjnehfbeokpgpaa.fnHamFar
