/- FnLessGet: What is read from blocks the last of which may be short is read again from how it is written, and written in no more; what blocks alone tell it tells, too. For every code (the law draws the bytes from it). No condition. -/
import Derived.Test.YtiemoddaleemhaaKitA
import Derived.Test.YtiemoddaleemhaaCobV
import Derived.Test.YtiemoddaleemhaaDrawCobG
namespace Go.Proofs.Ytiemoddaleemhaa.fnLessGet
open Go.ChangeShapes Go.WideShapes Go.ChangeAt Go.RowKit
open Go.ChangeMaps (open_string shut_string)
set_option linter.unusedVariables false
set_option maxRecDepth 100000 in
set_option maxHeartbeats 8000000 in
theorem walk (a0 : Option Addr) (len0 cap0 : Nat) (z0 : List Int) (w : World) (w0 : IsRow .u8 w a0 len0 cap0 z0) :
    Calls Try.prog 7 #[.slice a0 len0 cap0] w fun e w' => e = .returned (.bool true) ∧ Below w.heap.size w w' := by
  by_cases hbig : 1048576 < len0
  · go_enter Try.func7, Try.ntmps7
    go_wp2
    go_ret
    exact ⟨rfl, Below.refl _ _⟩
  have HH := Lib.hid w0
  clear w0
  go_enter Try.func7, Try.ntmps7
  go_wp2_with fail
  refine (drawLessGet_any a0 len0 cap0 z0 HH.out).mono ?_
  rintro e w1 ⟨t, rfl, hts, hb⟩
  have HB1 := Lib.hid hb
  clear hb
  have HTL := Lib.hid (size_list t)
  obtain ⟨S, hS⟩ : ∃ S : ByteArray, S = ⟨(lgetA t.data.toList).1.toArray⟩ := ⟨_, rfl⟩
  have HSL := Lib.hid (show S.data.toList = (lgetA t.data.toList).1 by rw [hS])
  have HS := Lib.hid hS
  obtain ⟨b, hb⟩ : ∃ b : Bool, b = (lgetA t.data.toList).2 := ⟨_, rfl⟩
  have HBb := Lib.hid hb
  clear hS hb
  go_wp2_with fail
  refine (implLessGet_any t _).mono ?_
  rintro e w2 ⟨rfl, hb⟩
  have HB2 := Lib.hid (HB1.out.trans (hb.mono HB1.out.size))
  clear hb
  rw [← HS.out, ← HBb.out]
  go_wp2_with fail
  refine (specLessGet_any t _).mono ?_
  rintro e w3 ⟨rfl, hb⟩
  have HB3 := Lib.hid (HB2.out.trans (hb.mono HB2.out.size))
  clear hb
  rw [← HS.out, ← HBb.out]
  cases b with
  | false =>
    go_wp2
    go_ret
    exact ⟨by simp, HB3.out⟩
  | true =>
    by_cases hbg : 600 < S.size
    · go_wp2
      go_ret
      exact ⟨by simp, HB3.out⟩
    · have hg : okG t.data.toList = true := by
        have h := HBb.out
        rw [lgetA] at h
        split at h
        · rename_i h1; exact h1
        · simp at h
      obtain ⟨g1, g2, g3⟩ := okG_yes hg
      have hSt : S.data.toList = txt t.data.toList ++ (rdB t.data.toList).2.drop 1 ++ (rdB t.data.toList).2.take 1 := by rw [HSL.out, lgetA, if_pos hg]
      have c2 := less_again g3 (by intro e; rw [e] at g1; exact g1 rfl)
      rw [← hSt, HTL.out] at c2
      have HCA := Lib.hid (show lessA S.data.toList = less S.data.toList by rw [lessA, if_pos (by rw [size_list]; omega)])
      obtain ⟨X, hX⟩ : ∃ X : ByteArray, X = ⟨(lessA S.data.toList).toArray⟩ := ⟨_, rfl⟩
      have HXL := Lib.hid (show X.data.toList = less S.data.toList by rw [hX]; exact HCA.out)
      have HX := Lib.hid hX
      have hXs : X.size ≤ t.size := by rw [← size_list X, HXL.out]; exact c2
      have HG := Lib.hid (show lgetA X.data.toList = (S.data.toList, true) by rw [HXL.out]; exact lgetA_less (by rw [size_list]; omega))
      have HCG := Lib.hid (show (getA t.data.toList).2 = true → (⟨(getA t.data.toList).1.toArray⟩ : ByteArray) = S by
        intro h
        have h1 : (rdB t.data.toList).2 = [] := by
          rw [getA] at h
          split at h
          · rename_i h2; exact h2.2
          · simp at h
        rw [getA, if_pos ⟨hg, h1⟩, ← Lib.mk_data S, hSt, h1]
        simp)
      clear hX hg g1 g2 g3 hSt c2
      go_wp2_with fail
      refine (implLess_any S _).mono ?_
      rintro e w4 ⟨rfl, hb⟩
      have HB4 := Lib.hid (HB3.out.trans (hb.mono HB3.out.size))
      clear hb
      rw [← HX.out]
      go_wp2_with fail
      refine (implLessGet_any X _).mono ?_
      rintro e w5 ⟨rfl, hb⟩
      have HB5 := Lib.hid (HB4.out.trans (hb.mono HB4.out.size))
      clear hb
      rw [HG.out, Lib.mk_data]
      go_wp2_with fail
      refine (implCobsGet_any t _).mono ?_
      rintro e w6 ⟨rfl, hb⟩
      have HB6 := Lib.hid (HB5.out.trans (hb.mono HB5.out.size))
      clear hb
      cases hgb : (getA t.data.toList).2 with
      | false =>
        generalize (⟨(getA t.data.toList).1.toArray⟩ : ByteArray) = Z at *
        go_wp2_with fail
        refine (implLess_any S _).mono ?_
        rintro e w7 ⟨rfl, hb⟩
        have HB7 := Lib.hid (HB6.out.trans (hb.mono HB6.out.size))
        clear hb
        rw [← HX.out]
        go_wp2
        go_ret
        refine ⟨?_, HB7.out⟩
        simp
      | true =>
        rw [HCG.out hgb]
        go_wp2_with fail
        refine (implLess_any S _).mono ?_
        rintro e w7 ⟨rfl, hb⟩
        have HB7 := Lib.hid (HB6.out.trans (hb.mono HB6.out.size))
        clear hb
        rw [← HX.out]
        go_wp2
        go_ret
        refine ⟨?_, HB7.out⟩
        simp
theorem own : ownKnob Try.prog.godebug = none := by kernel_rfl
theorem laidOut : laidOutB Try.prog = true := by kernel_rfl
set_option maxRecDepth 100000 in
theorem lifted (os : Os) (started : os.Started) (H : Type) (enc : TypeId × Value → H) :
    ReturnsInHanded {} Try.checked os 7 .any (Rows.fnLessGetSpec.pre6 enc Try.prog Try.f7 Rows.fnLessGetRow.domain false) (Rows.fnLessGetSpec.post enc Try.prog Try.f7 false true false false) := by
  refine returnsInHanded_of_change (C := Try.checked) own started (by kernel_rfl) Try.func7
    (ChangeSpec.witness6 (enc := enc) (C := Try.checked) false ⟨#[], #[.slice none 0 0], []⟩ 8 (by kernel_rfl) (by kernel_rfl) (by kernel_rfl) (by kernel_rfl)) ?_
  intro W base args ds gs before hval0 hW hcnd _
  have hval : ∀ (j : Nat) t v, Try.f7.params[j]? = some t → args[j]? = some v → Value.okWide Try.prog W .any base t v := hval0
  have hW' := hW
  obtain ⟨p, q, hA0, hV, rfl, hfz, hnd⟩ := hW
  have hA : DataW.TrodAll enc Try.prog W 0 (fun _ => true) true Try.f7.params.toList args.toList ds p := hA0
  rw [Try.params7] at hA hval
  obtain ⟨v0, vs0, d0, ds0, p0, q0, hargs, rfl, rfl, h0, r0⟩ := trodAll_cons hA
  obtain ⟨rfl, rfl, rfl⟩ := trodAll_nil r0
  obtain rfl : args = #[v0] := by cases args; simp_all
  obtain ⟨rfl, rfl⟩ := trodVars_none hV
  obtain ⟨a0, len0, cap0, rfl⟩ := okWide_slice Try.underlying22 (hval 0 22 v0 rfl rfl)
  have k0 := h0
  have lt0 : ∀ x ∈ p0, x.block < W.heap.size := by obtain ⟨m, hm⟩ := k0; exact DataW.trod_lt m _ _ _ hm
  obtain ⟨z0, w0⟩ : ∃ zs, IsRow .u8 W a0 len0 cap0 zs := by
    obtain ⟨fuel, hf⟩ := h0
    rcases open_ints Try.underlying22 Try.underlying5 (by kernel_rfl) hf with ⟨hcs, _⟩ | ⟨x, l, c, zs, hcs, _, hl, hm, hz, _, hcell, hwz⟩
    · simp [Value.cells] at hcs
      obtain ⟨rfl, rfl, rfl⟩ := hcs
      exact ⟨[], .inl ⟨rfl, rfl, rfl, rfl⟩⟩
    · simp [Value.cells] at hcs
      obtain ⟨rfl, rfl, rfl⟩ := hcs
      exact ⟨zs, .inr ⟨_, rfl, hl, hm, by simpa using hz, hcell, hwz⟩⟩
  clear hA0 hval0
  refine (walk a0 len0 cap0 z0 W w0).mono fun e W' ⟨he, bel⟩ => ?_
  subst he
  exact ⟨_, rfl, _, _, _, [], _, [], hW', trodAll_mk1 (shut_bool Try.underlying4 _), (trodAll_cons_mk (Below.trod laidOut (by kernel_rfl) (of_decide_eq_true (by kernel_rfl)) k0 bel lt0) trodAll_mk0), rfl, bel.frame _, fun h => by cases h⟩
theorem over : Rows.fnLessGetRow.holds Try.pinned (OpenSpec.ofChange Rows.fnLessGetSpec) :=
  OpenClaim.holds_of_wide 7 Try.f7 rfl rfl rfl rfl rfl rfl rfl ⟨rfl, rfl, rfl, rfl, rfl⟩ rfl rfl rfl rfl rfl (by kernel_rfl) Try.func7 (by kernel_rfl)
    (of_decide_eq_true (by kernel_rfl)) (by unfold Func.isWrapper; first | (rw [if_pos (by decide +kernel)]; kernel_rfl) | (rw [if_neg (by decide +kernel)]; exact ⟨rfl, rfl⟩))
    (fun os started H enc _ => lifted os started H enc)
theorem proved : Rows.FnLessGetSaid := over
end Go.Proofs.Ytiemoddaleemhaa.fnLessGet
