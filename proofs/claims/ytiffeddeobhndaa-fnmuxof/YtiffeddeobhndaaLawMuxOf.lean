/- FnMuxOf: What channels told is what each told: all channels together are all messages. For every code (the law draws the list and the channel from it). No condition. -/
import Derived.Test.YtiffeddeobhndaaKitA
import Derived.Test.YtiffeddeobhndaaMxO
namespace Go.Proofs.Ytiffeddeobhndaa.fnMuxOf
open Go.ChangeShapes Go.WideShapes Go.ChangeAt Go.RowKit
open Go.ChangeMaps (open_string shut_string)
set_option linter.unusedVariables false
def sumTo (l : List Ev) : Nat → Nat
  | 0 => 0
  | k + 1 => sumTo l k + (ofL l (k : Nat)).length
set_option maxRecDepth 100000 in
set_option maxHeartbeats 8000000 in
theorem walk (a0 : Option Addr) (len0 cap0 : Nat) (z0 : List Int) (w : World) (w0 : IsRow .u8 w a0 len0 cap0 z0) :
    Calls Try.prog 7 #[.slice a0 len0 cap0] w fun e w' => e = .returned (.bool true) ∧ Below w.heap.size w w' := by
  by_cases hbig : 1048576 < len0
  · go_enter Try.func7, Try.ntmps7
    go_wp2
    go_ret
    exact ⟨rfl, Below.refl _ _⟩
  have HH := Lib.hid w0
  clear w0
  go_enter Try.func7, Try.ntmps7
  go_wp2_with fail
  refine (drawMuxOf_any a0 len0 cap0 z0 HH.out).mono ?_
  rintro e w1 ⟨v, L, ch, rfl, ho, hl, hok, hb⟩
  have HB := Lib.hid hb
  have HL := Lib.hid (show OE w1 w.heap.size v L from ho)
  obtain ⟨va, vc, rfl⟩ := ho.reads.shape
  have HSUM := Lib.hid (ofL_sum L hok)
  have HOL := Lib.hid (fun c => ofL_len L c)
  have HSZ := Lib.hid (show ∀ e ∈ L, e.text.length ≤ 1048576 from fun e he => by have := (hok e he).2.2; omega)
  clear ho hb hok
  go_wp2_with fail
  refine (implMuxOf_any _ L ch _ _ _ HL.out.reads (Nat.le_refl _) (by omega) HSZ.out).mono ?_
  rintro e w2 ⟨⟨v2, rfl, ho2⟩, hb⟩
  have HO2 := Lib.hid ho2
  have HL2 := Lib.hid (HL.out.below hb)
  have HB2 := Lib.hid (HB.out.trans (hb.mono HB.out.size))
  have HSL := Lib.hid (strs_len (ofL L ch))
  obtain ⟨a2, c2, rfl⟩ := ho2.reads.shape
  clear ho2 hb
  go_wp2_with fail
  refine (specMuxOf_any _ L ch _ _ _ HL2.out.reads (Nat.le_refl _) (by omega)).mono ?_
  rintro e w3 ⟨⟨v3, rfl, ho3⟩, hb⟩
  have HO3 := Lib.hid ho3
  have HO2 := Lib.hid (HO2.out.below hb)
  have HL3 := Lib.hid (HL2.out.below hb)
  have HB3 := Lib.hid (HB2.out.trans (hb.mono HB2.out.size))
  obtain ⟨a3, c3, rfl⟩ := ho3.reads.shape
  clear ho3 hb
  go_wp2_with fail
  refine (ctTexts_same _ _ (strs (ofL L ch)) _ _ _ HO2.out.reads HO3.out.reads (Nat.le_refl _) (Nat.le_refl _) (by have := HSL.out; have := HOL.out ch; omega)).mono ?_
  rintro e w4 ⟨rfl, hb⟩
  have HL4 := Lib.hid (HL3.out.below hb)
  have HB4 := Lib.hid (HB3.out.trans (hb.mono HB3.out.size))
  have hS : (strs (ofL L ch)).length ≤ L.length := by rw [HSL.out]; exact HOL.out ch
  generalize (strs (ofL L ch)).length = nS at *
  clear hb
  go_wp2
  go_loopw [6, 7] (fun n j wr => ∃ k : Nat, k ≤ 3 ∧ j = .int .i64 k ∧ n = .int .i64 ((sumTo L k : Nat) : Int) ∧ OE wr w.heap.size (.slice va L.length vc) L ∧ Below w.heap.size w wr) (fun _ j _ => 3 - (intOf j).toNat)
  case atStart => exact ⟨0, by omega, rfl, rfl, HL4.out, HB4.out⟩
  case round =>
    obtain ⟨k, hk, rfl, rfl, hoe, hbel⟩ := hrel
    have HE := Lib.hid hoe
    have HBr := Lib.hid hbel
    clear hoe hbel
    by_cases hlt : k < 3
    · have hlti : (k : Int) < 3 := by omega
      have HST := Lib.hid (show sumTo L (k + 1) = sumTo L k + (ofL L (k : Nat)).length from rfl)
      have hsb : sumTo L k ≤ k * L.length := by
        match k, hlt with
        | 0, _ => simp [sumTo]
        | 1, _ => have := HOL.out 0; simp [sumTo]; omega
        | 2, _ => have := HOL.out 0; have := HOL.out 1; simp [sumTo]; omega
      have hsb2 : sumTo L k ≤ 600 := Nat.le_trans hsb (by have h1 : k * L.length ≤ 3 * 200 := Nat.mul_le_mul (by omega) hl; omega)
      go_wp2_with fail
      refine (implMuxOf_any _ L (k : Nat) _ _ _ HE.out.reads (Nat.le_refl _) (by omega) HSZ.out).mono ?_
      rintro e w5 ⟨⟨v5, rfl, ho5⟩, hb5⟩
      have HL5 := Lib.hid (HE.out.below hb5)
      have HB5 := Lib.hid (HBr.out.trans (hb5.mono HBr.out.size))
      have HS5 := Lib.hid (strs_len (ofL L (k : Nat)))
      have h5b : (strs (ofL L (k : Nat))).length ≤ 200 := by rw [HS5.out]; exact Nat.le_trans (HOL.out _) hl
      obtain ⟨a5, c5, rfl⟩ := ho5.reads.shape
      rw [← HS5.out] at HST
      generalize (strs (ofL L (k : Nat))).length = m5 at *
      generalize sumTo L k = sk at *
      clear ho5 hb5 hsb
      go_wp2
      go_roundw
      case rel => exact ⟨k + 1, by omega, by go_num, by rw [HST.out]; exact val_int (by omega), HL5.out, HB5.out⟩
      case measure => simp [intOf]; omega
    · obtain rfl : k = 3 := by omega
      have e3 : sumTo L 3 = L.length := by
        have := HSUM.out
        show 0 + (ofL L (0 : Int)).length + (ofL L (1 : Int)).length + (ofL L (2 : Int)).length = _
        omega
      rw [e3]
      have hle : (nS : Int) ≤ (L.length : Int) := by omega
      clear e3
      go_wp2
      go_ret
      exact ⟨by simp, HBr.out⟩
theorem own : ownKnob Try.prog.godebug = none := by kernel_rfl
theorem laidOut : laidOutB Try.prog = true := by kernel_rfl
set_option maxRecDepth 100000 in
theorem lifted (os : Os) (started : os.Started) (H : Type) (enc : TypeId × Value → H) :
    ReturnsInHanded {} Try.checked os 7 .any (Rows.fnMuxOfSpec.pre6 enc Try.prog Try.f7 Rows.fnMuxOfRow.domain false) (Rows.fnMuxOfSpec.post enc Try.prog Try.f7 false true false false) := by
  refine returnsInHanded_of_change (C := Try.checked) own started (by kernel_rfl) Try.func7
    (ChangeSpec.witness6 (enc := enc) (C := Try.checked) false ⟨#[], #[.slice none 0 0], []⟩ 8 (by kernel_rfl) (by kernel_rfl) (by kernel_rfl) (by kernel_rfl)) ?_
  intro W base args ds gs before hval0 hW hcnd _
  have hval : ∀ (j : Nat) t v, Try.f7.params[j]? = some t → args[j]? = some v → Value.okWide Try.prog W .any base t v := hval0
  have hW' := hW
  obtain ⟨p, q, hA0, hV, rfl, hfz, hnd⟩ := hW
  have hA : DataW.TrodAll enc Try.prog W 0 (fun _ => true) true Try.f7.params.toList args.toList ds p := hA0
  rw [Try.params7] at hA hval
  obtain ⟨v0, vs0, d0, ds0, p0, q0, hargs, rfl, rfl, h0, r0⟩ := trodAll_cons hA
  obtain ⟨rfl, rfl, rfl⟩ := trodAll_nil r0
  obtain rfl : args = #[v0] := by cases args; simp_all
  obtain ⟨rfl, rfl⟩ := trodVars_none hV
  obtain ⟨a0, len0, cap0, rfl⟩ := okWide_slice Try.underlying22 (hval 0 22 v0 rfl rfl)
  have k0 := h0
  have lt0 : ∀ x ∈ p0, x.block < W.heap.size := by obtain ⟨m, hm⟩ := k0; exact DataW.trod_lt m _ _ _ hm
  obtain ⟨z0, w0⟩ : ∃ zs, IsRow .u8 W a0 len0 cap0 zs := by
    obtain ⟨fuel, hf⟩ := h0
    rcases open_ints Try.underlying22 Try.underlying5 (by kernel_rfl) hf with ⟨hcs, _⟩ | ⟨x, l, c, zs, hcs, _, hl, hm, hz, _, hcell, hwz⟩
    · simp [Value.cells] at hcs
      obtain ⟨rfl, rfl, rfl⟩ := hcs
      exact ⟨[], .inl ⟨rfl, rfl, rfl, rfl⟩⟩
    · simp [Value.cells] at hcs
      obtain ⟨rfl, rfl, rfl⟩ := hcs
      exact ⟨zs, .inr ⟨_, rfl, hl, hm, by simpa using hz, hcell, hwz⟩⟩
  clear hA0 hval0
  refine (walk a0 len0 cap0 z0 W w0).mono fun e W' ⟨he, bel⟩ => ?_
  subst he
  exact ⟨_, rfl, _, _, _, [], _, [], hW', trodAll_mk1 (shut_bool Try.underlying4 _), (trodAll_cons_mk (Below.trod laidOut (by kernel_rfl) (of_decide_eq_true (by kernel_rfl)) k0 bel lt0) trodAll_mk0), rfl, bel.frame _, fun h => by cases h⟩
theorem over : Rows.fnMuxOfRow.holds Try.pinned (OpenSpec.ofChange Rows.fnMuxOfSpec) :=
  OpenClaim.holds_of_wide 7 Try.f7 rfl rfl rfl rfl rfl rfl rfl ⟨rfl, rfl, rfl, rfl, rfl⟩ rfl rfl rfl rfl rfl (by kernel_rfl) Try.func7 (by kernel_rfl)
    (of_decide_eq_true (by kernel_rfl)) (by unfold Func.isWrapper; first | (rw [if_pos (by decide +kernel)]; kernel_rfl) | (rw [if_neg (by decide +kernel)]; exact ⟨rfl, rfl⟩))
    (fun os started H enc _ => lifted os started H enc)
theorem proved : Rows.FnMuxOfSaid := over
end Go.Proofs.Ytiffeddeobhndaa.fnMuxOf
