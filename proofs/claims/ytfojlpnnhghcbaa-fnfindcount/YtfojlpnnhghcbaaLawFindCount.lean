/- FnFindCount: each event is counted once, in whatever order. For every code (the law draws the events from it). No condition. -/
import Derived.Test.YtfojlpnnhghcbaaDrawCount
namespace Go.Proofs.Ytfojlpnnhghcbaa.fnFindCount
open Go.ChangeShapes Go.WideShapes Go.ChangeAt Go.RowKit
set_option linter.unusedVariables false
set_option maxRecDepth 100000 in
set_option maxHeartbeats 4000000 in
theorem walk (a0 : Option Addr) (len0 cap0 : Nat) (z0 : List Int) (w : World) (w0 : IsRow .u8 w a0 len0 cap0 z0) :
    Calls Try.prog 7 #[.slice a0 len0 cap0] w fun e w' => e = .returned (.bool true) ∧ Below w.heap.size w w' := by
  by_cases hbig : 1048576 < len0
  · go_enter Try.func7, Try.ntmps7
    go_wp2
    go_ret
    exact ⟨rfl, Below.refl _ _⟩
  have HH := Lib.hid w0
  obtain ⟨i0, hi, hz0, hz1, hz2⟩ := info_parts info_ev
  have HI := Lib.hid hi
  have HZ0 := Lib.hid hz0
  have HZ1 := Lib.hid hz1
  have HZ2 := Lib.hid hz2
  clear w0 hi hz0 hz1 hz2
  go_enter Try.func7, Try.ntmps7
  go_wp2_with fail
  refine (drawCount_any a0 len0 cap0 z0 HH.out).mono ?_
  rintro e w1 ⟨v, l, rfl, hl, hoe1, hb1⟩
  have HRE1 := Lib.hid hoe1.reads
  have HB1 := Lib.hid hb1
  clear hoe1 hb1
  go_wp2_with fail
  refine (implCount_any v l _ _ _ HRE1.out (Nat.le_refl _) (by omega)).mono ?_
  rintro e w2 ⟨rfl, hb2⟩
  have HRE2 := Lib.hid ((HRE1.out.below hb2).mono (Nat.zero_le _) hb2.size)
  have HB2 := Lib.hid (HB1.out.trans (hb2.mono HB1.out.size))
  clear hb2 HRE1 HB1
  go_wp2_with fail
  refine (specCount_any v l _ _ _ HRE2.out (by omega)).mono ?_
  rintro e w3 ⟨rfl, rfl⟩
  have hcl := cntF_le l
  have HRV := Lib.hid (cntF_rev l)
  obtain ⟨cn, hcn⟩ : ∃ cn, cntF l = cn := ⟨_, rfl⟩
  rw [hcn] at hcl HRV
  rw [hcn]
  clear hcn
  obtain ⟨ad, cap, rfl⟩ := HRE2.out.shape
  go_wp2
  go_loopw [8, 9] (fun tv iv wr => ∃ k : Nat, k ≤ l.length ∧ iv = .int .i64 ((k : Int) - 1) ∧ OE wr w2.heap.size tv (l.drop k).reverse ∧ Below w2.heap.size w2 wr) (fun _ iv _ => (intOf iv + 1).toNat)
  case atStart => exact ⟨l.length, Nat.le_refl _, rfl, by rw [List.drop_length]; exact OE_made w2 rfl (Nat.le_refl _), (Below.refl _ _).alloc (Nat.le_refl _) _⟩
  case round =>
    obtain ⟨k, hk, rfl, hoe, hb⟩ := hrel
    have HOE := Lib.hid hoe
    have HB := Lib.hid hb
    have hre := HRE2.out.below hb
    clear hoe hb
    by_cases hp : 0 < k
    · obtain ⟨j, rfl⟩ : ∃ j, k = j + 1 := ⟨k - 1, by omega⟩
      have hji : ((j + 1 : Nat) : Int) - 1 = (j : Int) := by omega
      rw [hji]
      have hjl : j < l.length := by omega
      have hji2 : (j : Int) < l.length := by omega
      obtain ⟨x, rfl, _, _, c0, c1⟩ := RE.at_ hre hjl
      have HD := Lib.hid (show (l.drop j).reverse = (l.drop (j + 1)).reverse ++ [l[j]] by rw [List.drop_eq_getElem_cons hjl, List.reverse_cons])
      have hlen : (l.drop (j + 1)).reverse.length ≤ 8 := by rw [List.length_reverse, List.length_drop]; omega
      have HRN := Lib.hid (RE_new wr l[j])
      clear hre
      go_wp2_with (at_builtin; refine wpList_append_ev _ rfl _ _ 31 rfl w2.heap.size i0 Try.underlying31 HI.out HZ0.out HZ1.out HZ2.out _ _ rfl (HOE.out.alloc' _) _ _ _ [l[j]] rfl HRN.out (by simp only [List.length_singleton]; omega) (by have := HB.out.size; simp; omega) ?_; intro v5 w5 ho5 hg5 hat5; have HO5 := Lib.hid ho5; have HB5 := Lib.hid ((HB.out.alloc HB.out.size (.cells #[.int .i64 l[j].kind, .string ⟨l[j].text.toArray⟩] 47)).grown hg5 (by have := HB.out.size; simp; omega) (fun k hk => (HOE.out.lt k hk).1)); clear ho5 hg5 hat5)
      go_roundw
      case rel => exact ⟨j, by omega, rfl, by rw [HD.out]; exact HO5.out, HB5.out⟩
      case measure => simp [intOf]
    · obtain rfl : k = 0 := by omega
      rw [List.drop_zero] at HOE
      have hlr : l.reverse.length ≤ 1000000 := by rw [List.length_reverse]; omega
      clear hre
      go_wp2_with fail
      refine (implCount_any _ l.reverse _ _ _ HOE.out.reads (Nat.le_refl _) hlr).mono ?_
      rintro e w6 ⟨rfl, hb6⟩
      rw [HRV.out, List.length_reverse]
      have HB6 := Lib.hid (HB2.out.trans ((HB.out.trans (hb6.mono HB.out.size)).mono HB2.out.size))
      clear hb6
      have hadd : (cn : Int) + ((l.length : Int) - (cn : Int)) = l.length := by omega
      go_wp2
      go_ret
      exact ⟨by simp, HB6.out⟩
theorem own : ownKnob Try.prog.godebug = none := by kernel_rfl
theorem laidOut : laidOutB Try.prog = true := by kernel_rfl
set_option maxRecDepth 100000 in
theorem lifted (os : Os) (started : os.Started) (H : Type) (enc : TypeId × Value → H) :
    ReturnsInHanded {} Try.checked os 7 .any (Rows.fnFindCountSpec.pre6 enc Try.prog Try.f7 Rows.fnFindCountRow.domain false) (Rows.fnFindCountSpec.post enc Try.prog Try.f7 false true false false) := by
  refine returnsInHanded_of_change (C := Try.checked) own started (by kernel_rfl) Try.func7
    (ChangeSpec.witness6 (enc := enc) (C := Try.checked) false ⟨#[], #[.slice none 0 0], []⟩ 8 (by kernel_rfl) (by kernel_rfl) (by kernel_rfl) (by kernel_rfl)) ?_
  intro W base args ds gs before hval0 hW hcnd _
  have hval : ∀ (j : Nat) t v, Try.f7.params[j]? = some t → args[j]? = some v → Value.okWide Try.prog W .any base t v := hval0
  have hW' := hW
  obtain ⟨p, q, hA0, hV, rfl, hfz, hnd⟩ := hW
  have hA : DataW.TrodAll enc Try.prog W 0 (fun _ => true) true Try.f7.params.toList args.toList ds p := hA0
  rw [Try.params7] at hA hval
  obtain ⟨v0, vs0, d0, ds0, p0, q0, hargs, rfl, rfl, h0, r0⟩ := trodAll_cons hA
  obtain ⟨rfl, rfl, rfl⟩ := trodAll_nil r0
  obtain rfl : args = #[v0] := by cases args; simp_all
  obtain ⟨rfl, rfl⟩ := trodVars_none hV
  obtain ⟨a0, len0, cap0, rfl⟩ := okWide_slice Try.underlying22 (hval 0 22 v0 rfl rfl)
  have k0 := h0
  have lt0 : ∀ x ∈ p0, x.block < W.heap.size := by obtain ⟨m, hm⟩ := k0; exact DataW.trod_lt m _ _ _ hm
  obtain ⟨z0, w0⟩ : ∃ zs, IsRow .u8 W a0 len0 cap0 zs := by
    obtain ⟨fuel, hf⟩ := h0
    rcases open_ints Try.underlying22 Try.underlying5 (by kernel_rfl) hf with ⟨hcs, _⟩ | ⟨x, l, c, zs, hcs, _, hl, hm, hz, _, hcell, hwz⟩
    · simp [Value.cells] at hcs
      obtain ⟨rfl, rfl, rfl⟩ := hcs
      exact ⟨[], .inl ⟨rfl, rfl, rfl, rfl⟩⟩
    · simp [Value.cells] at hcs
      obtain ⟨rfl, rfl, rfl⟩ := hcs
      exact ⟨zs, .inr ⟨_, rfl, hl, hm, by simpa using hz, hcell, hwz⟩⟩
  clear hA0 hval0
  refine (walk a0 len0 cap0 z0 W w0).mono fun e W' ⟨he, bel⟩ => ?_
  subst he
  exact ⟨_, rfl, _, _, _, [], _, [], hW', trodAll_mk1 (shut_bool Try.underlying4 _), (trodAll_cons_mk (Below.trod laidOut (by kernel_rfl) (of_decide_eq_true (by kernel_rfl)) k0 bel lt0) trodAll_mk0), rfl, bel.frame _, fun h => by cases h⟩
theorem over : Rows.fnFindCountRow.holds Try.pinned (OpenSpec.ofChange Rows.fnFindCountSpec) :=
  OpenClaim.holds_of_wide 7 Try.f7 rfl rfl rfl rfl rfl rfl rfl ⟨rfl, rfl, rfl, rfl, rfl⟩ rfl rfl rfl rfl rfl (by kernel_rfl) Try.func7 (by kernel_rfl)
    (of_decide_eq_true (by kernel_rfl)) (by unfold Func.isWrapper; first | (rw [if_pos (by decide +kernel)]; kernel_rfl) | (rw [if_neg (by decide +kernel)]; exact ⟨rfl, rfl⟩))
    (fun os started H enc _ => lifted os started H enc)
theorem proved : Rows.FnFindCountSaid := over
end Go.Proofs.Ytfojlpnnhghcbaa.fnFindCount
