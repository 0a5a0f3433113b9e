/- FnFindAll: what comes byte by byte is what stands between ends. For every code (the law draws a configuration and bytes from it). No condition. -/
import Derived.Test.YtfojlpnnhghcbaaFindZ
import Derived.Test.YtfojlpnnhghcbaaKitFindG
import Derived.Test.YtfojlpnnhghcbaaFindX
import Derived.Test.YtfojlpnnhghcbaaDrawAll
namespace Go.Proofs.Ytfojlpnnhghcbaa.fnFindAll
open Go.ChangeShapes Go.WideShapes Go.ChangeAt Go.RowKit
set_option linter.unusedVariables false
/-- what the law holds: the configuration, the program's events -/
def KA (w W : World) (g : Nat) (a b d m : Int) (B : Nat) (v : Value) (l : List Ev) : Prop := LB w W g a b d m ∧ RE W 0 B v l ∧ B ≤ W.heap.size
theorem KA.from {w W W' : World} {g : Nat} {a b d m : Int} {B : Nat} {v : Value} {l : List Ev} (h : KA w W g a b d m B v l) (hb : Below W.heap.size W W') : KA w W' g a b d m B v l :=
  ⟨h.1.from hb, h.2.1.below (hb.mono h.2.2), Nat.le_trans h.2.2 hb.size⟩
set_option maxRecDepth 100000 in
set_option maxHeartbeats 8000000 in
theorem walk (a0 : Option Addr) (len0 cap0 : Nat) (z0 : List Int) (w : World) (w0 : IsRow .u8 w a0 len0 cap0 z0) :
    Calls Try.prog 5 #[.slice a0 len0 cap0] w fun e w' => e = .returned (.bool true) ∧ Below w.heap.size w w' := by
  by_cases hbig : 1048576 < len0
  · go_enter Try.func5, Try.ntmps5
    go_wp2
    go_ret
    exact ⟨rfl, Below.refl _ _⟩
  have HH := Lib.hid w0
  have hz := zero_find
  clear w0
  go_enter Try.func5, Try.ntmps5
  go_wp2_with fail
  refine (drawAll_any a0 len0 cap0 z0 HH.out).mono ?_
  rintro e w1 ⟨a, b, d, m, s, rfl, hsm, hs, hb1⟩
  have wa := wf_small hsm.1
  have hL := LB.new (a := a) (b := b) (d := d) (m := m) hb1
  obtain ⟨gc, hgc⟩ : ∃ gc, w1.heap.size = gc := ⟨_, rfl⟩
  rw [hgc] at hL
  obtain ⟨c0, c1, c2, c3⟩ := hL.flat
  have HL := Lib.hid hL
  have hsx : s.size ≤ maxLen := by unfold maxLen; omega
  have hlen := allF_len ⟨a, b, d, m⟩ s.data.toList
  have HSP := Lib.hid (fun W => specFindAll_any a b d m s W hsx)
  have HIM := Lib.hid (fun W => implFindAll_any a b d m s W wa hsx)
  have HC1 := Lib.hid (fun W => implConfOk_any a b d m W wa)
  have HFD := Lib.hid (fun W => implFindFeed_any a b d m ⟨#[]⟩ false s W wa (by show 0 ≤ maxLen; exact Nat.zero_le _) hsx)
  have HAL := Lib.hid (fun (hc : confB ⟨a, b, d, m⟩ = true) => feedF_all hc (l := s.data.toList) (by rw [size_list]; exact hs))
  obtain ⟨evs, hevs⟩ : ∃ evs, allF ⟨a, b, d, m⟩ s.data.toList = evs := ⟨_, rfl⟩
  rw [hevs] at HSP HIM HAL hlen
  clear hb1 hL hsx hevs
  go_wp2_with fail
  refine (HIM.out _).mono ?_
  rintro e w2 ⟨v1, rfl, hoe, hb2⟩
  have hk2 : KA w w2 gc a b d m w2.heap.size v1 evs := ⟨HL.out.from hb2, hoe.reads.mono (Nat.zero_le _) (Nat.le_refl _), Nat.le_refl _⟩
  generalize w2.heap.size = B at hk2
  obtain ⟨c0, c1, c2, c3⟩ := hk2.1.flat
  have HK2 := Lib.hid hk2
  clear hoe hb2 hk2 hgc HL
  go_wp2_with fail
  refine (HSP.out _).mono ?_
  rintro e w3 ⟨v2, rfl, hoe3, hb3⟩
  have hk3 := HK2.out.from hb3
  obtain ⟨c0, c1, c2, c3⟩ := hk3.1.flat
  have HK3 := Lib.hid hk3
  have HO3 := Lib.hid hoe3
  clear hb3 hk3 hoe3 HK2
  go_wp2_with fail
  refine (ctEvents_same v1 v2 evs _ _ _ _ _ HK3.out.2.1 HO3.out.reads HK3.out.2.2 (Nat.le_refl _) (by omega)).mono ?_
  rintro e w4 ⟨rfl, hb4⟩
  have hk4 := HK3.out.from hb4
  obtain ⟨c0, c1, c2, c3⟩ := hk4.1.flat
  have HK4 := Lib.hid hk4
  clear hb4 hk4 HK3 HO3
  go_wp2_with fail
  refine (HC1.out _).mono ?_
  rintro e w5 ⟨rfl, hb5⟩
  have hk5 := HK4.out.from hb5
  obtain ⟨c0, c1, c2, c3⟩ := hk5.1.flat
  have HK5 := Lib.hid hk5
  clear hb5 hk5 HK4
  cases hc : confB ⟨a, b, d, m⟩ with
  | false =>
    clear hc
    go_wp2_with fail
    refine (HSP.out _).mono ?_
    rintro e w6 ⟨v3, rfl, hoe6, hb6⟩
    have HK6 := Lib.hid (HK5.out.from hb6)
    have HO6 := Lib.hid hoe6
    clear hoe6 hb6
    go_wp2_with fail
    refine (ctEvents_same v1 v3 evs _ _ _ _ _ HK6.out.2.1 HO6.out.reads HK6.out.2.2 (Nat.le_refl _) (by omega)).mono ?_
    rintro e w7 ⟨rfl, hb7⟩
    have HB7 := Lib.hid (HK6.out.from hb7).1.2.2
    clear hb7
    go_wp2
    go_ret
    exact ⟨rfl, HB7.out⟩
  | true =>
    have HE := Lib.hid (HAL.out hc)
    clear hc
    go_wp2_with fail
    refine (HFD.out _).mono ?_
    rintro e w6 ⟨v3, rfl, hoe6, hb6⟩
    rw [HE.out] at hoe6
    have hb7 := hb6
    have HK6 := Lib.hid (HK5.out.from hb6)
    have HO6 := Lib.hid hoe6
    clear hoe6 hb6 hb7
    generalize feedF ⟨a, b, d, m⟩ ⟨[], false⟩ s.data.toList = p at *
    obtain ⟨⟨X, y⟩, l6⟩ := p
    have HK7 := Lib.hid (HK6.out.from ((Below.refl _ _).alloc (Nat.le_refl _) (.cells #[.string ⟨X.toArray⟩, .bool y] 30)))
    have HO7 := Lib.hid (HO6.out.alloc' (.cells #[.string ⟨X.toArray⟩, .bool y] 30))
    go_wp2_with fail
    refine (ctEvents_same v3 v1 evs _ _ _ _ _ HO7.out.reads HK7.out.2.1 (Nat.le_refl _) HK7.out.2.2 (by omega)).mono ?_
    rintro e w8 ⟨rfl, hb8⟩
    have HB8 := Lib.hid (HK7.out.from hb8).1.2.2
    clear hb8
    go_wp2
    go_ret
    exact ⟨rfl, HB8.out⟩
theorem own : ownKnob Try.prog.godebug = none := by kernel_rfl
theorem laidOut : laidOutB Try.prog = true := by kernel_rfl
set_option maxRecDepth 100000 in
theorem lifted (os : Os) (started : os.Started) (H : Type) (enc : TypeId × Value → H) :
    ReturnsInHanded {} Try.checked os 5 .any (Rows.fnFindAllSpec.pre6 enc Try.prog Try.f5 Rows.fnFindAllRow.domain false) (Rows.fnFindAllSpec.post enc Try.prog Try.f5 false true false false) := by
  refine returnsInHanded_of_change (C := Try.checked) own started (by kernel_rfl) Try.func5
    (ChangeSpec.witness6 (enc := enc) (C := Try.checked) false ⟨#[], #[.slice none 0 0], []⟩ 8 (by kernel_rfl) (by kernel_rfl) (by kernel_rfl) (by kernel_rfl)) ?_
  intro W base args ds gs before hval0 hW hcnd _
  have hval : ∀ (j : Nat) t v, Try.f5.params[j]? = some t → args[j]? = some v → Value.okWide Try.prog W .any base t v := hval0
  have hW' := hW
  obtain ⟨p, q, hA0, hV, rfl, hfz, hnd⟩ := hW
  have hA : DataW.TrodAll enc Try.prog W 0 (fun _ => true) true Try.f5.params.toList args.toList ds p := hA0
  rw [Try.params5] at hA hval
  obtain ⟨v0, vs0, d0, ds0, p0, q0, hargs, rfl, rfl, h0, r0⟩ := trodAll_cons hA
  obtain ⟨rfl, rfl, rfl⟩ := trodAll_nil r0
  obtain rfl : args = #[v0] := by cases args; simp_all
  obtain ⟨rfl, rfl⟩ := trodVars_none hV
  obtain ⟨a0, len0, cap0, rfl⟩ := okWide_slice Try.underlying22 (hval 0 22 v0 rfl rfl)
  have k0 := h0
  have lt0 : ∀ x ∈ p0, x.block < W.heap.size := by obtain ⟨m, hm⟩ := k0; exact DataW.trod_lt m _ _ _ hm
  obtain ⟨z0, w0⟩ : ∃ zs, IsRow .u8 W a0 len0 cap0 zs := by
    obtain ⟨fuel, hf⟩ := h0
    rcases open_ints Try.underlying22 Try.underlying5 (by kernel_rfl) hf with ⟨hcs, _⟩ | ⟨x, l, c, zs, hcs, _, hl, hm, hz, _, hcell, hwz⟩
    · simp [Value.cells] at hcs
      obtain ⟨rfl, rfl, rfl⟩ := hcs
      exact ⟨[], .inl ⟨rfl, rfl, rfl, rfl⟩⟩
    · simp [Value.cells] at hcs
      obtain ⟨rfl, rfl, rfl⟩ := hcs
      exact ⟨zs, .inr ⟨_, rfl, hl, hm, by simpa using hz, hcell, hwz⟩⟩
  clear hA0 hval0
  refine (walk a0 len0 cap0 z0 W w0).mono fun e W' ⟨he, bel⟩ => ?_
  subst he
  exact ⟨_, rfl, _, _, _, [], _, [], hW', trodAll_mk1 (shut_bool Try.underlying4 _), (trodAll_cons_mk (Below.trod laidOut (by kernel_rfl) (of_decide_eq_true (by kernel_rfl)) k0 bel lt0) trodAll_mk0), rfl, bel.frame _, fun h => by cases h⟩
theorem over : Rows.fnFindAllRow.holds Try.pinned (OpenSpec.ofChange Rows.fnFindAllSpec) :=
  OpenClaim.holds_of_wide 5 Try.f5 rfl rfl rfl rfl rfl rfl rfl ⟨rfl, rfl, rfl, rfl, rfl⟩ rfl rfl rfl rfl rfl (by kernel_rfl) Try.func5 (by kernel_rfl)
    (of_decide_eq_true (by kernel_rfl)) (by unfold Func.isWrapper; first | (rw [if_pos (by decide +kernel)]; kernel_rfl) | (rw [if_neg (by decide +kernel)]; exact ⟨rfl, rfl⟩))
    (fun os started H enc _ => lifted os started H enc)
theorem proved : Rows.FnFindAllSaid := over
end Go.Proofs.Ytfojlpnnhghcbaa.fnFindAll
