/- Blocks read into a text, a cut one handed on: in the program. -/
import Derived.Test.YtfojlpnnhghcbaaCobG
import Derived.Test.YtfojlpnnhghcbaaCobC
namespace Go.Proofs.Ytfojlpnnhghcbaa
open Go.ChangeShapes Go.WideShapes Go.ChangeAt Go.RowKit Go.Shelf
attribute [local go_sem] Oper.semAt_some
theorem ta_hit (c : ByteArray) (w : World) : (Instr.typeAssert (.iface 149 (.string c)) 20 149 true).run Try.prog w = .ok (.tuple #[.string c, .bool true]) w := by kernel_rfl
theorem ta_nil (w : World) : (Instr.typeAssert .nilIface 20 149 true).run Try.prog w = .ok (.tuple #[.string ⟨#[]⟩, .bool false]) w := by kernel_rfl
theorem catch_cut (n p : Nat) (x : Value) (c : ByteArray) (w : World) (hc : w.cell? ⟨p, 0, none⟩ = some x) (hz : w.frozen? ⟨p, 0, none⟩ = false) :
    CallsDIn Fence.wide n Try.prog 141 #[.pointer (some ⟨p, 0, none⟩)] (.panicking [{ v := .iface 149 (.string c), recovered := false }]) w fun e u' w' =>
      e = .returned (.tuple #[]) ∧ u' = .panicking [{ v := .iface 149 (.string c), recovered := true }] ∧ w' = w.setCell ⟨p, 0, none⟩ (.string c) := by
  refine callsDIn_of_wpSIn Try.func141 rfl trivial fun c₀ cs hu => ?_
  apply wpSIn_region
  simp [wpOpsSIn, go_sem, recoverD, hu, Try.ntmps141, hc, hz, bodyPostS, results, Try.results141, ta_hit]
theorem catch_idle (n p : Nat) (x : Value) (w : World) (hc : w.cell? ⟨p, 0, none⟩ = some x) (hz : w.frozen? ⟨p, 0, none⟩ = false) :
    CallsDIn Fence.wide n Try.prog 141 #[.pointer (some ⟨p, 0, none⟩)] .returning w fun e u' w' =>
      e = .returned (.tuple #[]) ∧ u' = .returning ∧ w' = w.setCell ⟨p, 0, none⟩ (.string ⟨#[]⟩) := by
  refine callsDIn_of_wpSIn Try.func141 rfl trivial fun c₀ cs hu => ?_
  apply wpSIn_region
  simp [wpOpsSIn, go_sem, recoverD, hu, Try.ntmps141, hc, hz, ta_nil]
  cases c₀
  simp_all [bodyPostS, results, Try.results141]
theorem blocksOf_make (s : ByteArray) (w : World) :
    Calls Try.prog 142 #[.string s] w fun e w' => e = .returned (.func (.func 144) #[] #[.pointer (some ⟨w.heap.size, 0, none⟩)]) ∧ w' = w.alloc (.cells #[.string s] 9) := by
  have hmf : ∀ (fn : Fn) (first cap : Array Value) (w : World), (Instr.makeFunc fn first cap).run Try.prog w = .ok (.func fn first cap) w := fun _ _ _ _ => rfl
  go_enter Try.func142, Try.ntmps142
  go_wp2
  go_ret
  exact ⟨rfl, rfl⟩
/-- what a block tells -/
def txB (x : List UInt8 × Bool) : List UInt8 := x.1.drop 1 ++ (if x.2 = true ∧ x.1.length ≤ 254 then [0] else [])
def txP (pre : List Bk) : List UInt8 := (pre.map (·.1)).flatMap txB
theorem txP_snoc (pre : List Bk) (x : Bk) : txP (pre ++ [x]) = txP pre ++ txB x.1 := by simp [txP]
theorem txB_len (x : Bk) : (txB x.1).length ≤ 255 := by
  have := x.2
  unfold txB; rw [List.length_append, List.length_drop]; split <;> simp <;> omega
theorem txP_len (pre : List Bk) : (txP pre).length ≤ 255 * pre.length := by
  induction pre with
  | nil => simp [txP]
  | cons x l ih =>
    have h : txP (x :: l) = txB x.1 ++ txP l := by simp [txP]
    have := txB_len x
    rw [h, List.length_append, List.length_cons]; omega
theorem BRt.own (n0 b : Nat) : Own (fun (pre : List Bk) W => BR W n0 b (txP pre)) :=
  holdsRow_own n0 b 22 5 1 (fun pre => (txP pre).length) (fun pre => (txP pre).map byteV) (fun pre v => txP pre = [] → v = .slice none 0 0)
theorem zero_trunc (w : World) : (zeroValue 149).run Try.prog w = .ok (.string ⟨#[]⟩) w := by kernel_rfl
/-- a run of append onto the row that a box holds, with a string: what it gives -/
theorem app_run {W : World} {n0 b : Nat} {v : Value} {out : List UInt8} (i0 : TypeInfo) (hi : Try.prog.info? 5 = some i0) (hz0 : i0.zero = some (.int .u8 0)) (hz1 : i0.size = 1) (hz2 : i0.bytes = 1)
    (hv : Boxed W b 22 v) (hrow : W.ownsRow n0 5 1 v out.length (out.map byteV)) (hnil : out = [] → v = .slice none 0 0) (hn0 : n0 ≤ W.heap.size) (hB : n0 ≤ b) (T : ByteArray) (hl : out.length + T.size ≤ 1000000) :
    ∃ a2 cap2 w2, (Builtin.append_ #[22, 9] 22 #[v, .string T]).run Try.prog W.drew = .ok (.slice a2 (out.length + T.size) cap2) w2 ∧ Boxed w2 b 22 v ∧
      BR (w2.setCell ⟨b, 0, none⟩ (.slice a2 (out.length + T.size) cap2)) n0 b (out ++ T.data.toList) ∧ KeepsOthers W (w2.setCell ⟨b, 0, none⟩ (.slice a2 (out.length + T.size) cap2)) ∧ Below n0 W (w2.setCell ⟨b, 0, none⟩ (.slice a2 (out.length + T.size) cap2)) ∧
      (∀ c t u, t ≠ 5 → c ≠ b → Boxed W c t u → Boxed (w2.setCell ⟨b, 0, none⟩ (.slice a2 (out.length + T.size) cap2)) c t u) := by
  have hr' : W.drew.ownsRow n0 5 1 v out.length (out.map byteV) := hrow
  have hv' : Boxed W.drew b 22 v := hv
  obtain ⟨v2, w2, h1, h2, h3, h4⟩ := Lib.run_append_own_string (P := Try.prog) (w := W.drew) n0 22 9 22 5 i0 Try.underlying22 Try.underlying9 hi hz0 hz1 hz2 v out.length (out.map byteV) hr' T (by unfold maxLen; omega) (by omega) hn0
  obtain ⟨q1, q2, q3, q4, q5, q6⟩ := app_store hv' hr' hn0 hB h2 h3
  have e1 : (out ++ T.data.toList).length = out.length + T.size := by rw [List.length_append, size_list]
  have hrb : RB w2 n0 v2 (out ++ T.data.toList) := ⟨by rw [e1, List.map_append, ← strCells_map]; exact h2, fun h => by
    rw [List.append_eq_nil_iff] at h
    exact h4.2 ⟨hnil h.1, by rw [← size_list, h.2]; rfl⟩⟩
  obtain ⟨a2, cap2, hsh, _⟩ := hrb.ob.shape
  rw [e1] at hsh
  subst hsh
  refine ⟨a2, cap2, w2, h1, q1, ⟨_, q2, ?_, hrb.2⟩, ?_, ((Below.refl _ W).drew).trans q5, q6⟩
  · rw [e1, List.map_append, ← strCells_map]; exact q3
  · exact ⟨q4.size, q4.same⟩
set_option maxRecDepth 100000 in
set_option maxHeartbeats 4000000 in
theorem readBlocks_stops (s : ByteArray) (w : World) (hz : nzL s.data.toList) (hs : s.size ≤ 605) (hcut : (rdB s.data.toList).2 = []) :
    Calls Try.prog 139 #[.string s] w fun e w' => ∃ v, e = .returned (.tuple #[v, .string ⟨(rdB s.data.toList).2.toArray⟩]) ∧ w'.ownsRow w.heap.size 5 1 v ((rdB s.data.toList).1.flatMap txB).length (((rdB s.data.toList).1.flatMap txB).map byteV) ∧ Below w.heap.size w w' := by
  obtain ⟨i0, hi, hz0, hz1, hz2⟩ := info_parts info_u8
  have HI := Lib.hid hi
  have HZ0 := Lib.hid hz0
  have HZ1 := Lib.hid hz1
  have HZ2 := Lib.hid hz2
  have HZ := Lib.hid hz
  have hzb := zero_bytes
  have hzt := zero_trunc
  have hmf : ∀ (fn : Fn) (first cap : Array Value) (w : World), (Instr.makeFunc fn first cap).run Try.prog w = .ok (.func fn first cap) w := fun _ _ _ _ => rfl
  clear hi hz0 hz1 hz2 hz
  refine (callsIn_wide (n := 3)).1 ?_
  refine callsIn_of_wp_marks Try.func139 rfl trivial ?_ rfl
  simp only [Try.ntmps139, List.size_toArray, List.length_cons, List.length_nil, Nat.reduceAdd, Nat.reduceSub, Array.replicate_succ, Array.replicate_zero, List.push_toArray, List.append_toArray, List.nil_append, List.cons_append]
  gi_wp2_with (refine ⟨trivial, ?_⟩; gi_at_call 142; refine (callsIn_wide.2 (blocksOf_make s _)).mono ?_; rintro e w' ⟨rfl, rfl⟩)
  clear hzb hzt hmf
  have hws : (((w.alloc (.cells #[.slice none 0 0] 22)).alloc (.cells #[.string ⟨#[]⟩] 149)).alloc (.cells #[.string s] 9)).heap.size = w.heap.size + 3 := by simp
  have hb1 : Boxed (((w.alloc (.cells #[.slice none 0 0] 22)).alloc (.cells #[.string ⟨#[]⟩] 149)).alloc (.cells #[.string s] 9)) w.heap.size 22 (.slice none 0 0) := ((Boxed.new w _ _).alloc _).alloc _
  have hb2 : Boxed (((w.alloc (.cells #[.slice none 0 0] 22)).alloc (.cells #[.string ⟨#[]⟩] 149)).alloc (.cells #[.string s] 9)) (w.heap.size + 1) 149 (.string ⟨#[]⟩) := by
    have h := (Boxed.new (w.alloc (.cells #[.slice none 0 0] 22)) 149 (.string ⟨#[]⟩)).alloc (.cells #[.string s] 9)
    rw [World.size_alloc] at h
    exact h
  have hb3 : (((w.alloc (.cells #[.slice none 0 0] 22)).alloc (.cells #[.string ⟨#[]⟩] 149)).alloc (.cells #[.string s] 9)).cell? ⟨w.heap.size + 1 + 1, 0, none⟩ = some (.string s) := by
    have h := (Boxed.new ((w.alloc (.cells #[.slice none 0 0] 22)).alloc (.cells #[.string ⟨#[]⟩] 149)) 9 (.string s)).cell
    rw [World.size_alloc, World.size_alloc] at h
    exact h
  have hbe0 : Below w.heap.size w (((w.alloc (.cells #[.slice none 0 0] 22)).alloc (.cells #[.string ⟨#[]⟩] 149)).alloc (.cells #[.string s] 9)) := (((Below.refl _ w).alloc (Nat.le_refl _) _).alloc (by simp) _).alloc (by simp; omega) _
  generalize ((w.alloc (.cells #[.slice none 0 0] 22)).alloc (.cells #[.string ⟨#[]⟩] 149)).alloc (.cells #[.string s] 9) = W0 at *
  refine wpIn_rangeFunc_ownF rfl (by omega) (gf := 144) (lb := #[.pointer (some ⟨w.heap.size + 1 + 1, 0, none⟩)]) rfl trivial (enters_of Try.func144 (by kernel_rfl) rfl)
    (blocks_stops (3 - 1) (by omega) (w.heap.size + 1 + 1) s HZ.out hcut W0 hb3 (by omega)) (fun _ _ => trivial) (fun _ _ _ _ _ _ _ _ => trivial) (Below.refl _ _) (fun _ => rfl)
    (fun pre W => (BR W w.heap.size w.heap.size (txP pre) ∧ Boxed W (w.heap.size + 1) 149 (.string ⟨#[]⟩)) ∧ Below w.heap.size w W)
    (fun _ _ _ => False)
    (OwnFrom.and (Own.from (Own.both (BRt.own w.heap.size w.heap.size) (boxed_own' (w.heap.size + 1) 149 (fun _ : List Bk => .string ⟨#[]⟩))) _) (ownFrom_below (Nat.le_refl _) (by omega)))
    (fun _ _ _ _ _ hs _ _ => hs)
    ⟨⟨⟨_, hb1, ⟨rfl, .inl ⟨rfl, rfl⟩⟩, fun _ => rfl⟩, hb2⟩, hbe0⟩
    (fun x => { tmps := #[.string s, undef, .pointer (some ⟨w.heap.size, 0, none⟩), .pointer (some ⟨w.heap.size + 1, 0, none⟩), .string ⟨x.1.1.toArray⟩, .bool x.1.2, .func (.func 141) #[] #[.pointer (some ⟨w.heap.size + 1, 0, none⟩)], .string s, .func (.func 144) #[] #[.pointer (some ⟨w.heap.size + 1 + 1, 0, none⟩)], .string ⟨x.1.1.toArray⟩, .bool x.1.2, undef, undef, undef, undef, undef, undef, undef, undef, undef, undef, undef, undef, undef, undef], defers := [] }) ?assign ?body ?done ?stop
  case assign =>
    intro l x W K hK
    gi_wp2
    exact hK
  case body =>
    clear hb1 hb2 hb3 hbe0
    rintro l pre ⟨⟨p, bo⟩, hp1, hp2⟩ W ⟨⟨⟨v, hv, hrow, hnil⟩, hcu⟩, hB⟩ hlen
    simp only at hp1 hp2
    have HW := Lib.hid (txP_snoc pre ⟨⟨p, bo⟩, hp1, hp2⟩)
    have hol := txP_len pre
    obtain ⟨T, hT⟩ : ∃ T : ByteArray, T = ⟨p.toArray⟩ := ⟨_, rfl⟩
    have HT := Lib.hid (show T.data.toList = p by rw [hT])
    have hT1 : 1 ≤ T.size := by rw [← size_list T, HT.out]; exact hp1
    have hT2 : T.size ≤ 255 := by rw [← size_list T, HT.out]; exact hp2
    simp only [← hT]
    obtain ⟨T2, hT2e⟩ : ∃ T2 : ByteArray, T2 = T.extract 1 T.size := ⟨_, rfl⟩
    have s1 : ∀ u : World, (Instr.slice 9 (.string T) (some (.int .i64 1)) none none).run Try.prog u = .ok (.string T2) u := fun u => by rw [hT2e]; exact slice_from T 1 hT1 u
    have HT2 := Lib.hid (show T2.data.toList = p.drop 1 by rw [hT2e, ext_from, HT.out])
    have hT2s : T2.size ≤ 254 := by rw [← size_list T2, HT2.out, List.length_drop, ← HT.out, size_list]; omega
    generalize txP pre = out at *
    obtain ⟨a2, cap2, w2, r1, r2, r3, r4, r5, r6⟩ := app_run i0 HI.out HZ0.out HZ1.out HZ2.out hv hrow hnil hB.size (Nat.le_refl _) T2 (by omega)
    have cv := hv.cell
    have c2 := r2.cell
    have f2 := r2.frozen
    have HR3 := Lib.hid r3
    have HR4 := Lib.hid r4
    have HB2 := Lib.hid (hB.trans r5)
    have HCu := Lib.hid (r6 (w.heap.size + 1) 149 _ (by decide) (by omega) hcu)
    clear hv hcu hrow hnil hB r2 r3 r4 r5 r6 hT hT2e
    gi_wp2
    refine wpIn_region_any (by kernel_rfl) ?_
    try (change wpAnyIn _ _ _ _ _ _ _ _ _ (World.drew _))
    refine wpAnyIn_ready (rs := [0, 1]) (by kernel_rfl) (by simp) ?_
    refine AllReadyIn.cons rfl (fun K hK => ?_) ?_
    · go_simp
      refine hK _ _ ?_
      clear hK K
      refine wpAnyIn_ready (rs := [1]) (by kernel_rfl) (by simp) ?_
      refine AllReadyIn.cons rfl (fun K hK => ?_) AllReadyIn.nil
      go_simp
      refine hK _ _ ?_
      clear hK K
      refine wpAnyIn_ready (rs := [2]) (by kernel_rfl) (by simp) ?_
      refine AllReadyIn.cons rfl (fun K hK => ?_) AllReadyIn.nil
      go_simp
      refine hK _ _ ?_
      clear hK K
      refine wpAnyIn_ready (rs := [3]) (by kernel_rfl) (by simp) ?_
      refine AllReadyIn.cons rfl (fun K hK => ?_) AllReadyIn.nil
      rw [if_pos (show _ = true by rfl)]
      unfold Oper.wpIn
      refine ⟨by simp [Oper.about, resolve, Target.leads, Sem.run_pure], ?_⟩
      rw [Oper.semAt_plain _ _ _ (by intro c hc'; cases hc')]
      simp [execOp, resolve, invoke, builtin, Act.eval, r1, Result.andThen]
      refine hK _ _ ?_
      clear hK K
      refine wpAnyIn_ready (rs := [4]) (by kernel_rfl) (by simp) ?_
      refine AllReadyIn.cons rfl (fun K hK => ?_) AllReadyIn.nil
      go_simp
      refine hK _ _ ?_
      clear hK K
      refine wpAnyIn_done (by kernel_rfl) ?_ _
      clear c2 f2 r1 cv
      generalize w2.setCell ⟨w.heap.size, 0, none⟩ (.slice a2 (out.length + T2.size) cap2) = W3 at *
      obtain ⟨v3, hv3, hrow3, hnil3⟩ := HR3.out
      have cv3 := hv3.cell
      have hn3 := HB2.out.size
      cases bo with
      | false =>
        have HX := Lib.hid (show txP (pre ++ [⟨(p, false), hp1, hp2⟩]) = out ++ T2.data.toList by rw [HW.out, txB, HT2.out]; simp)
        clear hv3 hrow3 hnil3
        gi_wp2
        exact ⟨HR4.out, trivial, ⟨by rw [HX.out]; exact HR3.out, HCu.out⟩, HB2.out⟩
      | true =>
        by_cases h4 : T.size ≤ 254
        · have HX := Lib.hid (show txP (pre ++ [⟨(p, true), hp1, hp2⟩]) = (out ++ T2.data.toList) ++ [0] by
            rw [HW.out, txB, HT2.out, if_pos ⟨rfl, by show p.length ≤ 254; rw [← HT.out, size_list]; exact h4⟩, List.append_assoc])
          have hl3 : (out ++ T2.data.toList).length ≤ 255 * 700 + 254 := by rw [List.length_append, size_list]; omega
          generalize out ++ T2.data.toList = out3 at *
          have HV3 := Lib.hid hv3
          have HRo3 := Lib.hid hrow3
          have HONE := Lib.hid (one_cell W3 5 (.int .u8 0))
          clear hv3 hrow3 hnil3
          gi_wp2_with (gi_at_builtin; refine wpListIn_append_own _ rfl _ _ 22 rfl w.heap.size 5 i0 (.int .u8 0) 1 1 Try.underlying22 HI.out HZ0.out HZ1.out HZ2.out rfl (by decide) _ out3.length (out3.map byteV) rfl (HRo3.out.alloc _) ⟨W3.heap.size, 0, none⟩ 1 1 [.int .u8 0] rfl rfl HONE.out (by simp [Value.oneCell']) (by unfold maxLen; omega) (by omega) (by rw [World.size_alloc]; omega) ?_; intro v4 w4 hown4 hg4 _; obtain ⟨g4, cap4, rfl⟩ := ownsRow_succ hown4; obtain ⟨hvA, hvB, hrB, hkB, hbB, hoB⟩ := app_store (HV3.out.alloc _) (HRo3.out.alloc _) (by rw [World.size_alloc]; omega) (Nat.le_refl _) hown4 hg4; have cA := hvA.cell; have fA := hvA.frozen; have HVB := Lib.hid hvB; have HRB := Lib.hid hrB; have HKB := Lib.hid (HR4.out.trans ((KeepsOthers.alloc _ _).trans hkB)); have HBB := Lib.hid (HB2.out.trans (((Below.refl _ _).alloc hn3 _).trans hbB)); have HCB := Lib.hid (hoB _ _ _ (by decide) (by omega) (HCu.out.alloc _)); clear hvA hvB hrB hkB hbB hoB hown4 hg4)
          refine ⟨HKB.out, trivial, ⟨⟨_, HVB.out, ?_, ?_⟩, HCB.out⟩, HBB.out⟩
          · rw [HX.out, List.length_append, List.map_append]; exact HRB.out
          · intro h; rw [HX.out] at h; simp at h
        · have HX := Lib.hid (show txP (pre ++ [⟨(p, true), hp1, hp2⟩]) = out ++ T2.data.toList by
            rw [HW.out, txB, HT2.out, if_neg (by rintro ⟨_, h⟩; apply h4; rw [← size_list T, HT.out]; exact h), List.append_nil])
          clear hv3 hrow3 hnil3
          gi_wp2
          exact ⟨HR4.out, trivial, ⟨by rw [HX.out]; exact HR3.out, HCu.out⟩, HB2.out⟩
    refine AllReadyIn.cons rfl (fun K hK => ?_) AllReadyIn.nil
    go_simp
    refine hK _ _ ?_
    clear hK K
    refine wpAnyIn_ready (rs := [0, 2]) (by kernel_rfl) (by simp) ?_
    refine AllReadyIn.cons rfl (fun K hK => ?_) ?_
    · go_simp
      refine hK _ _ ?_
      clear hK K
      refine wpAnyIn_ready (rs := [2]) (by kernel_rfl) (by simp) ?_
      refine AllReadyIn.cons rfl (fun K hK => ?_) AllReadyIn.nil
      go_simp
      refine hK _ _ ?_
      clear hK K
      refine wpAnyIn_ready (rs := [3]) (by kernel_rfl) (by simp) ?_
      refine AllReadyIn.cons rfl (fun K hK => ?_) AllReadyIn.nil
      rw [if_pos (show _ = true by rfl)]
      unfold Oper.wpIn
      refine ⟨by simp [Oper.about, resolve, Target.leads, Sem.run_pure], ?_⟩
      rw [Oper.semAt_plain _ _ _ (by intro c hc'; cases hc')]
      simp [execOp, resolve, invoke, builtin, Act.eval, r1, Result.andThen]
      refine hK _ _ ?_
      clear hK K
      refine wpAnyIn_ready (rs := [4]) (by kernel_rfl) (by simp) ?_
      refine AllReadyIn.cons rfl (fun K hK => ?_) AllReadyIn.nil
      go_simp
      refine hK _ _ ?_
      clear hK K
      refine wpAnyIn_done (by kernel_rfl) ?_ _
      clear c2 f2 r1 cv
      generalize w2.setCell ⟨w.heap.size, 0, none⟩ (.slice a2 (out.length + T2.size) cap2) = W3 at *
      obtain ⟨v3, hv3, hrow3, hnil3⟩ := HR3.out
      have cv3 := hv3.cell
      have hn3 := HB2.out.size
      cases bo with
      | false =>
        have HX := Lib.hid (show txP (pre ++ [⟨(p, false), hp1, hp2⟩]) = out ++ T2.data.toList by rw [HW.out, txB, HT2.out]; simp)
        clear hv3 hrow3 hnil3
        gi_wp2
        exact ⟨HR4.out, trivial, ⟨by rw [HX.out]; exact HR3.out, HCu.out⟩, HB2.out⟩
      | true =>
        by_cases h4 : T.size ≤ 254
        · have HX := Lib.hid (show txP (pre ++ [⟨(p, true), hp1, hp2⟩]) = (out ++ T2.data.toList) ++ [0] by
            rw [HW.out, txB, HT2.out, if_pos ⟨rfl, by show p.length ≤ 254; rw [← HT.out, size_list]; exact h4⟩, List.append_assoc])
          have hl3 : (out ++ T2.data.toList).length ≤ 255 * 700 + 254 := by rw [List.length_append, size_list]; omega
          generalize out ++ T2.data.toList = out3 at *
          have HV3 := Lib.hid hv3
          have HRo3 := Lib.hid hrow3
          have HONE := Lib.hid (one_cell W3 5 (.int .u8 0))
          clear hv3 hrow3 hnil3
          gi_wp2_with (gi_at_builtin; refine wpListIn_append_own _ rfl _ _ 22 rfl w.heap.size 5 i0 (.int .u8 0) 1 1 Try.underlying22 HI.out HZ0.out HZ1.out HZ2.out rfl (by decide) _ out3.length (out3.map byteV) rfl (HRo3.out.alloc _) ⟨W3.heap.size, 0, none⟩ 1 1 [.int .u8 0] rfl rfl HONE.out (by simp [Value.oneCell']) (by unfold maxLen; omega) (by omega) (by rw [World.size_alloc]; omega) ?_; intro v4 w4 hown4 hg4 _; obtain ⟨g4, cap4, rfl⟩ := ownsRow_succ hown4; obtain ⟨hvA, hvB, hrB, hkB, hbB, hoB⟩ := app_store (HV3.out.alloc _) (HRo3.out.alloc _) (by rw [World.size_alloc]; omega) (Nat.le_refl _) hown4 hg4; have cA := hvA.cell; have fA := hvA.frozen; have HVB := Lib.hid hvB; have HRB := Lib.hid hrB; have HKB := Lib.hid (HR4.out.trans ((KeepsOthers.alloc _ _).trans hkB)); have HBB := Lib.hid (HB2.out.trans (((Below.refl _ _).alloc hn3 _).trans hbB)); have HCB := Lib.hid (hoB _ _ _ (by decide) (by omega) (HCu.out.alloc _)); clear hvA hvB hrB hkB hbB hoB hown4 hg4)
          refine ⟨HKB.out, trivial, ⟨⟨_, HVB.out, ?_, ?_⟩, HCB.out⟩, HBB.out⟩
          · rw [HX.out, List.length_append, List.map_append]; exact HRB.out
          · intro h; rw [HX.out] at h; simp at h
        · have HX := Lib.hid (show txP (pre ++ [⟨(p, true), hp1, hp2⟩]) = out ++ T2.data.toList by
            rw [HW.out, txB, HT2.out, if_neg (by rintro ⟨_, h⟩; apply h4; rw [← size_list T, HT.out]; exact h), List.append_nil])
          clear hv3 hrow3 hnil3
          gi_wp2
          exact ⟨HR4.out, trivial, ⟨by rw [HX.out]; exact HR3.out, HCu.out⟩, HB2.out⟩
    refine AllReadyIn.cons rfl (fun K hK => ?_) AllReadyIn.nil
    go_simp
    refine hK _ _ ?_
    clear hK K
    refine wpAnyIn_ready (rs := [0]) (by kernel_rfl) (by simp) ?_
    refine AllReadyIn.cons rfl (fun K hK => ?_) AllReadyIn.nil
    go_simp
    refine hK _ _ ?_
    clear hK K
    refine wpAnyIn_ready (rs := [3]) (by kernel_rfl) (by simp) ?_
    refine AllReadyIn.cons rfl (fun K hK => ?_) AllReadyIn.nil
    rw [if_pos (show _ = true by rfl)]
    unfold Oper.wpIn
    refine ⟨by simp [Oper.about, resolve, Target.leads, Sem.run_pure], ?_⟩
    rw [Oper.semAt_plain _ _ _ (by intro c hc'; cases hc')]
    simp [execOp, resolve, invoke, builtin, Act.eval, r1, Result.andThen]
    refine hK _ _ ?_
    clear hK K
    refine wpAnyIn_ready (rs := [4]) (by kernel_rfl) (by simp) ?_
    refine AllReadyIn.cons rfl (fun K hK => ?_) AllReadyIn.nil
    go_simp
    refine hK _ _ ?_
    clear hK K
    refine wpAnyIn_done (by kernel_rfl) ?_ _
    clear c2 f2 r1 cv
    generalize w2.setCell ⟨w.heap.size, 0, none⟩ (.slice a2 (out.length + T2.size) cap2) = W3 at *
    obtain ⟨v3, hv3, hrow3, hnil3⟩ := HR3.out
    have cv3 := hv3.cell
    have hn3 := HB2.out.size
    cases bo with
    | false =>
      have HX := Lib.hid (show txP (pre ++ [⟨(p, false), hp1, hp2⟩]) = out ++ T2.data.toList by rw [HW.out, txB, HT2.out]; simp)
      clear hv3 hrow3 hnil3
      gi_wp2
      exact ⟨HR4.out, trivial, ⟨by rw [HX.out]; exact HR3.out, HCu.out⟩, HB2.out⟩
    | true =>
      by_cases h4 : T.size ≤ 254
      · have HX := Lib.hid (show txP (pre ++ [⟨(p, true), hp1, hp2⟩]) = (out ++ T2.data.toList) ++ [0] by
          rw [HW.out, txB, HT2.out, if_pos ⟨rfl, by show p.length ≤ 254; rw [← HT.out, size_list]; exact h4⟩, List.append_assoc])
        have hl3 : (out ++ T2.data.toList).length ≤ 255 * 700 + 254 := by rw [List.length_append, size_list]; omega
        generalize out ++ T2.data.toList = out3 at *
        have HV3 := Lib.hid hv3
        have HRo3 := Lib.hid hrow3
        have HONE := Lib.hid (one_cell W3 5 (.int .u8 0))
        clear hv3 hrow3 hnil3
        gi_wp2_with (gi_at_builtin; refine wpListIn_append_own _ rfl _ _ 22 rfl w.heap.size 5 i0 (.int .u8 0) 1 1 Try.underlying22 HI.out HZ0.out HZ1.out HZ2.out rfl (by decide) _ out3.length (out3.map byteV) rfl (HRo3.out.alloc _) ⟨W3.heap.size, 0, none⟩ 1 1 [.int .u8 0] rfl rfl HONE.out (by simp [Value.oneCell']) (by unfold maxLen; omega) (by omega) (by rw [World.size_alloc]; omega) ?_; intro v4 w4 hown4 hg4 _; obtain ⟨g4, cap4, rfl⟩ := ownsRow_succ hown4; obtain ⟨hvA, hvB, hrB, hkB, hbB, hoB⟩ := app_store (HV3.out.alloc _) (HRo3.out.alloc _) (by rw [World.size_alloc]; omega) (Nat.le_refl _) hown4 hg4; have cA := hvA.cell; have fA := hvA.frozen; have HVB := Lib.hid hvB; have HRB := Lib.hid hrB; have HKB := Lib.hid (HR4.out.trans ((KeepsOthers.alloc _ _).trans hkB)); have HBB := Lib.hid (HB2.out.trans (((Below.refl _ _).alloc hn3 _).trans hbB)); have HCB := Lib.hid (hoB _ _ _ (by decide) (by omega) (HCu.out.alloc _)); clear hvA hvB hrB hkB hbB hoB hown4 hg4)
        refine ⟨HKB.out, trivial, ⟨⟨_, HVB.out, ?_, ?_⟩, HCB.out⟩, HBB.out⟩
        · rw [HX.out, List.length_append, List.map_append]; exact HRB.out
        · intro h; rw [HX.out] at h; simp at h
      · have HX := Lib.hid (show txP (pre ++ [⟨(p, true), hp1, hp2⟩]) = out ++ T2.data.toList by
          rw [HW.out, txB, HT2.out, if_neg (by rintro ⟨_, h⟩; apply h4; rw [← size_list T, HT.out]; exact h), List.append_nil])
        clear hv3 hrow3 hnil3
        gi_wp2
        exact ⟨HR4.out, trivial, ⟨by rw [HX.out]; exact HR3.out, HCu.out⟩, HB2.out⟩
  case done =>
    clear hb1 hb2 hb3 hbe0
    rintro D ys W hD hS ⟨⟨⟨v, hv, hrow, hnil⟩, hcu⟩, hB⟩ hK
    obtain ⟨a5, cap5, hsh, _⟩ := (show RB W w.heap.size v (txP ys) from ⟨hrow, hnil⟩).ob.shape
    subst hsh
    have cv := hv.cell
    have fv := hv.frozen
    have cu := hcu.cell
    have fu := hcu.frozen
    gi_wp2
    have hv1 : Boxed (W.setCell ⟨w.heap.size, 0, none⟩ (.slice a5 (txP ys).length cap5)) w.heap.size 22 (.slice a5 (txP ys).length cap5) := hv.set _
    have hcu1 : Boxed (W.setCell ⟨w.heap.size, 0, none⟩ (.slice a5 (txP ys).length cap5)) (w.heap.size + 1) 149 (.string ⟨#[]⟩) := hcu.kept (grownBy_setCell' _ _ _) (by simp)
    have hr1 : (W.setCell ⟨w.heap.size, 0, none⟩ (.slice a5 (txP ys).length cap5)).ownsRow w.heap.size 5 1 (.slice a5 (txP ys).length cap5) (txP ys).length ((txP ys).map byteV) := hrow.kept (grownBy_setCell' _ _ _) (.inr (hv.not_row (by decide) hrow).symm)
    have hB1 := hB.setCell (p := ⟨w.heap.size, 0, none⟩) (Nat.le_refl _) (.slice a5 (txP ys).length cap5)
    have hK1 := (KeepsOthers.setCell W ⟨w.heap.size, 0, none⟩ (.slice a5 (txP ys).length cap5)).same D _ hK rfl
    generalize W.setCell ⟨w.heap.size, 0, none⟩ (.slice a5 (txP ys).length cap5) = Wa at *
    have hv2 : Boxed (Wa.setCell ⟨w.heap.size + 1, 0, none⟩ (.string ⟨#[]⟩)) w.heap.size 22 (.slice a5 (txP ys).length cap5) := hv1.kept (grownBy_setCell' _ _ _) (by simp)
    have hcu2 : Boxed (Wa.setCell ⟨w.heap.size + 1, 0, none⟩ (.string ⟨#[]⟩)) (w.heap.size + 1) 149 (.string ⟨#[]⟩) := hcu1.set _
    have hr2 : (Wa.setCell ⟨w.heap.size + 1, 0, none⟩ (.string ⟨#[]⟩)).ownsRow w.heap.size 5 1 (.slice a5 (txP ys).length cap5) (txP ys).length ((txP ys).map byteV) := hr1.kept (grownBy_setCell' _ _ _) (.inr (hcu1.not_row (by decide) hr1).symm)
    have hB2 := hB1.setCell (p := ⟨w.heap.size + 1, 0, none⟩) (by simp) (.string ⟨#[]⟩)
    have hK2 := (KeepsOthers.setCell Wa ⟨w.heap.size + 1, 0, none⟩ (.string ⟨#[]⟩)).same D _ hK1 rfl
    generalize Wa.setCell ⟨w.heap.size + 1, 0, none⟩ (.string ⟨#[]⟩) = Wb at *
    clear hv hcu hrow hnil hB cv fv cu fu hK hv1 hcu1 hr1 hB1 hK1
    have hvD : Boxed (Wb.putObj D (.deferred none)) w.heap.size 22 (.slice a5 (txP ys).length cap5) := hv2.kept (grownBy_putObj' Wb D _) (by intro e; injection e with e; subst e; rw [show Wb.heap[w.heap.size]? = _ from hv2] at hK2; cases hK2)
    have hcuD : Boxed (Wb.putObj D (.deferred none)) (w.heap.size + 1) 149 (.string ⟨#[]⟩) := hcu2.kept (grownBy_putObj' Wb D _) (by intro e; injection e with e; subst e; rw [show Wb.heap[w.heap.size + 1]? = _ from hcu2] at hK2; cases hK2)
    have hrD := ownsRow_putObj hr2 (.deferred none) hK2 rfl
    have hBD : Below w.heap.size w (Wb.putObj D (.deferred none)) := hB2.trans (belowK_b (w := w) (Nat.le_refl _) Wb D _ _ (by omega) hK2 rfl rfl)
    refine ⟨by simp, .inl ⟨_, _, rfl, run_takeDeferred hK2, ?_⟩⟩
    refine ⟨by simp, .inr ⟨by simp [Fence.wide], .func 141, #[.pointer (some ⟨w.heap.size + 1, 0, none⟩)], 141, #[.pointer (some ⟨w.heap.size + 1, 0, none⟩)], rfl, by simp [go_sem], by simp [Target.leads, Fence.wide], ?_⟩⟩
    refine (catch_idle _ (w.heap.size + 1) _ _ hcuD.cell hcuD.frozen).mono ?_
    rintro e u' w' ⟨rfl, rfl, rfl⟩
    rw [hcut]
    have hvF : Boxed ((Wb.putObj D (.deferred none)).setCell ⟨w.heap.size + 1, 0, none⟩ (.string ⟨#[]⟩)) w.heap.size 22 (.slice a5 (txP ys).length cap5) := hvD.kept (grownBy_setCell' _ _ _) (by simp)
    have hcF : Boxed ((Wb.putObj D (.deferred none)).setCell ⟨w.heap.size + 1, 0, none⟩ (.string ⟨#[]⟩)) (w.heap.size + 1) 149 (.string ⟨#[]⟩) := hcuD.set _
    have hrF : ((Wb.putObj D (.deferred none)).setCell ⟨w.heap.size + 1, 0, none⟩ (.string ⟨#[]⟩)).ownsRow w.heap.size 5 1 (.slice a5 (txP ys).length cap5) (txP ys).length ((txP ys).map byteV) := hrD.kept (grownBy_setCell' _ _ _) (.inr (hcuD.not_row (by decide) hrD).symm)
    have hBF : Below w.heap.size w ((Wb.putObj D (.deferred none)).setCell ⟨w.heap.size + 1, 0, none⟩ (.string ⟨#[]⟩)) := hBD.setCell (p := ⟨w.heap.size + 1, 0, none⟩) (by simp) _
    have hcv := hvF.cell
    have hcc := hcF.cell
    have etx : (rdB s.data.toList).1.flatMap txB = txP ys := by rw [txP, hS]
    simp only [LeavesInM, LeavesIn, settle]
    rw [etx]
    refine ⟨.tuple #[(.slice a5 (txP ys).length cap5), .string ⟨#[]⟩], ?_, (.slice a5 (txP ys).length cap5), rfl, hrF, hBF⟩
    simp [results, go_sem, Try.results139, hcv, hcc]
  case stop =>
    rintro D c pre W _ _ h _
    exact h.elim
set_option maxRecDepth 100000 in
set_option maxHeartbeats 4000000 in
theorem readBlocks_falls (s : ByteArray) (w : World) (hz : nzL s.data.toList) (hs : s.size ≤ 605) (hcut : (rdB s.data.toList).2 ≠ []) :
    Calls Try.prog 139 #[.string s] w fun e w' => ∃ v, e = .returned (.tuple #[v, .string ⟨(rdB s.data.toList).2.toArray⟩]) ∧ w'.ownsRow w.heap.size 5 1 v ((rdB s.data.toList).1.flatMap txB).length (((rdB s.data.toList).1.flatMap txB).map byteV) ∧ Below w.heap.size w w' := by
  obtain ⟨i0, hi, hz0, hz1, hz2⟩ := info_parts info_u8
  have HI := Lib.hid hi
  have HZ0 := Lib.hid hz0
  have HZ1 := Lib.hid hz1
  have HZ2 := Lib.hid hz2
  have HZ := Lib.hid hz
  have hzb := zero_bytes
  have hzt := zero_trunc
  have hmf : ∀ (fn : Fn) (first cap : Array Value) (w : World), (Instr.makeFunc fn first cap).run Try.prog w = .ok (.func fn first cap) w := fun _ _ _ _ => rfl
  clear hi hz0 hz1 hz2 hz
  refine (callsIn_wide (n := 3)).1 ?_
  refine callsIn_of_wp_marks Try.func139 rfl trivial ?_ rfl
  simp only [Try.ntmps139, List.size_toArray, List.length_cons, List.length_nil, Nat.reduceAdd, Nat.reduceSub, Array.replicate_succ, Array.replicate_zero, List.push_toArray, List.append_toArray, List.nil_append, List.cons_append]
  gi_wp2_with (refine ⟨trivial, ?_⟩; gi_at_call 142; refine (callsIn_wide.2 (blocksOf_make s _)).mono ?_; rintro e w' ⟨rfl, rfl⟩)
  clear hzb hzt hmf
  have hws : (((w.alloc (.cells #[.slice none 0 0] 22)).alloc (.cells #[.string ⟨#[]⟩] 149)).alloc (.cells #[.string s] 9)).heap.size = w.heap.size + 3 := by simp
  have hb1 : Boxed (((w.alloc (.cells #[.slice none 0 0] 22)).alloc (.cells #[.string ⟨#[]⟩] 149)).alloc (.cells #[.string s] 9)) w.heap.size 22 (.slice none 0 0) := ((Boxed.new w _ _).alloc _).alloc _
  have hb2 : Boxed (((w.alloc (.cells #[.slice none 0 0] 22)).alloc (.cells #[.string ⟨#[]⟩] 149)).alloc (.cells #[.string s] 9)) (w.heap.size + 1) 149 (.string ⟨#[]⟩) := by
    have h := (Boxed.new (w.alloc (.cells #[.slice none 0 0] 22)) 149 (.string ⟨#[]⟩)).alloc (.cells #[.string s] 9)
    rw [World.size_alloc] at h
    exact h
  have hb3 : (((w.alloc (.cells #[.slice none 0 0] 22)).alloc (.cells #[.string ⟨#[]⟩] 149)).alloc (.cells #[.string s] 9)).cell? ⟨w.heap.size + 1 + 1, 0, none⟩ = some (.string s) := by
    have h := (Boxed.new ((w.alloc (.cells #[.slice none 0 0] 22)).alloc (.cells #[.string ⟨#[]⟩] 149)) 9 (.string s)).cell
    rw [World.size_alloc, World.size_alloc] at h
    exact h
  have hbe0 : Below w.heap.size w (((w.alloc (.cells #[.slice none 0 0] 22)).alloc (.cells #[.string ⟨#[]⟩] 149)).alloc (.cells #[.string s] 9)) := (((Below.refl _ w).alloc (Nat.le_refl _) _).alloc (by simp) _).alloc (by simp; omega) _
  generalize ((w.alloc (.cells #[.slice none 0 0] 22)).alloc (.cells #[.string ⟨#[]⟩] 149)).alloc (.cells #[.string s] 9) = W0 at *
  refine wpIn_rangeFunc_falls rfl (by omega) (gf := 144) (lb := #[.pointer (some ⟨w.heap.size + 1 + 1, 0, none⟩)]) rfl trivial (enters_of Try.func144 (by kernel_rfl) rfl)
    (blocks_falls (3 - 1) (by omega) (w.heap.size + 1 + 1) s HZ.out hcut W0 hb3 (by omega)) (fun _ => rfl)
    (fun pre W => (BR W w.heap.size w.heap.size (txP pre) ∧ Boxed W (w.heap.size + 1) 149 (.string ⟨#[]⟩)) ∧ Below w.heap.size w W)
    (OwnFrom.and (Own.from (Own.both (BRt.own w.heap.size w.heap.size) (boxed_own' (w.heap.size + 1) 149 (fun _ : List Bk => .string ⟨#[]⟩))) _) (ownFrom_below (Nat.le_refl _) (by omega)))
    ⟨⟨⟨_, hb1, ⟨rfl, .inl ⟨rfl, rfl⟩⟩, fun _ => rfl⟩, hb2⟩, hbe0⟩
    (fun x => { tmps := #[.string s, undef, .pointer (some ⟨w.heap.size, 0, none⟩), .pointer (some ⟨w.heap.size + 1, 0, none⟩), .string ⟨x.1.1.toArray⟩, .bool x.1.2, .func (.func 141) #[] #[.pointer (some ⟨w.heap.size + 1, 0, none⟩)], .string s, .func (.func 144) #[] #[.pointer (some ⟨w.heap.size + 1 + 1, 0, none⟩)], .string ⟨x.1.1.toArray⟩, .bool x.1.2, undef, undef, undef, undef, undef, undef, undef, undef, undef, undef, undef, undef, undef, undef], defers := [] }) ?assign ?body ?fall
  case assign =>
    intro l x W K hK
    gi_wp2
    exact hK
  case body =>
    clear hb1 hb2 hb3 hbe0
    rintro l pre ⟨⟨p, bo⟩, hp1, hp2⟩ W ⟨⟨⟨v, hv, hrow, hnil⟩, hcu⟩, hB⟩ hlen
    simp only at hp1 hp2
    have HW := Lib.hid (txP_snoc pre ⟨⟨p, bo⟩, hp1, hp2⟩)
    have hol := txP_len pre
    obtain ⟨T, hT⟩ : ∃ T : ByteArray, T = ⟨p.toArray⟩ := ⟨_, rfl⟩
    have HT := Lib.hid (show T.data.toList = p by rw [hT])
    have hT1 : 1 ≤ T.size := by rw [← size_list T, HT.out]; exact hp1
    have hT2 : T.size ≤ 255 := by rw [← size_list T, HT.out]; exact hp2
    simp only [← hT]
    obtain ⟨T2, hT2e⟩ : ∃ T2 : ByteArray, T2 = T.extract 1 T.size := ⟨_, rfl⟩
    have s1 : ∀ u : World, (Instr.slice 9 (.string T) (some (.int .i64 1)) none none).run Try.prog u = .ok (.string T2) u := fun u => by rw [hT2e]; exact slice_from T 1 hT1 u
    have HT2 := Lib.hid (show T2.data.toList = p.drop 1 by rw [hT2e, ext_from, HT.out])
    have hT2s : T2.size ≤ 254 := by rw [← size_list T2, HT2.out, List.length_drop, ← HT.out, size_list]; omega
    generalize txP pre = out at *
    obtain ⟨a2, cap2, w2, r1, r2, r3, r4, r5, r6⟩ := app_run i0 HI.out HZ0.out HZ1.out HZ2.out hv hrow hnil hB.size (Nat.le_refl _) T2 (by omega)
    have cv := hv.cell
    have c2 := r2.cell
    have f2 := r2.frozen
    have HR3 := Lib.hid r3
    have HR4 := Lib.hid r4
    have HB2 := Lib.hid (hB.trans r5)
    have HCu := Lib.hid (r6 (w.heap.size + 1) 149 _ (by decide) (by omega) hcu)
    clear hv hcu hrow hnil hB r2 r3 r4 r5 r6 hT hT2e
    gi_wp2
    refine wpIn_region_any (by kernel_rfl) ?_
    try (change wpAnyIn _ _ _ _ _ _ _ _ _ (World.drew _))
    refine wpAnyIn_ready (rs := [0, 1]) (by kernel_rfl) (by simp) ?_
    refine AllReadyIn.cons rfl (fun K hK => ?_) ?_
    · go_simp
      refine hK _ _ ?_
      clear hK K
      refine wpAnyIn_ready (rs := [1]) (by kernel_rfl) (by simp) ?_
      refine AllReadyIn.cons rfl (fun K hK => ?_) AllReadyIn.nil
      go_simp
      refine hK _ _ ?_
      clear hK K
      refine wpAnyIn_ready (rs := [2]) (by kernel_rfl) (by simp) ?_
      refine AllReadyIn.cons rfl (fun K hK => ?_) AllReadyIn.nil
      go_simp
      refine hK _ _ ?_
      clear hK K
      refine wpAnyIn_ready (rs := [3]) (by kernel_rfl) (by simp) ?_
      refine AllReadyIn.cons rfl (fun K hK => ?_) AllReadyIn.nil
      rw [if_pos (show _ = true by rfl)]
      unfold Oper.wpIn
      refine ⟨by simp [Oper.about, resolve, Target.leads, Sem.run_pure], ?_⟩
      rw [Oper.semAt_plain _ _ _ (by intro c hc'; cases hc')]
      simp [execOp, resolve, invoke, builtin, Act.eval, r1, Result.andThen]
      refine hK _ _ ?_
      clear hK K
      refine wpAnyIn_ready (rs := [4]) (by kernel_rfl) (by simp) ?_
      refine AllReadyIn.cons rfl (fun K hK => ?_) AllReadyIn.nil
      go_simp
      refine hK _ _ ?_
      clear hK K
      refine wpAnyIn_done (by kernel_rfl) ?_ _
      clear c2 f2 r1 cv
      generalize w2.setCell ⟨w.heap.size, 0, none⟩ (.slice a2 (out.length + T2.size) cap2) = W3 at *
      obtain ⟨v3, hv3, hrow3, hnil3⟩ := HR3.out
      have cv3 := hv3.cell
      have hn3 := HB2.out.size
      cases bo with
      | false =>
        have HX := Lib.hid (show txP (pre ++ [⟨(p, false), hp1, hp2⟩]) = out ++ T2.data.toList by rw [HW.out, txB, HT2.out]; simp)
        clear hv3 hrow3 hnil3
        gi_wp2
        exact ⟨HR4.out, ⟨by rw [HX.out]; exact HR3.out, HCu.out⟩, HB2.out⟩
      | true =>
        by_cases h4 : T.size ≤ 254
        · have HX := Lib.hid (show txP (pre ++ [⟨(p, true), hp1, hp2⟩]) = (out ++ T2.data.toList) ++ [0] by
            rw [HW.out, txB, HT2.out, if_pos ⟨rfl, by show p.length ≤ 254; rw [← HT.out, size_list]; exact h4⟩, List.append_assoc])
          have hl3 : (out ++ T2.data.toList).length ≤ 255 * 700 + 254 := by rw [List.length_append, size_list]; omega
          generalize out ++ T2.data.toList = out3 at *
          have HV3 := Lib.hid hv3
          have HRo3 := Lib.hid hrow3
          have HONE := Lib.hid (one_cell W3 5 (.int .u8 0))
          clear hv3 hrow3 hnil3
          gi_wp2_with (gi_at_builtin; refine wpListIn_append_own _ rfl _ _ 22 rfl w.heap.size 5 i0 (.int .u8 0) 1 1 Try.underlying22 HI.out HZ0.out HZ1.out HZ2.out rfl (by decide) _ out3.length (out3.map byteV) rfl (HRo3.out.alloc _) ⟨W3.heap.size, 0, none⟩ 1 1 [.int .u8 0] rfl rfl HONE.out (by simp [Value.oneCell']) (by unfold maxLen; omega) (by omega) (by rw [World.size_alloc]; omega) ?_; intro v4 w4 hown4 hg4 _; obtain ⟨g4, cap4, rfl⟩ := ownsRow_succ hown4; obtain ⟨hvA, hvB, hrB, hkB, hbB, hoB⟩ := app_store (HV3.out.alloc _) (HRo3.out.alloc _) (by rw [World.size_alloc]; omega) (Nat.le_refl _) hown4 hg4; have cA := hvA.cell; have fA := hvA.frozen; have HVB := Lib.hid hvB; have HRB := Lib.hid hrB; have HKB := Lib.hid (HR4.out.trans ((KeepsOthers.alloc _ _).trans hkB)); have HBB := Lib.hid (HB2.out.trans (((Below.refl _ _).alloc hn3 _).trans hbB)); have HCB := Lib.hid (hoB _ _ _ (by decide) (by omega) (HCu.out.alloc _)); clear hvA hvB hrB hkB hbB hoB hown4 hg4)
          refine ⟨HKB.out, ⟨⟨_, HVB.out, ?_, ?_⟩, HCB.out⟩, HBB.out⟩
          · rw [HX.out, List.length_append, List.map_append]; exact HRB.out
          · intro h; rw [HX.out] at h; simp at h
        · have HX := Lib.hid (show txP (pre ++ [⟨(p, true), hp1, hp2⟩]) = out ++ T2.data.toList by
            rw [HW.out, txB, HT2.out, if_neg (by rintro ⟨_, h⟩; apply h4; rw [← size_list T, HT.out]; exact h), List.append_nil])
          clear hv3 hrow3 hnil3
          gi_wp2
          exact ⟨HR4.out, ⟨by rw [HX.out]; exact HR3.out, HCu.out⟩, HB2.out⟩
    refine AllReadyIn.cons rfl (fun K hK => ?_) AllReadyIn.nil
    go_simp
    refine hK _ _ ?_
    clear hK K
    refine wpAnyIn_ready (rs := [0, 2]) (by kernel_rfl) (by simp) ?_
    refine AllReadyIn.cons rfl (fun K hK => ?_) ?_
    · go_simp
      refine hK _ _ ?_
      clear hK K
      refine wpAnyIn_ready (rs := [2]) (by kernel_rfl) (by simp) ?_
      refine AllReadyIn.cons rfl (fun K hK => ?_) AllReadyIn.nil
      go_simp
      refine hK _ _ ?_
      clear hK K
      refine wpAnyIn_ready (rs := [3]) (by kernel_rfl) (by simp) ?_
      refine AllReadyIn.cons rfl (fun K hK => ?_) AllReadyIn.nil
      rw [if_pos (show _ = true by rfl)]
      unfold Oper.wpIn
      refine ⟨by simp [Oper.about, resolve, Target.leads, Sem.run_pure], ?_⟩
      rw [Oper.semAt_plain _ _ _ (by intro c hc'; cases hc')]
      simp [execOp, resolve, invoke, builtin, Act.eval, r1, Result.andThen]
      refine hK _ _ ?_
      clear hK K
      refine wpAnyIn_ready (rs := [4]) (by kernel_rfl) (by simp) ?_
      refine AllReadyIn.cons rfl (fun K hK => ?_) AllReadyIn.nil
      go_simp
      refine hK _ _ ?_
      clear hK K
      refine wpAnyIn_done (by kernel_rfl) ?_ _
      clear c2 f2 r1 cv
      generalize w2.setCell ⟨w.heap.size, 0, none⟩ (.slice a2 (out.length + T2.size) cap2) = W3 at *
      obtain ⟨v3, hv3, hrow3, hnil3⟩ := HR3.out
      have cv3 := hv3.cell
      have hn3 := HB2.out.size
      cases bo with
      | false =>
        have HX := Lib.hid (show txP (pre ++ [⟨(p, false), hp1, hp2⟩]) = out ++ T2.data.toList by rw [HW.out, txB, HT2.out]; simp)
        clear hv3 hrow3 hnil3
        gi_wp2
        exact ⟨HR4.out, ⟨by rw [HX.out]; exact HR3.out, HCu.out⟩, HB2.out⟩
      | true =>
        by_cases h4 : T.size ≤ 254
        · have HX := Lib.hid (show txP (pre ++ [⟨(p, true), hp1, hp2⟩]) = (out ++ T2.data.toList) ++ [0] by
            rw [HW.out, txB, HT2.out, if_pos ⟨rfl, by show p.length ≤ 254; rw [← HT.out, size_list]; exact h4⟩, List.append_assoc])
          have hl3 : (out ++ T2.data.toList).length ≤ 255 * 700 + 254 := by rw [List.length_append, size_list]; omega
          generalize out ++ T2.data.toList = out3 at *
          have HV3 := Lib.hid hv3
          have HRo3 := Lib.hid hrow3
          have HONE := Lib.hid (one_cell W3 5 (.int .u8 0))
          clear hv3 hrow3 hnil3
          gi_wp2_with (gi_at_builtin; refine wpListIn_append_own _ rfl _ _ 22 rfl w.heap.size 5 i0 (.int .u8 0) 1 1 Try.underlying22 HI.out HZ0.out HZ1.out HZ2.out rfl (by decide) _ out3.length (out3.map byteV) rfl (HRo3.out.alloc _) ⟨W3.heap.size, 0, none⟩ 1 1 [.int .u8 0] rfl rfl HONE.out (by simp [Value.oneCell']) (by unfold maxLen; omega) (by omega) (by rw [World.size_alloc]; omega) ?_; intro v4 w4 hown4 hg4 _; obtain ⟨g4, cap4, rfl⟩ := ownsRow_succ hown4; obtain ⟨hvA, hvB, hrB, hkB, hbB, hoB⟩ := app_store (HV3.out.alloc _) (HRo3.out.alloc _) (by rw [World.size_alloc]; omega) (Nat.le_refl _) hown4 hg4; have cA := hvA.cell; have fA := hvA.frozen; have HVB := Lib.hid hvB; have HRB := Lib.hid hrB; have HKB := Lib.hid (HR4.out.trans ((KeepsOthers.alloc _ _).trans hkB)); have HBB := Lib.hid (HB2.out.trans (((Below.refl _ _).alloc hn3 _).trans hbB)); have HCB := Lib.hid (hoB _ _ _ (by decide) (by omega) (HCu.out.alloc _)); clear hvA hvB hrB hkB hbB hoB hown4 hg4)
          refine ⟨HKB.out, ⟨⟨_, HVB.out, ?_, ?_⟩, HCB.out⟩, HBB.out⟩
          · rw [HX.out, List.length_append, List.map_append]; exact HRB.out
          · intro h; rw [HX.out] at h; simp at h
        · have HX := Lib.hid (show txP (pre ++ [⟨(p, true), hp1, hp2⟩]) = out ++ T2.data.toList by
            rw [HW.out, txB, HT2.out, if_neg (by rintro ⟨_, h⟩; apply h4; rw [← size_list T, HT.out]; exact h), List.append_nil])
          clear hv3 hrow3 hnil3
          gi_wp2
          exact ⟨HR4.out, ⟨by rw [HX.out]; exact HR3.out, HCu.out⟩, HB2.out⟩
    refine AllReadyIn.cons rfl (fun K hK => ?_) AllReadyIn.nil
    go_simp
    refine hK _ _ ?_
    clear hK K
    refine wpAnyIn_ready (rs := [0]) (by kernel_rfl) (by simp) ?_
    refine AllReadyIn.cons rfl (fun K hK => ?_) AllReadyIn.nil
    go_simp
    refine hK _ _ ?_
    clear hK K
    refine wpAnyIn_ready (rs := [3]) (by kernel_rfl) (by simp) ?_
    refine AllReadyIn.cons rfl (fun K hK => ?_) AllReadyIn.nil
    rw [if_pos (show _ = true by rfl)]
    unfold Oper.wpIn
    refine ⟨by simp [Oper.about, resolve, Target.leads, Sem.run_pure], ?_⟩
    rw [Oper.semAt_plain _ _ _ (by intro c hc'; cases hc')]
    simp [execOp, resolve, invoke, builtin, Act.eval, r1, Result.andThen]
    refine hK _ _ ?_
    clear hK K
    refine wpAnyIn_ready (rs := [4]) (by kernel_rfl) (by simp) ?_
    refine AllReadyIn.cons rfl (fun K hK => ?_) AllReadyIn.nil
    go_simp
    refine hK _ _ ?_
    clear hK K
    refine wpAnyIn_done (by kernel_rfl) ?_ _
    clear c2 f2 r1 cv
    generalize w2.setCell ⟨w.heap.size, 0, none⟩ (.slice a2 (out.length + T2.size) cap2) = W3 at *
    obtain ⟨v3, hv3, hrow3, hnil3⟩ := HR3.out
    have cv3 := hv3.cell
    have hn3 := HB2.out.size
    cases bo with
    | false =>
      have HX := Lib.hid (show txP (pre ++ [⟨(p, false), hp1, hp2⟩]) = out ++ T2.data.toList by rw [HW.out, txB, HT2.out]; simp)
      clear hv3 hrow3 hnil3
      gi_wp2
      exact ⟨HR4.out, ⟨by rw [HX.out]; exact HR3.out, HCu.out⟩, HB2.out⟩
    | true =>
      by_cases h4 : T.size ≤ 254
      · have HX := Lib.hid (show txP (pre ++ [⟨(p, true), hp1, hp2⟩]) = (out ++ T2.data.toList) ++ [0] by
          rw [HW.out, txB, HT2.out, if_pos ⟨rfl, by show p.length ≤ 254; rw [← HT.out, size_list]; exact h4⟩, List.append_assoc])
        have hl3 : (out ++ T2.data.toList).length ≤ 255 * 700 + 254 := by rw [List.length_append, size_list]; omega
        generalize out ++ T2.data.toList = out3 at *
        have HV3 := Lib.hid hv3
        have HRo3 := Lib.hid hrow3
        have HONE := Lib.hid (one_cell W3 5 (.int .u8 0))
        clear hv3 hrow3 hnil3
        gi_wp2_with (gi_at_builtin; refine wpListIn_append_own _ rfl _ _ 22 rfl w.heap.size 5 i0 (.int .u8 0) 1 1 Try.underlying22 HI.out HZ0.out HZ1.out HZ2.out rfl (by decide) _ out3.length (out3.map byteV) rfl (HRo3.out.alloc _) ⟨W3.heap.size, 0, none⟩ 1 1 [.int .u8 0] rfl rfl HONE.out (by simp [Value.oneCell']) (by unfold maxLen; omega) (by omega) (by rw [World.size_alloc]; omega) ?_; intro v4 w4 hown4 hg4 _; obtain ⟨g4, cap4, rfl⟩ := ownsRow_succ hown4; obtain ⟨hvA, hvB, hrB, hkB, hbB, hoB⟩ := app_store (HV3.out.alloc _) (HRo3.out.alloc _) (by rw [World.size_alloc]; omega) (Nat.le_refl _) hown4 hg4; have cA := hvA.cell; have fA := hvA.frozen; have HVB := Lib.hid hvB; have HRB := Lib.hid hrB; have HKB := Lib.hid (HR4.out.trans ((KeepsOthers.alloc _ _).trans hkB)); have HBB := Lib.hid (HB2.out.trans (((Below.refl _ _).alloc hn3 _).trans hbB)); have HCB := Lib.hid (hoB _ _ _ (by decide) (by omega) (HCu.out.alloc _)); clear hvA hvB hrB hkB hbB hoB hown4 hg4)
        refine ⟨HKB.out, ⟨⟨_, HVB.out, ?_, ?_⟩, HCB.out⟩, HBB.out⟩
        · rw [HX.out, List.length_append, List.map_append]; exact HRB.out
        · intro h; rw [HX.out] at h; simp at h
      · have HX := Lib.hid (show txP (pre ++ [⟨(p, true), hp1, hp2⟩]) = out ++ T2.data.toList by
          rw [HW.out, txB, HT2.out, if_neg (by rintro ⟨_, h⟩; apply h4; rw [← size_list T, HT.out]; exact h), List.append_nil])
        clear hv3 hrow3 hnil3
        gi_wp2
        exact ⟨HR4.out, ⟨by rw [HX.out]; exact HR3.out, HCu.out⟩, HB2.out⟩
  case fall =>
    clear hb1 hb2 hb3 hbe0
    rintro D ys W hD hS ⟨⟨⟨v, hv, hrow, hnil⟩, hcu⟩, hB⟩ hK
    have hcu2 : Boxed (W.putObj D (.deferred none)) (w.heap.size + 1) 149 (.string ⟨#[]⟩) := hcu.kept (grownBy_putObj' W D _) (by intro e; injection e with e; subst e; rw [show W.heap[w.heap.size + 1]? = _ from hcu] at hK; cases hK)
    refine ⟨by simp, .inl ⟨_, _, rfl, run_takeDeferred hK, ?_⟩⟩
    refine ⟨by simp, .inr ⟨by simp [Fence.wide], .func 141, #[.pointer (some ⟨w.heap.size + 1, 0, none⟩)], 141, #[.pointer (some ⟨w.heap.size + 1, 0, none⟩)], rfl, by simp [go_sem], by simp [Target.leads, Fence.wide], ?_⟩⟩
    refine (catch_cut _ (w.heap.size + 1) _ _ _ hcu2.cell hcu2.frozen).mono ?_
    rintro e u' w' ⟨rfl, rfl, rfl⟩
    have hvD : Boxed (W.putObj D (.deferred none)) w.heap.size 22 v := hv.kept (grownBy_putObj' W D _) (by intro e; injection e with e; subst e; rw [show W.heap[w.heap.size]? = _ from hv] at hK; cases hK)
    have hcuD := hcu2
    have hrD := ownsRow_putObj hrow (.deferred none) hK rfl
    have hBD : Below w.heap.size w (W.putObj D (.deferred none)) := hB.trans (belowK_b (w := w) (Nat.le_refl _) W D _ _ (by omega) hK rfl rfl)
    have hvF : Boxed ((W.putObj D (.deferred none)).setCell ⟨w.heap.size + 1, 0, none⟩ (.string ⟨(rdB s.data.toList).2.toArray⟩)) w.heap.size 22 v := hvD.kept (grownBy_setCell' _ _ _) (by simp)
    have hcF : Boxed ((W.putObj D (.deferred none)).setCell ⟨w.heap.size + 1, 0, none⟩ (.string ⟨(rdB s.data.toList).2.toArray⟩)) (w.heap.size + 1) 149 (.string ⟨(rdB s.data.toList).2.toArray⟩) := hcuD.set _
    have hrF : ((W.putObj D (.deferred none)).setCell ⟨w.heap.size + 1, 0, none⟩ (.string ⟨(rdB s.data.toList).2.toArray⟩)).ownsRow w.heap.size 5 1 v (txP ys).length ((txP ys).map byteV) := hrD.kept (grownBy_setCell' _ _ _) (.inr (hcuD.not_row (by decide) hrD).symm)
    have hBF : Below w.heap.size w ((W.putObj D (.deferred none)).setCell ⟨w.heap.size + 1, 0, none⟩ (.string ⟨(rdB s.data.toList).2.toArray⟩)) := hBD.setCell (p := ⟨w.heap.size + 1, 0, none⟩) (by simp) _
    have hcv := hvF.cell
    have hcc := hcF.cell
    have etx : (rdB s.data.toList).1.flatMap txB = txP ys := by rw [txP, hS]
    simp only [LeavesInM, settle]
    rw [etx]
    refine ⟨.tuple #[v, .string ⟨(rdB s.data.toList).2.toArray⟩], ?_, v, rfl, hrF, hBF⟩
    simp [results, go_sem, Try.results139, hcv, hcc]
end Go.Proofs.Ytfojlpnnhghcbaa
