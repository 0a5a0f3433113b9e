/- The blocks written one behind the other, in the program. -/
import Derived.Test.YtfojlpnnhghcbaaCobB
import Derived.Lib.AppendStr
import Derived.Maps.AppendAt
namespace Go.Proofs.Ytfojlpnnhghcbaa
open Go.ChangeShapes Go.WideShapes Go.ChangeAt Go.RowKit Go.Shelf
attribute [local go_sem] Oper.semAt_some
theorem wpListIn_append_str {F : Fence} {n : Nat} {P : Program} (w : World) {ops : Array Oper} {rest : List Oper} {o : Oper} {a : Act} {Q : Exit → Act → World → Prop} (hg : o.guard = none) (sl x : Operand) (t u : TypeId)
    (hop : o.op = .call { callee := .builtin .append, args := #[sl, x], argTypes := #[t, u] })
    (base : Nat) (e : TypeId) (i : TypeInfo) (ht : P.underlying t = some (.slice e)) (hu : P.underlying u = some .string) (hi : P.info? e = some i) (hz : i.zero = some (.int .u8 0)) (hsize : i.size = 1) (hby : i.bytes = 1)
    (v : Value) (k : Nat) (xs : List Value) (hs : a.eval sl = v) (hown : w.ownsRow base e 1 v k xs) (s : ByteArray) (hx : a.eval x = .string s) (hb : k + s.size ≤ 1000000) (hbase : base ≤ w.heap.size)
    (hK : ∀ v' w', w'.ownsRow base e 1 v' (k + s.size) (xs ++ Lib.strCells s) → w.grownBy w' v.ownBlock → (v' = .slice none 0 0 ↔ v = .slice none 0 0 ∧ s.size = 0) → wpListIn F n P ops Q rest (a.put o.dst v') w') :
    wpListIn F n P ops Q (o :: rest) a w := by
  refine wpListIn_plain hg fun K hK' => ?_
  obtain ⟨v', w', hrun, r1, r2, r3⟩ := Lib.run_append_own_string (P := P) (w := w) base t u o.type e i ht hu hi hz hsize hby v k xs hown s (by unfold maxLen; omega) (by omega) hbase
  unfold Oper.wpIn
  refine ⟨by simp [Oper.about, hop, resolve, Target.leads, Sem.run_pure], ?_⟩
  rw [Oper.semAt_plain F _ _ (by rw [hop]; intro c hc'; cases hc')]
  simp [execOp, hop, resolve, invoke, builtin, hs, hx, hrun, Result.andThen]
  exact hK' _ _ (hK v' w' r1 r2 r3)
/-- behind an append onto the row that a box holds, and the store of what came into that box -/
theorem app_store {W w1 : World} {n0 b : Nat} {v v' : Value} {k m : Nat} {xs ys : List Value} (hv : Boxed W b 22 v) (hrow : W.ownsRow n0 5 1 v k xs) (hn0 : n0 ≤ W.heap.size) (hB : n0 ≤ b)
    (hown' : w1.ownsRow n0 5 1 v' m ys) (hgrow : W.grownBy w1 v.ownBlock) :
    Boxed w1 b 22 v ∧ Boxed (w1.setCell ⟨b, 0, none⟩ v') b 22 v' ∧ (w1.setCell ⟨b, 0, none⟩ v').ownsRow n0 5 1 v' m ys ∧ KeepsOthers W (w1.setCell ⟨b, 0, none⟩ v') ∧ Below n0 W (w1.setCell ⟨b, 0, none⟩ v') ∧
      (∀ c t u, t ≠ 5 → c ≠ b → Boxed W c t u → Boxed (w1.setCell ⟨b, 0, none⟩ v') c t u) := by
  have hv1 : Boxed w1 b 22 v := hv.kept hgrow (hv.not_row (by decide) hrow)
  refine ⟨hv1, hv1.set v', hown'.kept (grownBy_setCell' w1 b v') (.inr (hv1.not_row (by decide) hown').symm), ?_, ?_, ?_⟩
  · refine (KeepsOthers.of_grownBy hgrow fun j o ej hj => ?_).trans (KeepsOthers.setCell _ _ _)
    rcases hrow.2 with ⟨rfl, _⟩ | ⟨g, cap, cur, rfl, _, hgb, _⟩
    · simp [Value.ownBlock] at ej
    · obtain rfl : g = j := by simpa [Value.ownBlock] using ej
      rw [hgb] at hj; cases hj; rfl
  · refine ((Below.refl n0 W).grown hgrow hn0 fun j ej => ?_).setCell (p := ⟨b, 0, none⟩) hB v'
    rcases hrow.2 with ⟨rfl, _⟩ | ⟨g, cap, cur, rfl, hb, _, _⟩
    · simp [Value.ownBlock] at ej
    · obtain rfl : g = j := by simpa [Value.ownBlock] using ej
      exact hb
  · intro c t u ht hc hbx
    exact (hbx.kept hgrow (hbx.not_row ht hrow)).kept (grownBy_setCell' w1 b v') (by simpa using hc)
theorem ownsRow_pos {W : World} {base : Nat} {e : TypeId} {size : Nat} {v : Value} {k : Nat} {xs : List Value} (h : W.ownsRow base e size v k xs) (hk : 0 < k) : ∃ g cap, v = .slice (some ⟨g, 0, none⟩) k cap := by
  obtain ⟨j, rfl⟩ : ∃ j, k = j + 1 := ⟨k - 1, by omega⟩
  exact ownsRow_succ h
theorem strCells_map (s : ByteArray) : Lib.strCells s = s.data.toList.map byteV := by
  simp [Lib.strCells, byteV]
/-- the box b holds a row of bytes of the call's own -/
def BR (W : World) (n0 b : Nat) (l : List UInt8) : Prop := ∃ v, Boxed W b 22 v ∧ W.ownsRow n0 5 1 v l.length (l.map byteV) ∧ (l = [] → v = .slice none 0 0)
def wrP (pre : List Pc) : List UInt8 := (pre.map (·.1)).flatMap putB
def laP (pre : List Pc) : Nat := (wrP pre.dropLast).length
theorem wrP_snoc (pre : List Pc) (x : Pc) : wrP (pre ++ [x]) = wrP pre ++ putB x.1 := by simp [wrP]
theorem laP_snoc (pre : List Pc) (x : Pc) : laP (pre ++ [x]) = (wrP pre).length := by simp [laP]
theorem putB_len (l : List UInt8) : (putB l).length = l.length + 1 := by simp [putB]
theorem wrP_len (pre : List Pc) : (wrP pre).length ≤ 255 * pre.length := by
  induction pre with
  | nil => simp [wrP]
  | cons x l ih =>
    have h : wrP (x :: l) = putB x.1 ++ wrP l := by simp [wrP]
    have := x.2
    rw [h, List.length_append, putB_len, List.length_cons]; omega
theorem piecesOf_make (s : ByteArray) (w : World) :
    Calls Try.prog 143 #[.string s] w fun e w' => e = .returned (.func (.func 145) #[] #[.pointer (some ⟨w.heap.size, 0, none⟩)]) ∧ w' = w.alloc (.cells #[.string s] 9) := by
  have hmf : ∀ (fn : Fn) (first cap : Array Value) (w : World), (Instr.makeFunc fn first cap).run Try.prog w = .ok (.func fn first cap) w := fun _ _ _ _ => rfl
  go_enter Try.func143, Try.ntmps143
  go_wp2
  go_ret
  exact ⟨rfl, rfl⟩
theorem zero_bytes (w : World) : (zeroValue 22).run Try.prog w = .ok (.slice none 0 0) w := by kernel_rfl
theorem zero_int (w : World) : (zeroValue 3).run Try.prog w = .ok (.int .i64 0) w := by kernel_rfl
theorem BR.own (n0 b : Nat) : Own (fun (pre : List Pc) W => BR W n0 b (wrP pre)) :=
  holdsRow_own n0 b 22 5 1 (fun pre => (wrP pre).length) (fun pre => (wrP pre).map byteV) (fun pre v => wrP pre = [] → v = .slice none 0 0)
theorem boxed_own' {β : Type} (b : Nat) (t : TypeId) (f : β → Value) : Own (fun (s : β) W => Boxed W b t (f s)) := by
  intro s X Y row hv hg hrow
  refine hv.kept hg (fun e' => ?_)
  obtain ⟨o, ho, hc⟩ := hrow b e'.symm
  rw [show X.heap[b]? = _ from hv] at ho; cases ho; cases hc
theorem Own.both {β : Type} {I J : β → World → Prop} (h : Own I) (k : Own J) : Own (fun s W => I s W ∧ J s W) := fun s A B row hs hg hr => ⟨h s A B row hs.1 hg hr, k s A B row hs.2 hg hr⟩
set_option maxRecDepth 100000 in
set_option maxHeartbeats 4000000 in
theorem writeBlocks_any (s : ByteArray) (w : World) (hs : s.size ≤ 600) :
    Calls Try.prog 140 #[.string s] w fun e w' => ∃ (v : Value) (pre : List Pc), pre.map (·.1) = pcs s.data.toList ∧ e = .returned (.tuple #[v, .int .i64 (laP pre)]) ∧ w'.ownsRow w.heap.size 5 1 v (wrP pre).length ((wrP pre).map byteV) ∧ Below w.heap.size w w' := by
  obtain ⟨i0, hi, hz0, hz1, hz2⟩ := info_parts info_u8
  have HI := Lib.hid hi
  have HZ0 := Lib.hid hz0
  have HZ1 := Lib.hid hz1
  have HZ2 := Lib.hid hz2
  have HSL := Lib.hid (size_list s)
  have hz := zero_bytes
  have hzi := zero_int
  clear hi hz0 hz1 hz2
  refine (callsIn_wide (n := 3)).1 ?_
  refine callsIn_of_wp_marks Try.func140 rfl trivial ?_ rfl
  simp only [Try.ntmps140, List.size_toArray, List.length_cons, List.length_nil, Nat.reduceAdd, Nat.reduceSub, Array.replicate_succ, Array.replicate_zero, List.push_toArray, List.append_toArray, List.nil_append, List.cons_append]
  gi_wp2_with (refine ⟨trivial, ?_⟩; gi_at_call 143; refine (callsIn_wide.2 (piecesOf_make s _)).mono ?_; rintro e w' ⟨rfl, rfl⟩)
  clear hz hzi
  have hws : (((w.alloc (.cells #[.slice none 0 0] 22)).alloc (.cells #[.int .i64 0] 3)).alloc (.cells #[.string s] 9)).heap.size = w.heap.size + 3 := by simp
  have hb1 : Boxed (((w.alloc (.cells #[.slice none 0 0] 22)).alloc (.cells #[.int .i64 0] 3)).alloc (.cells #[.string s] 9)) w.heap.size 22 (.slice none 0 0) := ((Boxed.new w _ _).alloc _).alloc _
  have hb2 : Boxed (((w.alloc (.cells #[.slice none 0 0] 22)).alloc (.cells #[.int .i64 0] 3)).alloc (.cells #[.string s] 9)) (w.heap.size + 1) 3 (.int .i64 0) := by
    have h := (Boxed.new (w.alloc (.cells #[.slice none 0 0] 22)) 3 (.int .i64 0)).alloc (.cells #[.string s] 9)
    rw [World.size_alloc] at h
    exact h
  have hb3 : (((w.alloc (.cells #[.slice none 0 0] 22)).alloc (.cells #[.int .i64 0] 3)).alloc (.cells #[.string s] 9)).cell? ⟨w.heap.size + 1 + 1, 0, none⟩ = some (.string s) := by
    have h := (Boxed.new ((w.alloc (.cells #[.slice none 0 0] 22)).alloc (.cells #[.int .i64 0] 3)) 9 (.string s)).cell
    rw [World.size_alloc, World.size_alloc] at h
    exact h
  have hbe0 : Below w.heap.size w (((w.alloc (.cells #[.slice none 0 0] 22)).alloc (.cells #[.int .i64 0] 3)).alloc (.cells #[.string s] 9)) := (((Below.refl _ w).alloc (Nat.le_refl _) _).alloc (by simp) _).alloc (by simp; omega) _
  generalize ((w.alloc (.cells #[.slice none 0 0] 22)).alloc (.cells #[.int .i64 0] 3)).alloc (.cells #[.string s] 9) = W0 at *
  refine wpIn_rangeFunc_ownF rfl (by omega) (gf := 145) (lb := #[.pointer (some ⟨w.heap.size + 1 + 1, 0, none⟩)]) rfl trivial (enters_of Try.func145 (by kernel_rfl) rfl)
    (pieces_stops (3 - 1) (by omega) (w.heap.size + 1 + 1) s hs W0 hb3 (by omega)) (fun _ _ => trivial) (fun _ _ _ _ _ _ _ _ => trivial) (Below.refl _ _) (fun _ => rfl)
    (fun pre W => (BR W w.heap.size w.heap.size (wrP pre) ∧ Boxed W (w.heap.size + 1) 3 (.int .i64 (laP pre))) ∧ Below w.heap.size w W)
    (fun _ _ _ => False)
    (OwnFrom.and (Own.from (Own.both (BR.own w.heap.size w.heap.size) (boxed_own' (w.heap.size + 1) 3 (fun pre : List Pc => .int .i64 (laP pre)))) _) (ownFrom_below (Nat.le_refl _) (by omega)))
    (fun _ _ _ _ _ hs _ _ => hs)
    ⟨⟨⟨_, hb1, ⟨rfl, .inl ⟨rfl, rfl⟩⟩, fun _ => rfl⟩, hb2⟩, hbe0⟩
    (fun x => { tmps := #[.string s, undef, .slice none 0 0, .int .i64 0, .pointer (some ⟨w.heap.size, 0, none⟩), .pointer (some ⟨w.heap.size + 1, 0, none⟩), .string ⟨x.1.toArray⟩, .string s, .func (.func 145) #[] #[.pointer (some ⟨w.heap.size + 1 + 1, 0, none⟩)], .string ⟨x.1.toArray⟩, undef, undef, undef, undef, undef, undef, undef, undef, undef, undef, undef, undef, undef, undef], defers := [] }) ?assign ?body ?done ?stop
  case assign =>
    intro l x W K hK
    gi_wp2
    exact hK
  case body =>
    clear hb1 hb2 hb3 hbe0
    rintro l pre ⟨p, hp⟩ W ⟨⟨⟨v, hv, hrow, hnil⟩, hla⟩, hB⟩ hlen
    have HW := Lib.hid (wrP_snoc pre ⟨p, hp⟩)
    have HL := Lib.hid (laP_snoc pre ⟨p, hp⟩)
    have hol := wrP_len pre
    obtain ⟨a0, cap0, hshape, _⟩ := (show RB W w.heap.size v (wrP pre) from ⟨hrow, hnil⟩).ob.shape
    subst hshape
    generalize wrP pre = out at *
    obtain ⟨T, hT⟩ : ∃ T : ByteArray, T = ⟨p.toArray⟩ := ⟨_, rfl⟩
    have HT := Lib.hid (show T.data.toList = p by rw [hT])
    have hTs : T.size ≤ 254 := by rw [← size_list T, HT.out]; exact hp
    simp only [← hT]
    have hu8 : IntKind.u8.wrap ((T.size : Int) + 1) = (T.size : Int) + 1 := by rw [IntKind.wrap_u8]; omega
    have cv := hv.cell
    have cl := hla.cell
    have fl := hla.frozen
    have hv1 : Boxed (W.setCell ⟨w.heap.size + 1, 0, none⟩ (.int .i64 (out.length : Int))) w.heap.size 22 (.slice a0 out.length cap0) := hv.kept (grownBy_setCell' W _ _) (by simp)
    have hla1 : Boxed (W.setCell ⟨w.heap.size + 1, 0, none⟩ (.int .i64 (out.length : Int))) (w.heap.size + 1) 3 (.int .i64 (out.length : Int)) := hla.set _
    have hrow1 : (W.setCell ⟨w.heap.size + 1, 0, none⟩ (.int .i64 (out.length : Int))).ownsRow w.heap.size 5 1 (.slice a0 out.length cap0) out.length (out.map byteV) := hrow.kept (grownBy_setCell' W _ _) (.inr (hla.not_row (by decide) hrow).symm)
    have hbe1 : Below w.heap.size w (W.setCell ⟨w.heap.size + 1, 0, none⟩ (.int .i64 (out.length : Int))) := hB.setCell (p := ⟨w.heap.size + 1, 0, none⟩) (by simp) _
    have hk1 := KeepsOthers.setCell W ⟨w.heap.size + 1, 0, none⟩ (.int .i64 (out.length : Int))
    have cv1 := hv1.cell
    have hn1 : w.heap.size ≤ (W.setCell ⟨w.heap.size + 1, 0, none⟩ (.int .i64 (out.length : Int))).heap.size := hbe1.size
    have HONE := Lib.hid (show ∀ j u, [Value.int .u8 ((T.size : Int) + 1)][j]? = some u → ((W.setCell ⟨w.heap.size + 1, 0, none⟩ (.int .i64 (out.length : Int))).alloc (.cells #[.int .u8 ((T.size : Int) + 1)] 5)).cell? ((⟨W.heap.size, 0, none⟩ : Addr).add j) = some u by
      have h := one_cell (W.setCell ⟨w.heap.size + 1, 0, none⟩ (.int .i64 (out.length : Int))) 5 (.int .u8 ((T.size : Int) + 1))
      rwa [show (W.setCell ⟨w.heap.size + 1, 0, none⟩ (.int .i64 (out.length : Int))).heap.size = W.heap.size by simp] at h)
    have HV1 := Lib.hid hv1
    have HLA1 := Lib.hid hla1
    have HR1 := Lib.hid hrow1
    have HB1 := Lib.hid hbe1
    have HK1 := Lib.hid hk1
    clear hv hla hrow hnil hB hv1 hla1 hrow1 hbe1 hk1 hT
    gi_wp2_with (first | (gi_at_builtin; refine wpListIn_append_own _ rfl _ _ 22 rfl w.heap.size 5 i0 (.int .u8 0) 1 1 Try.underlying22 HI.out HZ0.out HZ1.out HZ2.out rfl (by decide) _ out.length (out.map byteV) rfl (HR1.out.alloc _) ⟨W.heap.size, 0, none⟩ 1 1 [.int .u8 ((T.size : Int) + 1)] rfl rfl HONE.out (by simp [Value.oneCell']) (by unfold maxLen; omega) (by omega) (by rw [World.size_alloc]; omega) ?_; intro v2 w2 hown2 hg2 _; obtain ⟨g2, cap2, rfl⟩ := ownsRow_succ hown2; obtain ⟨hvA, hvB, hrB, hkB, hbB, hoB⟩ := app_store (HV1.out.alloc _) (HR1.out.alloc _) (by rw [World.size_alloc]; omega) (Nat.le_refl _) hown2 hg2; have cA := hvA.cell; have fA := hvA.frozen; have cB := hvB.cell; have HVB := Lib.hid hvB; have HRB := Lib.hid hrB; have HKB := Lib.hid (HK1.out.trans ((KeepsOthers.alloc _ _).trans hkB)); have HBB := Lib.hid (HB1.out.trans (((Below.refl _ _).alloc hn1 _).trans hbB)); have HLAB := Lib.hid (hoB _ _ _ (by decide) (by omega) (HLA1.out.alloc _)); have hnB := HBB.out.size; clear hvA hvB hrB hkB hbB hoB hown2 hg2) | (gi_at_builtin; refine wpListIn_append_str _ rfl _ _ 22 9 rfl w.heap.size 5 i0 Try.underlying22 Try.underlying9 HI.out HZ0.out HZ1.out HZ2.out _ _ _ rfl HRB.out T rfl (by omega) hnB ?_; intro v3 w3 hown3 hg3 _; obtain ⟨g3, cap3, rfl⟩ := ownsRow_pos hown3 (by omega); obtain ⟨hvC, hvD, hrD, hkD, hbD, hoD⟩ := app_store HVB.out HRB.out hnB (Nat.le_refl _) hown3 hg3; have cC := hvC.cell; have fC := hvC.frozen; have HVD := Lib.hid hvD; have HRD := Lib.hid hrD; have HKD := Lib.hid (HKB.out.trans hkD); have HBD := Lib.hid (HBB.out.trans hbD); have HLAD := Lib.hid (hoD _ _ _ (by decide) (by omega) HLAB.out); clear hvC hvD hrD hkD hbD hoD hown3 hg3))
    refine ⟨HKD.out, trivial, ⟨⟨_, HVD.out, ?_, ?_⟩, ?_⟩, HBD.out⟩
    · have e1 : (wrP (pre ++ [⟨p, hp⟩])).length = out.length + 1 + T.size := by rw [HW.out, List.length_append, putB_len, ← HT.out, size_list]; omega
      have e2 : (wrP (pre ++ [⟨p, hp⟩])).map byteV = out.map byteV ++ [.int .u8 ((T.size : Int) + 1)] ++ Lib.strCells T := by
        rw [HW.out, List.map_append, strCells_map, HT.out, putB, List.map_cons, List.append_assoc]
        congr 1
        show byteV _ :: _ = _ :: _
        congr 1
        unfold byteV
        rw [UInt8.toNat_ofNat', ← HT.out, size_list]
        exact val_int (by omega)
      rw [e1, e2]; exact HRD.out
    · intro h; rw [HW.out] at h; simp [putB] at h
    · rw [HL.out]; exact HLAD.out
  case done =>
    clear hb1 hb2 hb3 hbe0
    rintro D ys W hD hS ⟨⟨⟨v, hv, hrow, hnil⟩, hla⟩, hB⟩ hK
    have cv := hv.cell
    have cl := hla.cell
    have HRow := Lib.hid hrow
    have HB := Lib.hid hB
    have HK := Lib.hid hK
    have HS := Lib.hid hS
    clear hv hla hrow hnil hB hK hS
    gi_wp2
    gi_region
    all_goals gi_wp2
    refine ⟨by simp, .inl ⟨_, _, rfl, run_takeDeferred (w := W.drew) HK.out, ?_⟩⟩
    refine ⟨_, results_tmp2 rfl _ _ _, v, ys, HS.out, rfl, ?_, ?_⟩
    · exact ownsRow_putObj (W := W.drew) HRow.out (.deferred none) HK.out rfl
    · exact HB.out.drew.trans (belowK_b (w := w) (Nat.le_refl _) W.drew D _ _ (by omega) HK.out rfl rfl)
  case stop =>
    rintro D c pre W _ _ h _
    exact h.elim
end Go.Proofs.Ytfojlpnnhghcbaa
