/- How frames are written, in the program: the codecs looked up in a map of the call's own. -/
import Derived.Test.YtfojlpnnhghcbaaFEv
import Derived.Maps.OwnSet
namespace Go.Proofs.Ytfojlpnnhghcbaa
open Go.ChangeShapes Go.WideShapes Go.ChangeAt Go.RowKit
open Go.ChangeMaps Go.MapKept Go.Maps
abbrev cfV (a b d m : Int) : Value := .agg #[.int .i64 a, .int .i64 b, .int .i64 d, .int .i64 m]
def wayV (a m : Int) : Value := if a = 1 then .iface 87 (.agg #[.int .i64 m]) else if a = 2 then .iface 91 (.agg #[]) else if a = 3 then .iface 92 (.agg #[]) else .nilIface
def fieldsB (a b d m : Int) : Bool := kindB b && (inB d 0 40 && (decide (m = 0) || (decide (a = 1) && mapOkB m)))
theorem confB_fields (a b d m : Int) : confB ⟨a, b, d, m⟩ = (inB a 1 3 && fieldsB a b d m) := by
  unfold confB fieldsB
  cases inB a 1 3 with
  | false => rfl
  | true =>
    cases kindB b with
    | false => rfl
    | true =>
      cases inB d 0 40 with
      | false => rfl
      | true =>
        simp only [Bool.true_and]
        by_cases h : m = 0
        · subst h; simp [mapOkB]
        · simp [h, Bool.and_comm]
theorem fieldsOk_any (a b d m : Int) (w : World) :
    Calls Try.prog 64 #[cfV a b d m] w fun e w' => e = .returned (.bool (fieldsB a b d m)) ∧ Below w.heap.size w w' := by
  cases hk : kindB b with
  | false =>
    have HE := Lib.hid (show fieldsB a b d m = false by simp [fieldsB, hk])
    have HK := Lib.hid hk
    clear hk
    go_enter Try.func64, Try.ntmps64
    go_wp2_with (go_at_call 78; refine (polyOf_no _ _ HK.out).mono ?_; rintro e w' ⟨rfl, rfl⟩)
    go_ret
    exact ⟨by rw [HE.out]; rfl, (Below.refl _ _).alloc (Nat.le_refl _) _⟩
  | true =>
    have HK := Lib.hid hk
    by_cases hd : inB d 0 40 = true
    · have hd2 : 0 ≤ d ∧ d ≤ 40 := by simpa [inB] using hd
      obtain ⟨hd0, hd1⟩ := hd2
      by_cases hm : m = 0
      · have HE := Lib.hid (show fieldsB a b d m = true by simp [fieldsB, hk, hd, hm])
        subst hm
        clear hk hd
        go_enter Try.func64, Try.ntmps64
        go_wp2_with (go_at_call 78; refine (polyOf_yes _ _ HK.out).mono ?_; rintro e w' ⟨rfl, rfl⟩)
        go_ret
        exact ⟨by rw [HE.out]; rfl, (Below.refl _ _).alloc (Nat.le_refl _) _⟩
      · by_cases ha : a = 1
        · have HE := Lib.hid (show fieldsB a b d m = mapOkB m by simp [fieldsB, hk, hd, hm, ha])
          have hmb : (m == 0) = false := by simpa using hm
          subst ha
          clear hk hd
          go_enter Try.func64, Try.ntmps64
          go_wp2_with (first | (go_at_call 78; refine (polyOf_yes _ _ HK.out).mono ?_; rintro e w' ⟨rfl, rfl⟩) | (go_at_call 79; refine (mapOk_any _ _).mono ?_; rintro e w' ⟨rfl, hw⟩; obtain rfl := hw.symm))
          go_ret
          exact ⟨by rw [HE.out]; rfl, (Below.refl _ _).alloc (Nat.le_refl _) _⟩
        · have HE := Lib.hid (show fieldsB a b d m = false by simp [fieldsB, hk, hd, hm, ha])
          have hmb : (m == 0) = false := by simpa using hm
          have hab : (a == 1) = false := by simpa using ha
          clear hk hd
          go_enter Try.func64, Try.ntmps64
          go_wp2_with (go_at_call 78; refine (polyOf_yes _ _ HK.out).mono ?_; rintro e w' ⟨rfl, rfl⟩)
          go_ret
          exact ⟨by rw [HE.out]; rfl, (Below.refl _ _).alloc (Nat.le_refl _) _⟩
    · have HE := Lib.hid (show fieldsB a b d m = false by simp [fieldsB, hk, hd])
      have hd2 : d < 0 ∨ 40 < d := by simp [inB] at hd; omega
      clear hk hd
      rcases hd2 with hd2 | hd2
      · go_enter Try.func64, Try.ntmps64
        go_wp2_with (go_at_call 78; refine (polyOf_yes _ _ HK.out).mono ?_; rintro e w' ⟨rfl, rfl⟩)
        go_ret
        exact ⟨by rw [HE.out]; rfl, (Below.refl _ _).alloc (Nat.le_refl _) _⟩
      · go_enter Try.func64, Try.ntmps64
        go_wp2_with (go_at_call 78; refine (polyOf_yes _ _ HK.out).mono ?_; rintro e w' ⟨rfl, rfl⟩)
        go_ret
        exact ⟨by rw [HE.out]; rfl, (Below.refl _ _).alloc (Nat.le_refl _) _⟩
/-- an element of whatever kind, read as itself -/
def selfElem (v : Value) : Option (DataW Value × List MemPlace) := some (.held v, [])
theorem int_keys : Keyed Try.prog 3 := int_keyed Try.underlying3
theorem key_int (a : Int) (h : (Lit.int .i64 a).wf = true) : keyOf Try.prog 3 (.int .i64 a) = some (.int .i64 a) := keyOf_int_mk Try.underlying3 h
def codecs (m : Int) : DataW Value := (((DataW.map []).put (.int .i64 1) (.held (.iface 87 (.agg #[.int .i64 m])))).put (.int .i64 2) (.held (.iface 91 (.agg #[])))).put (.int .i64 3) (.held (.iface 92 (.agg #[])))
theorem zero_codec (w : World) : (zeroValue 66).run Try.prog w = .ok .nilIface w := by kernel_rfl
theorem codecs_at (a m : Int) : (codecs m).atKey (.int .i64 a) (.held .nilIface) = .held (wayV a m) ∧ Maps.has (codecs m) (.int .i64 a) = inB a 1 3 := by
  by_cases h1 : a = 1
  · subst h1; exact ⟨rfl, rfl⟩
  by_cases h2 : a = 2
  · subst h2; exact ⟨rfl, rfl⟩
  by_cases h3 : a = 3
  · subst h3; exact ⟨rfl, rfl⟩
  have n1 : (Lit.int .i64 a) ≠ .int .i64 1 := fun e => h1 (by injection e)
  have n2 : (Lit.int .i64 a) ≠ .int .i64 2 := fun e => h2 (by injection e)
  have n3 : (Lit.int .i64 a) ≠ .int .i64 3 := fun e => h3 (by injection e)
  constructor
  · unfold codecs
    rw [atKey_put_other n3, atKey_put_other n2, atKey_put_other n1, wayV, if_neg h1, if_neg h2, if_neg h3]
    rfl
  · unfold codecs
    rw [has_put_other n3, has_put_other n2, has_put_other n1]
    symm
    show inB a 1 3 = false
    simp only [inB, Bool.and_eq_false_iff, decide_eq_false_iff_not]
    omega
theorem selfElem_inv {v : Value} {d : DataW Value} {ps : List MemPlace} (h : selfElem v = some (d, ps)) : d = .held v := by
  simp only [selfElem, Option.some.injEq, Prod.mk.injEq] at h
  exact h.1.symm
set_option maxRecDepth 100000 in
/-- the map of codecs is laid, behind the box of the configuration -/
theorem codecs_laid (a m : Int) (w0 : World) (wa : (Lit.int .i64 a).wf = true) :
    ∃ w1 w2 w3, (Instr.mapUpdate 93 (.map (some w0.heap.size)) (.int .i64 1) (.iface 87 (.agg #[.int .i64 m]))).run Try.prog (w0.alloc (.map #[] 0)) = .ok () w1 ∧
      (Instr.mapUpdate 93 (.map (some w0.heap.size)) (.int .i64 2) (.iface 91 (.agg #[]))).run Try.prog w1 = .ok () w2 ∧
      (Instr.mapUpdate 93 (.map (some w0.heap.size)) (.int .i64 3) (.iface 92 (.agg #[]))).run Try.prog w2 = .ok () w3 ∧
      (Instr.lookup 93 (.map (some w0.heap.size)) (.int .i64 a) true).run Try.prog w3 = .ok (.tuple #[wayV a m, .bool (inB a 1 3)]) w3 ∧ Below w0.heap.size w0 w3 := by
  have h0 := World.ownsMap_made w0 Try.prog 3 selfElem
  obtain ⟨w1, r1, h1, g1⟩ := h0.update int_keys Try.underlying93 (by unfold maxLen; omega) (key_int 1 (by decide)) (val := .iface 87 (.agg #[.int .i64 m])) rfl
  obtain ⟨w2, r2, h2, g2⟩ := h1.update int_keys Try.underlying93 (by unfold maxLen; omega) (key_int 2 (by decide)) (val := .iface 91 (.agg #[])) rfl
  obtain ⟨w3, r3, h3, g3⟩ := h2.update int_keys Try.underlying93 (by unfold maxLen; omega) (key_int 3 (by decide)) (val := .iface 92 (.agg #[])) rfl
  obtain ⟨v, ps, hl, hv⟩ := h3.look_ok int_keys Try.underlying93 (zero_codec _) (zd := .held .nilIface) (zp := []) rfl (key_int a wa)
  obtain ⟨e1, e2⟩ := codecs_at a m
  have ev : v = wayV a m := by
    have e3 := selfElem_inv hv
    have e4 : (codecs m).atKey (.int .i64 a) (.held .nilIface) = .held v := e3
    rw [e1] at e4
    injection e4 with e4
    exact e4.symm
  refine ⟨w1, w2, w3, r1, r2, r3, ?_, ?_⟩
  · rw [hl, ev]
    show Result.ok (Value.tuple #[wayV a m, .bool (Maps.has (codecs m) (.int .i64 a))]) w3 = _
    rw [e2]
  · have s1 := g1.size
    have s2 := g2.size
    have b0 : Below w0.heap.size w0 (w0.alloc (.map #[] 0)) := (Below.refl _ _).alloc (Nat.le_refl _) _
    have b1 := b0.grown g1 b0.size (fun k hk => by cases hk; exact Nat.le_refl _)
    have b2 := b1.grown g2 b1.size (fun k hk => by cases hk; exact Nat.le_refl _)
    exact b2.grown g3 b2.size (fun k hk => by cases hk; exact Nat.le_refl _)
/-- a box of four cells -/
theorem four_cells {w w' : World} {t : TypeId} {a b c d : Value} (h : Below (w.alloc (.cells #[a, b, c, d] t)).heap.size (w.alloc (.cells #[a, b, c, d] t)) w') :
    w'.cell? ⟨w.heap.size, 0, none⟩ = some a ∧ w'.cell? ⟨w.heap.size, 1, none⟩ = some b ∧ w'.cell? ⟨w.heap.size, 2, none⟩ = some c ∧ w'.cell? ⟨w.heap.size, 3, none⟩ = some d := by
  have hl : w.heap.size < (w.alloc (.cells #[a, b, c, d] t)).heap.size := by simp
  exact ⟨(h.cell (p := ⟨w.heap.size, 0, none⟩) hl).trans (by simp), (h.cell (p := ⟨w.heap.size, 1, none⟩) hl).trans (by simp), (h.cell (p := ⟨w.heap.size, 2, none⟩) hl).trans (by simp), (h.cell (p := ⟨w.heap.size, 3, none⟩) hl).trans (by simp)⟩
theorem alloc_below {w w' : World} {o : Obj} (h : Below (w.alloc o).heap.size (w.alloc o) w') : Below w.heap.size w w' := ((Below.refl _ w).alloc (Nat.le_refl _) o).trans (h.mono (by simp))
set_option maxRecDepth 100000 in
set_option maxHeartbeats 1000000 in
theorem codecOf_any (a b d m : Int) (w : World) (wa : (Lit.int .i64 a).wf = true) :
    Calls Try.prog 42 #[cfV a b d m] w fun e w' => e = .returned (.tuple #[wayV a m, .bool (confB ⟨a, b, d, m⟩)]) ∧ Below w.heap.size w w' := by
  have hmm := @run_makeMap Try.prog
  have HC := Lib.hid (confB_fields a b d m)
  obtain ⟨w1, w2, w3, r1, r2, r3, r4, hb⟩ := codecs_laid a m (w.alloc (.cells #[.int .i64 a, .int .i64 b, .int .i64 d, .int .i64 m] 24)) wa
  obtain ⟨c0, c1, c2, c3⟩ := four_cells hb
  have HB := Lib.hid (alloc_below hb)
  clear hb
  have hs : (w.alloc (.cells #[.int .i64 a, .int .i64 b, .int .i64 d, .int .i64 m] 24)).heap.size = w.heap.size + 1 := by simp
  rw [hs] at r1 r2 r3 r4
  clear hs
  obtain ⟨u, hu⟩ : ∃ u, wayV a m = u := ⟨_, rfl⟩
  rw [hu] at r4
  cases hi : inB a 1 3 with
  | false =>
    rw [hi] at r4
    have HI := Lib.hid hi
    clear hi
    go_enter Try.func42, Try.ntmps42
    go_wp2
    exact bodyPost_ret (v := .tuple #[u, .bool false]) (by simp [results, Try.results42, go_sem]) rfl ⟨by rw [HC.out, HI.out, hu]; rfl, HB.out⟩
  | true =>
    rw [hi] at r4
    have HI := Lib.hid hi
    clear hi
    go_enter Try.func42, Try.ntmps42
    go_wp2_with (go_at_call 64; refine (fieldsOk_any a b d m _).mono ?_; rintro e w4 ⟨rfl, hb4⟩)
    exact bodyPost_ret (v := .tuple #[u, .bool (fieldsB a b d m)]) (by simp [results, Try.results42, go_sem]) rfl ⟨by rw [HC.out, HI.out, hu]; rfl, HB.out.trans (hb4.mono HB.out.size)⟩
theorem implConfOk_any (a b d m : Int) (w : World) (wa : (Lit.int .i64 a).wf = true) :
    Calls Try.prog 16 #[cfV a b d m] w fun e w' => e = .returned (.bool (confB ⟨a, b, d, m⟩)) ∧ Below w.heap.size w w' := by
  go_enter Try.func16, Try.ntmps16
  go_wp2_with (go_at_call 42; refine (codecOf_any a b d m _ wa).mono ?_; rintro e w4 ⟨rfl, hb4⟩)
  go_ret
  exact ⟨rfl, alloc_below hb4⟩
end Go.Proofs.Ytfojlpnnhghcbaa
