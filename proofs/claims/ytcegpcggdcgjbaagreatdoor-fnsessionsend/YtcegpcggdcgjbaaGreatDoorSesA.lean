/- A session in the program: its box; 'set'. -/
import Derived.Test.YtcegpcggdcgjbaaGreatDoorSesP
import Derived.Test.YtcegpcggdcgjbaaGreatDoorSesL
import Derived.Test.YtcegpcggdcgjbaaGreatDoorSesN
import Derived.Test.YtcegpcggdcgjbaaGreatDoorKitFindF
import Derived.Test.YtcegpcggdcgjbaaGreatDoorBk
import Derived.Test.YtcegpcggdcgjbaaGreatDoorKitDraw
import Derived.Maps.OwnSet
import Derived.StringKeys
namespace Go.Proofs.YtcegpcggdcgjbaaGreatDoor
open Go.ChangeShapes Go.WideShapes Go.ChangeAt Go.RowKit Go.WideMaps Go.Maps
set_option linter.unusedVariables false
theorem zero_confS (w : World) : (zeroValue 30).run Tryz.prog w = .ok (.agg #[.int .i64 0, .int .i64 0, .int .i64 0, .int .i64 0]) w := by kernel_rfl
/-- the cells of a session -/
def sbC (s : St) : Array Value := #[.int .i64 s.cf.codec, .int .i64 s.cf.sum, .int .i64 s.cf.most, .int .i64 s.cf.map, .string ⟨s.fd.held.toArray⟩, .bool s.fd.over]
def SB (w : World) (g : Nat) (s : St) : Prop := BK w g (sbC s) 39
/-- what an answer leaves: the text, the box; only the box has turned -/
def AnsPost (w : World) (g : Nat) (p : St × List UInt8) (e : Ending) (w' : World) : Prop := e = .returned (.string ⟨p.2.toArray⟩) ∧ SB w' g p.1 ∧ w.grownBy w' (some g)
theorem SB.cells {w : World} {g : Nat} {s : St} (h : SB w g s) : w.cell? ⟨g, 0, none⟩ = some (.int .i64 s.cf.codec) ∧ w.cell? ⟨g, 1, none⟩ = some (.int .i64 s.cf.sum) ∧ w.cell? ⟨g, 2, none⟩ = some (.int .i64 s.cf.most) ∧ w.cell? ⟨g, 3, none⟩ = some (.int .i64 s.cf.map) ∧ w.cell? ⟨g, 4, none⟩ = some (.string ⟨s.fd.held.toArray⟩) ∧ w.cell? ⟨g, 5, none⟩ = some (.bool s.fd.over) :=
  ⟨h.cell rfl, h.cell rfl, h.cell rfl, h.cell rfl, h.cell rfl, h.cell rfl⟩
theorem grownB {w w' : World} {g : Nat} (h : Below w.heap.size w w') : w.grownBy w' (some g) := ⟨h.os, h.tape, h.output, h.size, fun k hk _ => h.block k hk⟩
theorem grownSet {w w1 : World} {g i : Nat} (h : w.grownBy w1 (some g)) (v : Value) : w.grownBy (w1.setCell ⟨g, i, none⟩ v) (some g) :=
  ⟨h.os, h.tape, h.output, by simpa using h.size, fun k hk hne => (Below.heap_setCell _ _ _ _ (fun e => hne (by rw [e]))).trans (h.block k hk hne)⟩
/-- an answer that turned nothing old -/
theorem ans_below {w w' : World} {g : Nat} {s : St} (h : SB w g s) (hb : Below w.heap.size w w') : SB w' g s ∧ w.grownBy w' (some g) := ⟨BK.from h hb, grownB hb⟩
theorem str_keys : Keyed Tryz.prog 9 := string_keyed Tryz.underlying9
theorem key_str {s : ByteArray} (hs : s.size ≤ maxLen) : keyOf Tryz.prog 9 (.string s) = some (.string s.data.toList) := keyOf_string_mk Tryz.underlying9 hs
def codesD : DataW Value := ((((DataW.map []).put (.string [101, 115, 99, 97, 112, 101]) (.held (.int .i64 1))).put (.string [99, 111, 98, 115]) (.held (.int .i64 2))).put (.string [108, 101, 115, 115]) (.held (.int .i64 3)))
theorem codes_at (l : List UInt8) : codesD.atKey (.string l) (.held (.int .i64 0)) = .held (.int .i64 (codecN l)) := by
  unfold codecN wEscape wCobs wLess
  by_cases he : l = [101, 115, 99, 97, 112, 101]
  · subst he; rfl
  by_cases hc : l = [99, 111, 98, 115]
  · subst hc; rfl
  by_cases hl : l = [108, 101, 115, 115]
  · subst hl; rfl
  have ne : (Lit.string l) ≠ .string [101, 115, 99, 97, 112, 101] := fun e => he (by injection e)
  have nc : (Lit.string l) ≠ .string [99, 111, 98, 115] := fun e => hc (by injection e)
  have nl : (Lit.string l) ≠ .string [108, 101, 115, 115] := fun e => hl (by injection e)
  unfold codesD
  rw [atKey_put_other nl, atKey_put_other nc, atKey_put_other ne, if_neg he, if_neg hc, if_neg hl]
  rfl
theorem codec_wf (l : List UInt8) : (Lit.int .i64 (codecN l)).wf = true := by
  unfold codecN
  repeat' split
  all_goals decide
set_option maxRecDepth 100000 in
theorem codes_laid (a : ByteArray) (w0 : World) (ha : a.size ≤ maxLen) :
    ∃ w1 w2 w3, (Instr.mapUpdate 88 (.map (some w0.heap.size)) (.string ⟨#[101, 115, 99, 97, 112, 101]⟩) (.int .i64 1)).run Tryz.prog (w0.alloc (.map #[] 0)) = .ok () w1 ∧
      (Instr.mapUpdate 88 (.map (some w0.heap.size)) (.string ⟨#[99, 111, 98, 115]⟩) (.int .i64 2)).run Tryz.prog w1 = .ok () w2 ∧
      (Instr.mapUpdate 88 (.map (some w0.heap.size)) (.string ⟨#[108, 101, 115, 115]⟩) (.int .i64 3)).run Tryz.prog w2 = .ok () w3 ∧
      (∀ wx, Below w3.heap.size w3 wx → (Instr.lookup 88 (.map (some w0.heap.size)) (.string a) false).run Tryz.prog wx = .ok (.int .i64 (codecN a.data.toList)) wx) ∧ Below w0.heap.size w0 w3 := by
  have h0 := World.ownsMap_made w0 Tryz.prog 9 selfElem
  obtain ⟨w1, r1, h1, g1⟩ := h0.update str_keys Tryz.underlying88 (by unfold maxLen; omega) (key_str (s := ⟨#[101, 115, 99, 97, 112, 101]⟩) (by decide)) (val := .int .i64 1) rfl
  obtain ⟨w2, r2, h2, g2⟩ := h1.update str_keys Tryz.underlying88 (by unfold maxLen; omega) (key_str (s := ⟨#[99, 111, 98, 115]⟩) (by decide)) (val := .int .i64 2) rfl
  obtain ⟨w3, r3, h3, g3⟩ := h2.update str_keys Tryz.underlying88 (by unfold maxLen; omega) (key_str (s := ⟨#[108, 101, 115, 115]⟩) (by decide)) (val := .int .i64 3) rfl
  have b0 : Below w0.heap.size w0 (w0.alloc (.map #[] 0)) := (Below.refl _ _).alloc (Nat.le_refl _) _
  have b1 := b0.grown g1 b0.size (fun k hk => by cases hk; exact Nat.le_refl _)
  have b2 := b1.grown g2 b1.size (fun k hk => by cases hk; exact Nat.le_refl _)
  have b3 := b2.grown g3 b2.size (fun k hk => by cases hk; exact Nat.le_refl _)
  refine ⟨w1, w2, w3, r1, r2, r3, fun wx hb => ?_, b3⟩
  have hx := h3.kept (row := none) ⟨hb.os, hb.tape, hb.output, hb.size, fun g hg _ => hb.block g hg⟩ (by simp)
  obtain ⟨v, ps, hl, hv⟩ := hx.lookup str_keys Tryz.underlying88 (zero_int _) (zd := .held (.int .i64 0)) (zp := []) rfl (key_str ha)
  have e3 := selfElem_inv hv
  have e4 : codesD.atKey (.string a.data.toList) (.held (.int .i64 0)) = .held v := e3
  rw [codes_at] at e4
  injection e4 with e4
  rw [hl, ← e4]
set_option maxRecDepth 100000 in
set_option maxHeartbeats 2000000 in
theorem set_any (s : St) (g : Nat) (a b c d : ByteArray) (w : World) (hw : SesIs w) (h : SB w g s) (hg : 7 ≤ g) (ha : a.size ≤ 1048576) (hb : b.size ≤ 1048576) (hc : c.size ≤ 1048576) (hd : d.size ≤ 1048576) :
    Calls Tryz.prog 28 #[.pointer (some ⟨g, 0, none⟩), .string a, .string b, .string c, .string d] w (AnsPost w g (setS s (confW a.data.toList b.data.toList c.data.toList d.data.toList))) := by
  have hmm := @run_makeMap Tryz.prog
  have hzc := zero_confS
  obtain ⟨w1, w2, w3, r1, r2, r3, hlk, hb3⟩ := codes_laid a w (by unfold maxLen; omega)
  have HNb := Lib.hid (fun u hu => numberOf_any b u hu hb)
  have HNc := Lib.hid (fun u hu => numberOf_any c u hu hc)
  have HNd := Lib.hid (fun u hu => numberOf_any d u hu hd)
  have HSX := Lib.hid hlk
  have HB3 := Lib.hid hb3
  have HSI := Lib.hid (hw.from hb3)
  have HSB := Lib.hid h
  clear hlk hb3 hw h
  go_enter Tryz.func28, Tryz.ntmps28
  go_wp2_with fail
  go_cut [12] (fun s12 wx => ∃ gq, s12 = .pointer (some ⟨gq, 0, none⟩) ∧ BK wx gq #[.int .i64 (codecN a.data.toList), .int .i64 (numL b.data.toList), .int .i64 (numL c.data.toList), .int .i64 (numL d.data.toList)] 30 ∧ w3.heap.size ≤ gq ∧ Below w3.heap.size w3 wx)
  case first =>
    have hB := (Below.refl w3.heap.size w3).drew
    have hS := HSX.out _ hB
    refine wp_region_held_drew (S := (fun wx => (Instr.lookup 88 (.map (some w.heap.size)) (.string a) false).run Tryz.prog wx = .ok (.int .i64 (codecN a.data.toList)) wx)) (by kernel_rfl) hS (fun hHeld => ?_)
    obtain ⟨wd, hwd⟩ : ∃ wd, wd = w3.drew := ⟨_, rfl⟩
    rw [← hwd] at hB hS ⊢
    clear hwd
    refine wpAnyH_take (i := 0) (v := ?_) rfl (by kernel_rfl) (by kernel_rfl) (by kernel_rfl) (fun _ _ _ h => h) (Or.inl ⟨by rfl, ?_⟩) (by assumption) ?_
    rotate_left
    · intro wq hSw
      (try dsimp only at hSw)
      (try simp only [List.getElem_toArray, List.getElem_cons_zero])
      go_simp
      (try with_reducible rfl)
    simp only [Act.put, List.getElem_toArray, List.getElem_cons_zero, List.setIfInBounds_toArray, List.set_cons_zero, List.set_cons_succ]
    refine wpAnyH_take (i := 1) (v := ?_) rfl (by kernel_rfl) (by kernel_rfl) (by kernel_rfl) (fun _ _ _ h => h) (Or.inl ⟨by rfl, ?_⟩) (by assumption) ?_
    rotate_left
    · intro wq hSw
      (try dsimp only at hSw)
      (try simp only [List.getElem_toArray, List.getElem_cons_succ, List.getElem_cons_zero])
      go_simp
      (try with_reducible rfl)
    simp only [Act.put, List.getElem_toArray, List.getElem_cons_succ, List.getElem_cons_zero, List.setIfInBounds_toArray, List.set_cons_zero, List.set_cons_succ]
    refine wpAnyH_take (i := 2) (v := ?_) rfl (by kernel_rfl) (by kernel_rfl) (by kernel_rfl) (fun _ _ _ h => h) (Or.inl ⟨by rfl, ?_⟩) (by assumption) ?_
    rotate_left
    · intro wq hSw
      (try dsimp only at hSw)
      (try simp only [List.getElem_toArray, List.getElem_cons_succ, List.getElem_cons_zero])
      go_simp
      (try with_reducible rfl)
    simp only [Act.put, List.getElem_toArray, List.getElem_cons_succ, List.getElem_cons_zero, List.setIfInBounds_toArray, List.set_cons_zero, List.set_cons_succ]
    refine wpAnyH_take (i := 3) (v := ?_) rfl (by kernel_rfl) (by kernel_rfl) (by kernel_rfl) (fun _ _ _ h => h) (Or.inl ⟨by rfl, ?_⟩) (by assumption) ?_
    rotate_left
    · intro wq hSw
      (try dsimp only at hSw)
      (try simp only [List.getElem_toArray, List.getElem_cons_succ, List.getElem_cons_zero])
      go_simp
      (try with_reducible rfl)
    simp only [Act.put, List.getElem_toArray, List.getElem_cons_succ, List.getElem_cons_zero, List.setIfInBounds_toArray, List.set_cons_zero, List.set_cons_succ]
    refine wpAnyH_take (i := 5) (v := ?_) rfl (by kernel_rfl) (by kernel_rfl) (by kernel_rfl) (fun _ _ _ h => h) (Or.inl ⟨by rfl, ?_⟩) (by assumption) ?_
    rotate_left
    · intro wq hSw
      (try dsimp only at hSw)
      (try simp only [List.getElem_toArray, List.getElem_cons_succ, List.getElem_cons_zero])
      go_simp
      (try with_reducible rfl)
    simp only [Act.put, List.getElem_toArray, List.getElem_cons_succ, List.getElem_cons_zero, List.setIfInBounds_toArray, List.set_cons_zero, List.set_cons_succ]
    refine wpAnyH_take (i := 7) (v := ?_) rfl (by kernel_rfl) (by kernel_rfl) (by kernel_rfl) (fun _ _ _ h => h) (Or.inl ⟨by rfl, ?_⟩) (by assumption) ?_
    rotate_left
    · intro wq hSw
      (try dsimp only at hSw)
      (try simp only [List.getElem_toArray, List.getElem_cons_succ, List.getElem_cons_zero])
      go_simp
      (try with_reducible rfl)
    simp only [Act.put, List.getElem_toArray, List.getElem_cons_succ, List.getElem_cons_zero, List.setIfInBounds_toArray, List.set_cons_zero, List.set_cons_succ]
    refine wpAnyH_ready (rs := [4, 10]) (by kernel_rfl) (by simp) ?_
    refine AllReadyH.cons rfl ?_ (AllReadyH.cons rfl ?_ AllReadyH.nil)
    · intro K hK
      (try simp only [List.getElem_toArray, List.getElem_cons_succ, List.getElem_cons_zero])
      go_simp
      go_at_call 42
      refine (HNb.out _ (HSI.out.from hB).1).mono ?_
      rintro e y3 ⟨rfl, hb⟩
      have hB := hB.trans (hb.mono hB.size)
      clear hb
      have hS := HSX.out _ hB
      refine hK.out _ _ hS (fun hHeld => ?_)
      clear hK K
      refine wpAnyH_ready (rs := [6, 10]) (by kernel_rfl) (by simp) ?_
      refine AllReadyH.cons rfl ?_ (AllReadyH.cons rfl ?_ AllReadyH.nil)
      · intro K hK
        (try simp only [List.getElem_toArray, List.getElem_cons_succ, List.getElem_cons_zero])
        go_simp
        go_at_call 42
        refine (HNc.out _ (HSI.out.from hB).1).mono ?_
        rintro e y4 ⟨rfl, hb⟩
        have hB := hB.trans (hb.mono hB.size)
        clear hb
        have hS := HSX.out _ hB
        refine hK.out _ _ hS (fun hHeld => ?_)
        clear hK K
        refine wpAnyH_ready (rs := [8, 10]) (by kernel_rfl) (by simp) ?_
        refine AllReadyH.cons rfl ?_ (AllReadyH.cons rfl ?_ AllReadyH.nil)
        · intro K hK
          (try simp only [List.getElem_toArray, List.getElem_cons_succ, List.getElem_cons_zero])
          go_simp
          go_at_call 42
          refine (HNd.out _ (HSI.out.from hB).1).mono ?_
          rintro e y5 ⟨rfl, hb⟩
          have hB := hB.trans (hb.mono hB.size)
          clear hb
          have hS := HSX.out _ hB
          refine hK.out _ _ hS (fun hHeld => ?_)
          clear hK K
          refine wpAnyH_take (i := 9) (v := ?_) rfl (by kernel_rfl) (by kernel_rfl) (by kernel_rfl) (fun _ _ _ h => h) (Or.inl ⟨by rfl, ?_⟩) (by assumption) ?_
          rotate_left
          · intro wq hSw
            (try dsimp only at hSw)
            (try simp only [List.getElem_toArray, List.getElem_cons_succ, List.getElem_cons_zero])
            go_simp
            (try with_reducible rfl)
          simp only [Act.put, List.getElem_toArray, List.getElem_cons_succ, List.getElem_cons_zero, List.setIfInBounds_toArray, List.set_cons_zero, List.set_cons_succ]
          have hB2 := hB.alloc hB.size (.cells #[.int .i64 0, .int .i64 0, .int .i64 0, .int .i64 0] 30)
          have hS := HSX.out _ hB2
          refine wpAnyH_ready (rs := [10]) (by kernel_rfl) (by simp) ?_
          refine AllReadyH.cons rfl (fun K hK => ?_) AllReadyH.nil
          (try simp only [List.getElem_toArray, List.getElem_cons_succ, List.getElem_cons_zero])
          skip
          go_simp
          skip
          refine hK.out _ _ hS (fun hHeld => ?_)
          clear hK K
          have hB3 := hB.alloc hB.size (.cells #[.int .i64 (codecN a.data.toList), .int .i64 (numL b.data.toList), .int .i64 (numL c.data.toList), .int .i64 (numL d.data.toList)] 30)
          have hS := HSX.out _ hB3
          refine wpAnyH_ready (rs := [11]) (by kernel_rfl) (by simp) ?_
          refine AllReadyH.cons rfl (fun K hK => ?_) AllReadyH.nil
          (try simp only [List.getElem_toArray, List.getElem_cons_succ, List.getElem_cons_zero])
          skip
          go_simp
          skip
          refine hK.out _ _ hS (fun hHeld => ?_)
          clear hK K
          refine wpAnyH_done (by kernel_rfl) ?_ _
          go_wp2
          go_meet
          exact ⟨_, rfl, BK.new _ _ _, hB.size, hB3⟩
        · intro K hK
          (try simp only [List.getElem_toArray, List.getElem_cons_succ, List.getElem_cons_zero])
          go_simp
          have hB2 := hB.alloc hB.size (.cells #[.int .i64 0, .int .i64 0, .int .i64 0, .int .i64 0] 30)
          refine hK.out _ _ (HSX.out _ hB2) (fun hHeld => ?_)
          clear hK K
          have hS := HSX.out _ hB2
          have hQ := BK.new y4 #[.int .i64 0, .int .i64 0, .int .i64 0, .int .i64 0] 30
          have hgq : w3.heap.size ≤ y4.heap.size := hB.size
          have hB := hB2
          clear hB2
          generalize hgn : y4.heap.size = gq at hQ hgq
          refine wpAnyH_ready (rs := [8]) (by kernel_rfl) (by simp) ?_
          refine AllReadyH.cons rfl (fun K hK => ?_) AllReadyH.nil
          (try simp only [List.getElem_toArray, List.getElem_cons_succ, List.getElem_cons_zero])
          go_simp
          go_at_call 42
          refine (HNd.out _ (HSI.out.from hB).1).mono ?_
          rintro e y6 ⟨rfl, hb⟩
          have hQ := hQ.from hb
          have hB := hB.trans (hb.mono hB.size)
          clear hb
          have hS := HSX.out _ hB
          refine hK.out _ _ hS (fun hHeld => ?_)
          clear hK K
          refine wpAnyH_take (i := 9) (v := ?_) rfl (by kernel_rfl) (by kernel_rfl) (by kernel_rfl) (fun _ _ _ h => h) (Or.inl ⟨by rfl, ?_⟩) (by assumption) ?_
          rotate_left
          · intro wq hSw
            (try dsimp only at hSw)
            (try simp only [List.getElem_toArray, List.getElem_cons_succ, List.getElem_cons_zero])
            go_simp
            (try with_reducible rfl)
          simp only [Act.put, List.getElem_toArray, List.getElem_cons_succ, List.getElem_cons_zero, List.setIfInBounds_toArray, List.set_cons_zero, List.set_cons_succ]
          obtain ⟨q0, q1, q2, q3⟩ : _ ∧ _ ∧ _ ∧ _ := ⟨hQ.cell (i := 0) rfl, hQ.cell (i := 1) rfl, hQ.cell (i := 2) rfl, hQ.cell (i := 3) rfl⟩
          have f0 := hQ.free 0
          have f1 := hQ.free 1
          have f2 := hQ.free 2
          have f3 := hQ.free 3
          have hB3 := (((hB.setCell (p := ⟨gq, 0, none⟩) hgq (.int .i64 (codecN a.data.toList))).setCell (p := ⟨gq, 1, none⟩) hgq (.int .i64 (numL b.data.toList))).setCell (p := ⟨gq, 2, none⟩) hgq (.int .i64 (numL c.data.toList))).setCell (p := ⟨gq, 3, none⟩) hgq (.int .i64 (numL d.data.toList))
          have hQ3 := (((hQ.set 0 (.int .i64 (codecN a.data.toList))).set 1 (.int .i64 (numL b.data.toList))).set 2 (.int .i64 (numL c.data.toList))).set 3 (.int .i64 (numL d.data.toList))
          have hS := HSX.out _ hB3
          refine wpAnyH_ready (rs := [11]) (by kernel_rfl) (by simp) ?_
          refine AllReadyH.cons rfl (fun K hK => ?_) AllReadyH.nil
          (try simp only [List.getElem_toArray, List.getElem_cons_succ, List.getElem_cons_zero])
          skip
          go_simp
          skip
          refine hK.out _ _ hS (fun hHeld => ?_)
          clear hK K
          refine wpAnyH_done (by kernel_rfl) ?_ _
          go_wp2
          go_meet
          exact ⟨_, rfl, hQ3, hgq, hB3⟩
      · intro K hK
        (try simp only [List.getElem_toArray, List.getElem_cons_succ, List.getElem_cons_zero])
        go_simp
        have hB2 := hB.alloc hB.size (.cells #[.int .i64 0, .int .i64 0, .int .i64 0, .int .i64 0] 30)
        refine hK.out _ _ (HSX.out _ hB2) (fun hHeld => ?_)
        clear hK K
        have hS := HSX.out _ hB2
        have hQ := BK.new y3 #[.int .i64 0, .int .i64 0, .int .i64 0, .int .i64 0] 30
        have hgq : w3.heap.size ≤ y3.heap.size := hB.size
        have hB := hB2
        clear hB2
        generalize hgn : y3.heap.size = gq at hQ hgq
        refine wpAnyH_ready (rs := [6]) (by kernel_rfl) (by simp) ?_
        refine AllReadyH.cons rfl (fun K hK => ?_) AllReadyH.nil
        (try simp only [List.getElem_toArray, List.getElem_cons_succ, List.getElem_cons_zero])
        go_simp
        go_at_call 42
        refine (HNc.out _ (HSI.out.from hB).1).mono ?_
        rintro e y7 ⟨rfl, hb⟩
        have hQ := hQ.from hb
        have hB := hB.trans (hb.mono hB.size)
        clear hb
        have hS := HSX.out _ hB
        refine hK.out _ _ hS (fun hHeld => ?_)
        clear hK K
        refine wpAnyH_ready (rs := [8]) (by kernel_rfl) (by simp) ?_
        refine AllReadyH.cons rfl (fun K hK => ?_) AllReadyH.nil
        (try simp only [List.getElem_toArray, List.getElem_cons_succ, List.getElem_cons_zero])
        go_simp
        go_at_call 42
        refine (HNd.out _ (HSI.out.from hB).1).mono ?_
        rintro e y8 ⟨rfl, hb⟩
        have hQ := hQ.from hb
        have hB := hB.trans (hb.mono hB.size)
        clear hb
        have hS := HSX.out _ hB
        refine hK.out _ _ hS (fun hHeld => ?_)
        clear hK K
        refine wpAnyH_take (i := 9) (v := ?_) rfl (by kernel_rfl) (by kernel_rfl) (by kernel_rfl) (fun _ _ _ h => h) (Or.inl ⟨by rfl, ?_⟩) (by assumption) ?_
        rotate_left
        · intro wq hSw
          (try dsimp only at hSw)
          (try simp only [List.getElem_toArray, List.getElem_cons_succ, List.getElem_cons_zero])
          go_simp
          (try with_reducible rfl)
        simp only [Act.put, List.getElem_toArray, List.getElem_cons_succ, List.getElem_cons_zero, List.setIfInBounds_toArray, List.set_cons_zero, List.set_cons_succ]
        obtain ⟨q0, q1, q2, q3⟩ : _ ∧ _ ∧ _ ∧ _ := ⟨hQ.cell (i := 0) rfl, hQ.cell (i := 1) rfl, hQ.cell (i := 2) rfl, hQ.cell (i := 3) rfl⟩
        have f0 := hQ.free 0
        have f1 := hQ.free 1
        have f2 := hQ.free 2
        have f3 := hQ.free 3
        have hB3 := (((hB.setCell (p := ⟨gq, 0, none⟩) hgq (.int .i64 (codecN a.data.toList))).setCell (p := ⟨gq, 1, none⟩) hgq (.int .i64 (numL b.data.toList))).setCell (p := ⟨gq, 2, none⟩) hgq (.int .i64 (numL c.data.toList))).setCell (p := ⟨gq, 3, none⟩) hgq (.int .i64 (numL d.data.toList))
        have hQ3 := (((hQ.set 0 (.int .i64 (codecN a.data.toList))).set 1 (.int .i64 (numL b.data.toList))).set 2 (.int .i64 (numL c.data.toList))).set 3 (.int .i64 (numL d.data.toList))
        have hS := HSX.out _ hB3
        refine wpAnyH_ready (rs := [11]) (by kernel_rfl) (by simp) ?_
        refine AllReadyH.cons rfl (fun K hK => ?_) AllReadyH.nil
        (try simp only [List.getElem_toArray, List.getElem_cons_succ, List.getElem_cons_zero])
        skip
        go_simp
        skip
        refine hK.out _ _ hS (fun hHeld => ?_)
        clear hK K
        refine wpAnyH_done (by kernel_rfl) ?_ _
        go_wp2
        go_meet
        exact ⟨_, rfl, hQ3, hgq, hB3⟩
    · intro K hK
      (try simp only [List.getElem_toArray, List.getElem_cons_succ, List.getElem_cons_zero])
      go_simp
      have hB2 := hB.alloc hB.size (.cells #[.int .i64 0, .int .i64 0, .int .i64 0, .int .i64 0] 30)
      refine hK.out _ _ (HSX.out _ hB2) (fun hHeld => ?_)
      clear hK K
      have hS := HSX.out _ hB2
      have hQ := BK.new wd #[.int .i64 0, .int .i64 0, .int .i64 0, .int .i64 0] 30
      have hgq : w3.heap.size ≤ wd.heap.size := hB.size
      have hB := hB2
      clear hB2
      generalize hgn : wd.heap.size = gq at hQ hgq
      refine wpAnyH_ready (rs := [4]) (by kernel_rfl) (by simp) ?_
      refine AllReadyH.cons rfl (fun K hK => ?_) AllReadyH.nil
      (try simp only [List.getElem_toArray, List.getElem_cons_succ, List.getElem_cons_zero])
      go_simp
      go_at_call 42
      refine (HNb.out _ (HSI.out.from hB).1).mono ?_
      rintro e y9 ⟨rfl, hb⟩
      have hQ := hQ.from hb
      have hB := hB.trans (hb.mono hB.size)
      clear hb
      have hS := HSX.out _ hB
      refine hK.out _ _ hS (fun hHeld => ?_)
      clear hK K
      refine wpAnyH_ready (rs := [6]) (by kernel_rfl) (by simp) ?_
      refine AllReadyH.cons rfl (fun K hK => ?_) AllReadyH.nil
      (try simp only [List.getElem_toArray, List.getElem_cons_succ, List.getElem_cons_zero])
      go_simp
      go_at_call 42
      refine (HNc.out _ (HSI.out.from hB).1).mono ?_
      rintro e y10 ⟨rfl, hb⟩
      have hQ := hQ.from hb
      have hB := hB.trans (hb.mono hB.size)
      clear hb
      have hS := HSX.out _ hB
      refine hK.out _ _ hS (fun hHeld => ?_)
      clear hK K
      refine wpAnyH_ready (rs := [8]) (by kernel_rfl) (by simp) ?_
      refine AllReadyH.cons rfl (fun K hK => ?_) AllReadyH.nil
      (try simp only [List.getElem_toArray, List.getElem_cons_succ, List.getElem_cons_zero])
      go_simp
      go_at_call 42
      refine (HNd.out _ (HSI.out.from hB).1).mono ?_
      rintro e y11 ⟨rfl, hb⟩
      have hQ := hQ.from hb
      have hB := hB.trans (hb.mono hB.size)
      clear hb
      have hS := HSX.out _ hB
      refine hK.out _ _ hS (fun hHeld => ?_)
      clear hK K
      refine wpAnyH_take (i := 9) (v := ?_) rfl (by kernel_rfl) (by kernel_rfl) (by kernel_rfl) (fun _ _ _ h => h) (Or.inl ⟨by rfl, ?_⟩) (by assumption) ?_
      rotate_left
      · intro wq hSw
        (try dsimp only at hSw)
        (try simp only [List.getElem_toArray, List.getElem_cons_succ, List.getElem_cons_zero])
        go_simp
        (try with_reducible rfl)
      simp only [Act.put, List.getElem_toArray, List.getElem_cons_succ, List.getElem_cons_zero, List.setIfInBounds_toArray, List.set_cons_zero, List.set_cons_succ]
      obtain ⟨q0, q1, q2, q3⟩ : _ ∧ _ ∧ _ ∧ _ := ⟨hQ.cell (i := 0) rfl, hQ.cell (i := 1) rfl, hQ.cell (i := 2) rfl, hQ.cell (i := 3) rfl⟩
      have f0 := hQ.free 0
      have f1 := hQ.free 1
      have f2 := hQ.free 2
      have f3 := hQ.free 3
      have hB3 := (((hB.setCell (p := ⟨gq, 0, none⟩) hgq (.int .i64 (codecN a.data.toList))).setCell (p := ⟨gq, 1, none⟩) hgq (.int .i64 (numL b.data.toList))).setCell (p := ⟨gq, 2, none⟩) hgq (.int .i64 (numL c.data.toList))).setCell (p := ⟨gq, 3, none⟩) hgq (.int .i64 (numL d.data.toList))
      have hQ3 := (((hQ.set 0 (.int .i64 (codecN a.data.toList))).set 1 (.int .i64 (numL b.data.toList))).set 2 (.int .i64 (numL c.data.toList))).set 3 (.int .i64 (numL d.data.toList))
      have hS := HSX.out _ hB3
      refine wpAnyH_ready (rs := [11]) (by kernel_rfl) (by simp) ?_
      refine AllReadyH.cons rfl (fun K hK => ?_) AllReadyH.nil
      (try simp only [List.getElem_toArray, List.getElem_cons_succ, List.getElem_cons_zero])
      skip
      go_simp
      skip
      refine hK.out _ _ hS (fun hHeld => ?_)
      clear hK K
      refine wpAnyH_done (by kernel_rfl) ?_ _
      go_wp2
      go_meet
      exact ⟨_, rfl, hQ3, hgq, hB3⟩
  case rest =>
    obtain ⟨gq, rfl, hbk, hgq, hbl⟩ := hcut
    obtain ⟨q0, q1, q2, q3⟩ : _ ∧ _ ∧ _ ∧ _ := ⟨hbk.cell (i := 0) rfl, hbk.cell (i := 1) rfl, hbk.cell (i := 2) rfl, hbk.cell (i := 3) rfl⟩
    have HQ := Lib.hid hbk
    have HBc := Lib.hid (HB3.out.trans (hbl.mono HB3.out.size))
    clear hbk hgq hbl
    have hcw : (Lit.int .i64 (codecN a.data.toList)).wf = true := codec_wf _
    have HCO := Lib.hid (fun u => implConfOk_any (codecN a.data.toList) (numL b.data.toList) (numL c.data.toList) (numL d.data.toList) u hcw)
    clear hcw
    go_wp2_with fail
    refine (HCO.out _).mono ?_
    rintro e w5 ⟨rfl, hb5⟩
    have hq5 := HQ.out.from hb5
    have hb5w := HBc.out.trans (hb5.mono HBc.out.size)
    have hs5 := BK.from HSB.out hb5w
    obtain ⟨q0, q1, q2, q3⟩ : _ ∧ _ ∧ _ ∧ _ := ⟨hq5.cell (i := 0) rfl, hq5.cell (i := 1) rfl, hq5.cell (i := 2) rfl, hq5.cell (i := 3) rfl⟩
    have HS5 := Lib.hid hs5
    have HB5 := Lib.hid hb5w
    clear hb5 hq5 hb5w HCO
    cases hcf : confB ⟨codecN a.data.toList, numL b.data.toList, numL c.data.toList, numL d.data.toList⟩ with
    | false =>
      have HE := Lib.hid (show setS s (confW a.data.toList b.data.toList c.data.toList d.data.toList) = (s, aNo) by unfold setS confW; rw [hcf, if_neg Bool.false_ne_true])
      clear hcf hs5
      go_wp2
      go_ret
      exact ⟨by rw [HE.out]; rfl, by rw [HE.out]; exact HS5.out, grownB HB5.out⟩
    | true =>
      have HE := Lib.hid (show setS s (confW a.data.toList b.data.toList c.data.toList d.data.toList) = (⟨confW a.data.toList b.data.toList c.data.toList d.data.toList, ⟨[], false⟩⟩, aOk) by unfold setS; rw [show confB (confW a.data.toList b.data.toList c.data.toList d.data.toList) = true from hcf, if_pos rfl])
      obtain ⟨s0, s1, s2, s3, s4, s5⟩ := SB.cells hs5
      have f0 := hs5.free 0
      have f1 := hs5.free 1
      have f2 := hs5.free 2
      have f3 := hs5.free 3
      have f4 := hs5.free 4
      have f5 := hs5.free 5
      have hnew := (((((hs5.set 0 (.int .i64 (codecN a.data.toList))).set 1 (.int .i64 (numL b.data.toList))).set 2 (.int .i64 (numL c.data.toList))).set 3 (.int .i64 (numL d.data.toList))).set 4 (.string ⟨#[]⟩)).set 5 (.bool false)
      have HNEW := Lib.hid hnew
      have HGR := Lib.hid (grownSet (grownSet (grownSet (grownSet (grownSet (grownSet (grownB (g := g) HB5.out) (i := 0) (.int .i64 (codecN a.data.toList))) (i := 1) (.int .i64 (numL b.data.toList))) (i := 2) (.int .i64 (numL c.data.toList))) (i := 3) (.int .i64 (numL d.data.toList))) (i := 4) (.string ⟨#[]⟩)) (i := 5) (.bool false))
      clear hcf hs5 hnew
      go_wp2
      go_ret
      exact ⟨by rw [HE.out]; rfl, by rw [HE.out]; exact HNEW.out, HGR.out⟩
end Go.Proofs.YtcegpcggdcgjbaaGreatDoor
