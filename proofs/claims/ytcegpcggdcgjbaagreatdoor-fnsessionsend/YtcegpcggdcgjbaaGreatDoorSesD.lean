/- A session in the program: the other commands; the commands by their names. -/
import Derived.Test.YtcegpcggdcgjbaaGreatDoorSesB
import Derived.Test.YtcegpcggdcgjbaaGreatDoorKitCobE
import Derived.Test.YtcegpcggdcgjbaaGreatDoorKitCob
namespace Go.Proofs.YtcegpcggdcgjbaaGreatDoor
open Go.ChangeShapes Go.WideShapes Go.ChangeAt Go.RowKit Go.WideMaps Go.Maps
open Go.Lib (decDigits)
set_option linter.unusedVariables false
theorem sumAns_any (kd : Int) (hk : kindB kd = true) (t : ByteArray) (w : World) (hw : SesIs w) (ht : t.size ≤ 1048576) :
    Calls Tryz.prog 47 #[.int .i64 kd, .string t] w fun e w' => e = .returned (.string ⟨(decDigits (sumN kd t.data.toList)).toArray⟩) ∧ Below w.heap.size w w' := by
  have HO := Lib.hid (fun u => implOf_yes kd t u hk (by unfold maxLen; omega))
  have hn := sumN_lt kd t.data.toList
  have HW := Lib.hid hw
  generalize sumN kd t.data.toList = n at *
  have HI := Lib.hid (fun u hu => itoaN_any n (by omega) u hu)
  clear hw hk hn
  go_enter Tryz.func47, Tryz.ntmps47
  go_wp2_with fail
  refine (HO.out _).mono ?_
  rintro e w1 ⟨rfl, hb1⟩
  have HB1 := Lib.hid hb1
  clear hb1
  go_wp2_with fail
  refine (HI.out _ (HW.out.from HB1.out).pow).mono ?_
  rintro e w2 ⟨rfl, hb2⟩
  have HB2 := Lib.hid (HB1.out.trans (hb2.mono HB1.out.size))
  clear hb2
  go_wp2
  go_ret
  exact ⟨rfl, HB2.out⟩
theorem cob_small {l : List UInt8} (h : l.length ≤ 600) : (cob l).length ≤ 1300 := by
  have := writeL_len ⟨2, 2, 0, 0⟩ l h
  have e : writeL ⟨2, 2, 0, 0⟩ l = cob l := rfl
  rw [e] at this
  omega
theorem less_small {l : List UInt8} (h : l.length ≤ 600) : (less l).length ≤ 1300 := by
  have := writeL_len ⟨3, 2, 0, 0⟩ l h
  have e : writeL ⟨3, 2, 0, 0⟩ l = less l := rfl
  rw [e] at this
  omega
theorem cobAns_any (t : ByteArray) (w : World) (ht : t.size ≤ 600) :
    Calls Tryz.prog 49 #[.func (.func 48) #[] #[], .string t] w fun e w' => e = .returned (.string ⟨(hexL (cob t.data.toList)).toArray⟩) ∧ Below w.heap.size w w' := by
  have hl := cob_small (l := t.data.toList) (by rw [size_list]; exact ht)
  have HE := Lib.hid (show cobA t.data.toList = cob t.data.toList from if_pos (by rw [size_list]; exact ht))
  obtain ⟨T, hT⟩ : ∃ T : ByteArray, T = ⟨(cob t.data.toList).toArray⟩ := ⟨_, rfl⟩
  have HT := Lib.hid (show T.data.toList = cob t.data.toList by rw [hT])
  have hTs : T.size ≤ 1300 := by rw [← size_list, HT.out]; exact hl
  have HTE := Lib.hid hT
  clear hT hl
  go_enter Tryz.func49, Tryz.ntmps49
  go_wp2_with fail
  refine (implCobs_any t _).mono ?_
  rintro e w1 ⟨rfl, hb1⟩
  rw [HE.out, ← HTE.out]
  have HB1 := Lib.hid hb1
  clear hb1
  go_wp2_with fail
  refine (figuresOf_any T _ (by omega)).mono ?_
  rintro e w2 ⟨rfl, hb2⟩
  have HB2 := Lib.hid (HB1.out.trans (hb2.mono HB1.out.size))
  clear hb2
  go_wp2
  go_ret
  exact ⟨by rw [← HT.out]; rfl, HB2.out⟩
theorem lessAns_any (t : ByteArray) (w : World) (ht : t.size ≤ 600) :
    Calls Tryz.prog 49 #[.func (.func 50) #[] #[], .string t] w fun e w' => e = .returned (.string ⟨(hexL (less t.data.toList)).toArray⟩) ∧ Below w.heap.size w w' := by
  have hl := less_small (l := t.data.toList) (by rw [size_list]; exact ht)
  have HE := Lib.hid (show lessA t.data.toList = less t.data.toList from if_pos (by rw [size_list]; exact ht))
  obtain ⟨T, hT⟩ : ∃ T : ByteArray, T = ⟨(less t.data.toList).toArray⟩ := ⟨_, rfl⟩
  have HT := Lib.hid (show T.data.toList = less t.data.toList by rw [hT])
  have hTs : T.size ≤ 1300 := by rw [← size_list, HT.out]; exact hl
  have HTE := Lib.hid hT
  clear hT hl
  go_enter Tryz.func49, Tryz.ntmps49
  go_wp2_with fail
  refine (implLess_any t _).mono ?_
  rintro e w1 ⟨rfl, hb1⟩
  rw [HE.out, ← HTE.out]
  have HB1 := Lib.hid hb1
  clear hb1
  go_wp2_with fail
  refine (figuresOf_any T _ (by omega)).mono ?_
  rintro e w2 ⟨rfl, hb2⟩
  have HB2 := Lib.hid (HB1.out.trans (hb2.mono HB1.out.size))
  clear hb2
  go_wp2
  go_ret
  exact ⟨by rw [← HT.out]; rfl, HB2.out⟩
theorem hput_one (t : ByteArray) : hputA 2 [t] = if t.size ≤ 24 then framesL 2 [t.data.toList] else [] := by
  unfold hputA
  by_cases h : t.size ≤ 24
  · rw [if_pos (by simp [roomB, h]; decide), if_pos h]; rfl
  · rw [if_neg (by simp [roomB, h]), if_neg h]
theorem frames_one (t : List UInt8) : 1 ≤ (framesL 2 [t]).length := by
  unfold framesL
  rw [List.length_append]
  have : flagL.length = 8 := rfl
  omega
theorem bitsAns_any (t : ByteArray) (w : World) (ht : t.size ≤ 1048576) :
    Calls Tryz.prog 51 #[.string t] w fun e w' => e = .returned (.string ⟨(bitsS t.data.toList).toArray⟩) ∧ Below w.heap.size w w' := by
  have HP := Lib.hid (fun (u : World) (v : Value) (B : Nat) (h : RS u B v [t]) (hB : B ≤ u.heap.size) => implHput_any 2 v [t] u B h hB (by simp) (by simp; exact ht))
  obtain ⟨T, hT⟩ : ∃ T : ByteArray, T = ⟨(hputA 2 [t]).toArray⟩ := ⟨_, rfl⟩
  have HTd := Lib.hid (show T.data.toList = hputA 2 [t] by rw [hT])
  have HTE := Lib.hid hT
  clear hT
  by_cases h24 : t.size ≤ 24
  · have HE := Lib.hid (show bitsS t.data.toList = T.data.toList by rw [HTd.out, hput_one, if_pos h24]; exact if_pos (by rw [size_list]; exact h24))
    have hne : T.toList.isEmpty = false := nonempty_isEmpty (by rw [← size_list, HTd.out, hput_one, if_pos h24]; exact frames_one _)
    clear h24
    go_enter Tryz.func51, Tryz.ntmps51
    go_wp2_with fail
    refine (HP.out _ _ _ (RS_one w t) (by simp)).mono ?_
    rintro e w1 ⟨rfl, hb1⟩
    rw [← HTE.out]
    have HB1 := Lib.hid (alloc_below hb1)
    clear hb1
    go_wp2
    go_ret
    exact ⟨by rw [HE.out]; exact congrArg (fun x => Ending.returned (Value.string x)) (Lib.mk_data _).symm, HB1.out⟩
  · have HE := Lib.hid (show bitsS t.data.toList = aNo from if_neg (by rw [size_list]; exact h24))
    have HT0 := Lib.hid (show (⟨(hputA 2 [t]).toArray⟩ : ByteArray) = ⟨#[]⟩ by rw [hput_one, if_neg h24])
    clear h24
    go_enter Tryz.func51, Tryz.ntmps51
    go_wp2_with fail
    refine (HP.out _ _ _ (RS_one w t) (by simp)).mono ?_
    rintro e w1 ⟨rfl, hb1⟩
    rw [HT0.out]
    have HB1 := Lib.hid (alloc_below hb1)
    clear hb1
    go_wp2
    go_ret
    exact ⟨by rw [HE.out]; rfl, HB1.out⟩
def cmdF (g : Nat) (l : List UInt8) : Value := if l = wSend then .func (.func 45) #[.pointer (some ⟨g, 0, none⟩)] #[] else if l = wFeed then .func (.func 46) #[.pointer (some ⟨g, 0, none⟩)] #[] else if l = wShort then .func (.func 47) #[.int .i64 2] #[] else if l = wLong then .func (.func 47) #[.int .i64 4] #[] else if l = wCobs then .func (.func 49) #[.func (.func 48) #[] #[]] #[] else if l = wLess then .func (.func 49) #[.func (.func 50) #[] #[]] #[] else if l = wBits then .func (.func 51) #[] #[] else .nilFunc
def isCmd (l : List UInt8) : Bool := decide (l = wSend) || decide (l = wFeed) || decide (l = wShort) || decide (l = wLong) || decide (l = wCobs) || decide (l = wLess) || decide (l = wBits)
def cmdsD (g : Nat) : DataW Value := ((((((((DataW.map []).put (.string [115, 101, 110, 100]) (.held (.func (.func 45) #[.pointer (some ⟨g, 0, none⟩)] #[]))).put (.string [102, 101, 101, 100]) (.held (.func (.func 46) #[.pointer (some ⟨g, 0, none⟩)] #[]))).put (.string [115, 104, 111, 114, 116]) (.held (.func (.func 47) #[.int .i64 2] #[]))).put (.string [108, 111, 110, 103]) (.held (.func (.func 47) #[.int .i64 4] #[]))).put (.string [99, 111, 98, 115]) (.held (.func (.func 49) #[.func (.func 48) #[] #[]] #[]))).put (.string [108, 101, 115, 115]) (.held (.func (.func 49) #[.func (.func 50) #[] #[]] #[]))).put (.string [98, 105, 116, 115]) (.held (.func (.func 51) #[] #[])))
theorem zero_cmd (w : World) : (zeroValue 27).run Tryz.prog w = .ok .nilFunc w := by kernel_rfl
theorem cmds_at (g : Nat) (l : List UInt8) : (cmdsD g).atKey (.string l) (.held .nilFunc) = .held (cmdF g l) ∧ Maps.has (cmdsD g) (.string l) = isCmd l := by
  by_cases hSend : l = wSend
  · subst hSend; exact ⟨by kernel_rfl, by kernel_rfl⟩
  by_cases hFeed : l = wFeed
  · subst hFeed; exact ⟨by kernel_rfl, by kernel_rfl⟩
  by_cases hShort : l = wShort
  · subst hShort; exact ⟨by kernel_rfl, by kernel_rfl⟩
  by_cases hLong : l = wLong
  · subst hLong; exact ⟨by kernel_rfl, by kernel_rfl⟩
  by_cases hCobs : l = wCobs
  · subst hCobs; exact ⟨by kernel_rfl, by kernel_rfl⟩
  by_cases hLess : l = wLess
  · subst hLess; exact ⟨by kernel_rfl, by kernel_rfl⟩
  by_cases hBits : l = wBits
  · subst hBits; exact ⟨by kernel_rfl, by kernel_rfl⟩
  have nSend : (Lit.string l) ≠ .string [115, 101, 110, 100] := fun e => hSend (by injection e)
  have nFeed : (Lit.string l) ≠ .string [102, 101, 101, 100] := fun e => hFeed (by injection e)
  have nShort : (Lit.string l) ≠ .string [115, 104, 111, 114, 116] := fun e => hShort (by injection e)
  have nLong : (Lit.string l) ≠ .string [108, 111, 110, 103] := fun e => hLong (by injection e)
  have nCobs : (Lit.string l) ≠ .string [99, 111, 98, 115] := fun e => hCobs (by injection e)
  have nLess : (Lit.string l) ≠ .string [108, 101, 115, 115] := fun e => hLess (by injection e)
  have nBits : (Lit.string l) ≠ .string [98, 105, 116, 115] := fun e => hBits (by injection e)
  constructor
  · unfold cmdsD
    rw [atKey_put_other nBits, atKey_put_other nLess, atKey_put_other nCobs, atKey_put_other nLong, atKey_put_other nShort, atKey_put_other nFeed, atKey_put_other nSend, cmdF, if_neg hSend, if_neg hFeed, if_neg hShort, if_neg hLong, if_neg hCobs, if_neg hLess, if_neg hBits]
    rfl
  · unfold cmdsD
    rw [has_put_other nBits, has_put_other nLess, has_put_other nCobs, has_put_other nLong, has_put_other nShort, has_put_other nFeed, has_put_other nSend]
    symm
    show isCmd l = false
    unfold isCmd
    rw [decide_eq_false hSend, decide_eq_false hFeed, decide_eq_false hShort, decide_eq_false hLong, decide_eq_false hCobs, decide_eq_false hLess, decide_eq_false hBits]
    rfl
set_option maxRecDepth 100000 in
theorem cmds_laid (g : Nat) (a : ByteArray) (w0 : World) (ha : a.size ≤ maxLen) :
    ∃ w1 w2 w3 w4 w5 w6 w7, (Instr.mapUpdate 92 (.map (some w0.heap.size)) (.string ⟨#[115, 101, 110, 100]⟩) (.func (.func 45) #[.pointer (some ⟨g, 0, none⟩)] #[])).run Tryz.prog (w0.alloc (.map #[] 0)) = .ok () w1 ∧
      (Instr.mapUpdate 92 (.map (some w0.heap.size)) (.string ⟨#[102, 101, 101, 100]⟩) (.func (.func 46) #[.pointer (some ⟨g, 0, none⟩)] #[])).run Tryz.prog w1 = .ok () w2 ∧
      (Instr.mapUpdate 92 (.map (some w0.heap.size)) (.string ⟨#[115, 104, 111, 114, 116]⟩) (.func (.func 47) #[.int .i64 2] #[])).run Tryz.prog w2 = .ok () w3 ∧
      (Instr.mapUpdate 92 (.map (some w0.heap.size)) (.string ⟨#[108, 111, 110, 103]⟩) (.func (.func 47) #[.int .i64 4] #[])).run Tryz.prog w3 = .ok () w4 ∧
      (Instr.mapUpdate 92 (.map (some w0.heap.size)) (.string ⟨#[99, 111, 98, 115]⟩) (.func (.func 49) #[.func (.func 48) #[] #[]] #[])).run Tryz.prog w4 = .ok () w5 ∧
      (Instr.mapUpdate 92 (.map (some w0.heap.size)) (.string ⟨#[108, 101, 115, 115]⟩) (.func (.func 49) #[.func (.func 50) #[] #[]] #[])).run Tryz.prog w5 = .ok () w6 ∧
      (Instr.mapUpdate 92 (.map (some w0.heap.size)) (.string ⟨#[98, 105, 116, 115]⟩) (.func (.func 51) #[] #[])).run Tryz.prog w6 = .ok () w7 ∧
      (Instr.lookup 92 (.map (some w0.heap.size)) (.string a) true).run Tryz.prog w7 = .ok (.tuple #[cmdF g a.data.toList, .bool (isCmd a.data.toList)]) w7 ∧ Below w0.heap.size w0 w7 := by
  have h0 := World.ownsMap_made w0 Tryz.prog 9 selfElem
  obtain ⟨w1, r1, h1, g1⟩ := h0.update str_keys Tryz.underlying92 (by unfold maxLen; omega) (key_str (s := ⟨#[115, 101, 110, 100]⟩) (by decide)) (val := .func (.func 45) #[.pointer (some ⟨g, 0, none⟩)] #[]) rfl
  obtain ⟨w2, r2, h2, g2⟩ := h1.update str_keys Tryz.underlying92 (by unfold maxLen; omega) (key_str (s := ⟨#[102, 101, 101, 100]⟩) (by decide)) (val := .func (.func 46) #[.pointer (some ⟨g, 0, none⟩)] #[]) rfl
  obtain ⟨w3, r3, h3, g3⟩ := h2.update str_keys Tryz.underlying92 (by unfold maxLen; omega) (key_str (s := ⟨#[115, 104, 111, 114, 116]⟩) (by decide)) (val := .func (.func 47) #[.int .i64 2] #[]) rfl
  obtain ⟨w4, r4, h4, g4⟩ := h3.update str_keys Tryz.underlying92 (by unfold maxLen; omega) (key_str (s := ⟨#[108, 111, 110, 103]⟩) (by decide)) (val := .func (.func 47) #[.int .i64 4] #[]) rfl
  obtain ⟨w5, r5, h5, g5⟩ := h4.update str_keys Tryz.underlying92 (by unfold maxLen; omega) (key_str (s := ⟨#[99, 111, 98, 115]⟩) (by decide)) (val := .func (.func 49) #[.func (.func 48) #[] #[]] #[]) rfl
  obtain ⟨w6, r6, h6, g6⟩ := h5.update str_keys Tryz.underlying92 (by unfold maxLen; omega) (key_str (s := ⟨#[108, 101, 115, 115]⟩) (by decide)) (val := .func (.func 49) #[.func (.func 50) #[] #[]] #[]) rfl
  obtain ⟨w7, r7, h7, g7⟩ := h6.update str_keys Tryz.underlying92 (by unfold maxLen; omega) (key_str (s := ⟨#[98, 105, 116, 115]⟩) (by decide)) (val := .func (.func 51) #[] #[]) rfl
  have b0 : Below w0.heap.size w0 (w0.alloc (.map #[] 0)) := (Below.refl _ _).alloc (Nat.le_refl _) _
  have b1 := b0.grown g1 b0.size (fun k hk => by cases hk; exact Nat.le_refl _)
  have b2 := b1.grown g2 b1.size (fun k hk => by cases hk; exact Nat.le_refl _)
  have b3 := b2.grown g3 b2.size (fun k hk => by cases hk; exact Nat.le_refl _)
  have b4 := b3.grown g4 b3.size (fun k hk => by cases hk; exact Nat.le_refl _)
  have b5 := b4.grown g5 b4.size (fun k hk => by cases hk; exact Nat.le_refl _)
  have b6 := b5.grown g6 b5.size (fun k hk => by cases hk; exact Nat.le_refl _)
  have b7 := b6.grown g7 b6.size (fun k hk => by cases hk; exact Nat.le_refl _)
  obtain ⟨v, ps, hl, hv⟩ := h7.look_ok str_keys Tryz.underlying92 (zero_cmd _) (zd := .held .nilFunc) (zp := []) rfl (key_str ha)
  obtain ⟨e1, e2⟩ := cmds_at g a.data.toList
  have ev : v = cmdF g a.data.toList := by
    have e3 := selfElem_inv hv
    have e4 : (cmdsD g).atKey (.string a.data.toList) (.held .nilFunc) = .held v := e3
    rw [e1] at e4
    injection e4 with e4
    exact e4.symm
  refine ⟨w1, w2, w3, w4, w5, w6, w7, r1, r2, r3, r4, r5, r6, r7, ?_, b7⟩
  rw [hl, ev]
  show Result.ok (Value.tuple #[cmdF g a.data.toList, .bool (Maps.has (cmdsD g) (.string a.data.toList))]) w7 = _
  rw [e2]
set_option maxRecDepth 100000 in
set_option maxHeartbeats 2000000 in
theorem answerBytes_any (s : St) (hok : s.Ok) (g : Nat) (hg : 7 ≤ g) (a b : ByteArray) (w : World) (hw : SesIs w) (h : SB w g s) (ha : a.size ≤ 1048576) (hb : b.size ≤ 1048576) :
    Calls Tryz.prog 30 #[.pointer (some ⟨g, 0, none⟩), .string a, .string b] w (AnsPost w g (ansS s [a.data.toList, b.data.toList])) := by
  have hmm := @run_makeMap Tryz.prog
  obtain ⟨w1, w2, w3, w4, w5, w6, w7, r1, r2, r3, r4, r5, r6, r7, r8, hb7⟩ := cmds_laid g a w (by unfold maxLen; omega)
  have HG := Lib.hid (fun u => implHexGet_any b u (by omega))
  have HB7 := Lib.hid hb7
  have HSI7 := Lib.hid (hw.from hb7)
  have HSB7 := Lib.hid (show SB w7 g s from BK.from h hb7)
  have HOK := Lib.hid hok
  have HANS := Lib.hid (show ansS s [a.data.toList, b.data.toList] = if getHOk b.data.toList = true then twoS s a.data.toList (getH b.data.toList) else (s, aWhat) from rfl)
  have hlen := getH_len b.data.toList
  obtain ⟨T, hT⟩ : ∃ T : ByteArray, T = ⟨(getH b.data.toList).toArray⟩ := ⟨_, rfl⟩
  have HTd := Lib.hid (show getH b.data.toList = T.data.toList by rw [hT])
  have HTE := Lib.hid hT
  have hTs : T.size ≤ 40 := by rw [← size_list, ← HTd.out]; exact hlen
  rw [HTd.out] at HANS
  clear hb7 hw h hok hT hlen
  cases hgo : getHOk b.data.toList with
  | false =>
    have HE := Lib.hid (show ansS s [a.data.toList, b.data.toList] = (s, aWhat) by rw [HANS.out, hgo, if_neg Bool.false_ne_true])
    have HGO := Lib.hid hgo
    clear hgo
    obtain ⟨u, hu⟩ : ∃ u, u = cmdF g a.data.toList := ⟨_, rfl⟩
    rw [← hu] at r8
    clear hu
    cases hic : isCmd a.data.toList <;> rw [hic] at r8 <;> clear hic
    all_goals
      go_enter Tryz.func30, Tryz.ntmps30
      go_wp2_with fail
      refine (HG.out _).mono ?_
      rintro e w8 ⟨rfl, hb8⟩
      rw [HGO.out, ← HTE.out]
      have HB8 := Lib.hid (HB7.out.trans (hb8.mono HB7.out.size))
      have HSB8 := Lib.hid (BK.from HSB7.out hb8)
      clear hb8
      go_wp2
      go_ret
      exact ⟨by rw [HE.out]; rfl, by rw [HE.out]; exact HSB8.out, grownB HB8.out⟩
  | true =>
    have HGO := Lib.hid hgo
    rw [hgo, if_pos rfl] at HANS
    clear hgo
    by_cases hSend : a.data.toList = wSend
    · rw [hSend] at r8
      rw [show cmdF g wSend = .func (.func 45) #[.pointer (some ⟨g, 0, none⟩)] #[] by kernel_rfl, show isCmd wSend = true by kernel_rfl] at r8
      have HE := Lib.hid (show ansS s [a.data.toList, b.data.toList] = (s, sendS s T.data.toList) by rw [HANS.out, hSend]; unfold twoS; rw [if_pos rfl])
      clear hSend
      go_enter Tryz.func30, Tryz.ntmps30
      go_wp2_with fail
      refine (HG.out _).mono ?_
      rintro e w8 ⟨rfl, hb8⟩
      rw [HGO.out, ← HTE.out]
      have HB8 := Lib.hid (HB7.out.trans (hb8.mono HB7.out.size))
      have HSI8 := Lib.hid (HSI7.out.from hb8)
      have HSB8 := Lib.hid (show SB w8 g s from BK.from HSB7.out hb8)
      clear hb8
      go_wp2_with fail
      refine (send_any s HOK.out g T _ HSB8.out (by omega)).mono ?_
      rintro e w9 ⟨rfl, hsb9, hg9⟩
      have HSB9 := Lib.hid hsb9
      have HG9 := Lib.hid (grown_trans (grownB (g := g) HB8.out) hg9)
      clear hsb9 hg9
      go_wp2
      go_ret
      exact ⟨by rw [HE.out]; rfl, by rw [HE.out]; exact HSB9.out, HG9.out⟩
    by_cases hFeed : a.data.toList = wFeed
    · rw [hFeed] at r8
      rw [show cmdF g wFeed = .func (.func 46) #[.pointer (some ⟨g, 0, none⟩)] #[] by kernel_rfl, show isCmd wFeed = true by kernel_rfl] at r8
      have HE := Lib.hid (show ansS s [a.data.toList, b.data.toList] = feedS s T.data.toList by rw [HANS.out, hFeed]; unfold twoS; rw [if_neg (by decide), if_pos rfl])
      clear hFeed
      go_enter Tryz.func30, Tryz.ntmps30
      go_wp2_with fail
      refine (HG.out _).mono ?_
      rintro e w8 ⟨rfl, hb8⟩
      rw [HGO.out, ← HTE.out]
      have HB8 := Lib.hid (HB7.out.trans (hb8.mono HB7.out.size))
      have HSI8 := Lib.hid (HSI7.out.from hb8)
      have HSB8 := Lib.hid (show SB w8 g s from BK.from HSB7.out hb8)
      clear hb8
      go_wp2_with fail
      refine (feed_any s HOK.out g hg T _ HSI8.out HSB8.out (by omega)).mono ?_
      rintro e w9 ⟨rfl, hsb9, hg9⟩
      have HSB9 := Lib.hid hsb9
      have HG9 := Lib.hid (grown_trans (grownB (g := g) HB8.out) hg9)
      clear hsb9 hg9
      go_wp2
      go_ret
      exact ⟨by rw [HE.out]; rfl, by rw [HE.out]; exact HSB9.out, HG9.out⟩
    by_cases hShort : a.data.toList = wShort
    · rw [hShort] at r8
      rw [show cmdF g wShort = .func (.func 47) #[.int .i64 2] #[] by kernel_rfl, show isCmd wShort = true by kernel_rfl] at r8
      have HE := Lib.hid (show ansS s [a.data.toList, b.data.toList] = (s, decDigits (sumN 2 T.data.toList)) by rw [HANS.out, hShort]; unfold twoS; rw [if_neg (by decide), if_neg (by decide), if_pos rfl])
      clear hShort
      go_enter Tryz.func30, Tryz.ntmps30
      go_wp2_with fail
      refine (HG.out _).mono ?_
      rintro e w8 ⟨rfl, hb8⟩
      rw [HGO.out, ← HTE.out]
      have HB8 := Lib.hid (HB7.out.trans (hb8.mono HB7.out.size))
      have HSI8 := Lib.hid (HSI7.out.from hb8)
      have HSB8 := Lib.hid (show SB w8 g s from BK.from HSB7.out hb8)
      clear hb8
      go_wp2_with fail
      refine (sumAns_any 2 rfl T _ HSI8.out (by omega)).mono ?_
      rintro e w9 ⟨rfl, hb9⟩
      have HB9 := Lib.hid (HB8.out.trans (hb9.mono HB8.out.size))
      have HSB9 := Lib.hid (show SB w9 g s from BK.from HSB8.out hb9)
      clear hb9
      go_wp2
      go_ret
      exact ⟨by rw [HE.out]; rfl, by rw [HE.out]; exact HSB9.out, grownB HB9.out⟩
    by_cases hLong : a.data.toList = wLong
    · rw [hLong] at r8
      rw [show cmdF g wLong = .func (.func 47) #[.int .i64 4] #[] by kernel_rfl, show isCmd wLong = true by kernel_rfl] at r8
      have HE := Lib.hid (show ansS s [a.data.toList, b.data.toList] = (s, decDigits (sumN 4 T.data.toList)) by rw [HANS.out, hLong]; unfold twoS; rw [if_neg (by decide), if_neg (by decide), if_neg (by decide), if_pos rfl])
      clear hLong
      go_enter Tryz.func30, Tryz.ntmps30
      go_wp2_with fail
      refine (HG.out _).mono ?_
      rintro e w8 ⟨rfl, hb8⟩
      rw [HGO.out, ← HTE.out]
      have HB8 := Lib.hid (HB7.out.trans (hb8.mono HB7.out.size))
      have HSI8 := Lib.hid (HSI7.out.from hb8)
      have HSB8 := Lib.hid (show SB w8 g s from BK.from HSB7.out hb8)
      clear hb8
      go_wp2_with fail
      refine (sumAns_any 4 rfl T _ HSI8.out (by omega)).mono ?_
      rintro e w9 ⟨rfl, hb9⟩
      have HB9 := Lib.hid (HB8.out.trans (hb9.mono HB8.out.size))
      have HSB9 := Lib.hid (show SB w9 g s from BK.from HSB8.out hb9)
      clear hb9
      go_wp2
      go_ret
      exact ⟨by rw [HE.out]; rfl, by rw [HE.out]; exact HSB9.out, grownB HB9.out⟩
    by_cases hCobs : a.data.toList = wCobs
    · rw [hCobs] at r8
      rw [show cmdF g wCobs = .func (.func 49) #[.func (.func 48) #[] #[]] #[] by kernel_rfl, show isCmd wCobs = true by kernel_rfl] at r8
      have HE := Lib.hid (show ansS s [a.data.toList, b.data.toList] = (s, hexL (cob T.data.toList)) by rw [HANS.out, hCobs]; unfold twoS; rw [if_neg (by decide), if_neg (by decide), if_neg (by decide), if_neg (by decide), if_pos rfl])
      clear hCobs
      go_enter Tryz.func30, Tryz.ntmps30
      go_wp2_with fail
      refine (HG.out _).mono ?_
      rintro e w8 ⟨rfl, hb8⟩
      rw [HGO.out, ← HTE.out]
      have HB8 := Lib.hid (HB7.out.trans (hb8.mono HB7.out.size))
      have HSI8 := Lib.hid (HSI7.out.from hb8)
      have HSB8 := Lib.hid (show SB w8 g s from BK.from HSB7.out hb8)
      clear hb8
      go_wp2_with fail
      refine (cobAns_any T _ (by omega)).mono ?_
      rintro e w9 ⟨rfl, hb9⟩
      have HB9 := Lib.hid (HB8.out.trans (hb9.mono HB8.out.size))
      have HSB9 := Lib.hid (show SB w9 g s from BK.from HSB8.out hb9)
      clear hb9
      go_wp2
      go_ret
      exact ⟨by rw [HE.out]; rfl, by rw [HE.out]; exact HSB9.out, grownB HB9.out⟩
    by_cases hLess : a.data.toList = wLess
    · rw [hLess] at r8
      rw [show cmdF g wLess = .func (.func 49) #[.func (.func 50) #[] #[]] #[] by kernel_rfl, show isCmd wLess = true by kernel_rfl] at r8
      have HE := Lib.hid (show ansS s [a.data.toList, b.data.toList] = (s, hexL (less T.data.toList)) by rw [HANS.out, hLess]; unfold twoS; rw [if_neg (by decide), if_neg (by decide), if_neg (by decide), if_neg (by decide), if_neg (by decide), if_pos rfl])
      clear hLess
      go_enter Tryz.func30, Tryz.ntmps30
      go_wp2_with fail
      refine (HG.out _).mono ?_
      rintro e w8 ⟨rfl, hb8⟩
      rw [HGO.out, ← HTE.out]
      have HB8 := Lib.hid (HB7.out.trans (hb8.mono HB7.out.size))
      have HSI8 := Lib.hid (HSI7.out.from hb8)
      have HSB8 := Lib.hid (show SB w8 g s from BK.from HSB7.out hb8)
      clear hb8
      go_wp2_with fail
      refine (lessAns_any T _ (by omega)).mono ?_
      rintro e w9 ⟨rfl, hb9⟩
      have HB9 := Lib.hid (HB8.out.trans (hb9.mono HB8.out.size))
      have HSB9 := Lib.hid (show SB w9 g s from BK.from HSB8.out hb9)
      clear hb9
      go_wp2
      go_ret
      exact ⟨by rw [HE.out]; rfl, by rw [HE.out]; exact HSB9.out, grownB HB9.out⟩
    by_cases hBits : a.data.toList = wBits
    · rw [hBits] at r8
      rw [show cmdF g wBits = .func (.func 51) #[] #[] by kernel_rfl, show isCmd wBits = true by kernel_rfl] at r8
      have HE := Lib.hid (show ansS s [a.data.toList, b.data.toList] = (s, bitsS T.data.toList) by rw [HANS.out, hBits]; unfold twoS; rw [if_neg (by decide), if_neg (by decide), if_neg (by decide), if_neg (by decide), if_neg (by decide), if_neg (by decide), if_pos rfl])
      clear hBits
      go_enter Tryz.func30, Tryz.ntmps30
      go_wp2_with fail
      refine (HG.out _).mono ?_
      rintro e w8 ⟨rfl, hb8⟩
      rw [HGO.out, ← HTE.out]
      have HB8 := Lib.hid (HB7.out.trans (hb8.mono HB7.out.size))
      have HSI8 := Lib.hid (HSI7.out.from hb8)
      have HSB8 := Lib.hid (show SB w8 g s from BK.from HSB7.out hb8)
      clear hb8
      go_wp2_with fail
      refine (bitsAns_any T _ (by omega)).mono ?_
      rintro e w9 ⟨rfl, hb9⟩
      have HB9 := Lib.hid (HB8.out.trans (hb9.mono HB8.out.size))
      have HSB9 := Lib.hid (show SB w9 g s from BK.from HSB8.out hb9)
      clear hb9
      go_wp2
      go_ret
      exact ⟨by rw [HE.out]; rfl, by rw [HE.out]; exact HSB9.out, grownB HB9.out⟩
    have hic : isCmd a.data.toList = false := by unfold isCmd; rw [decide_eq_false hSend, decide_eq_false hFeed, decide_eq_false hShort, decide_eq_false hLong, decide_eq_false hCobs, decide_eq_false hLess, decide_eq_false hBits]; rfl
    have HE := Lib.hid (show ansS s [a.data.toList, b.data.toList] = (s, aWhat) by rw [HANS.out]; unfold twoS; rw [if_neg hSend, if_neg hFeed, if_neg hShort, if_neg hLong, if_neg hCobs, if_neg hLess, if_neg hBits])
    obtain ⟨u, hu⟩ : ∃ u, u = cmdF g a.data.toList := ⟨_, rfl⟩
    rw [← hu, hic] at r8
    clear hu hic hSend hFeed hShort hLong hCobs hLess hBits
    · go_enter Tryz.func30, Tryz.ntmps30
      go_wp2_with fail
      refine (HG.out _).mono ?_
      rintro e w8 ⟨rfl, hb8⟩
      rw [HGO.out, ← HTE.out]
      have HB8 := Lib.hid (HB7.out.trans (hb8.mono HB7.out.size))
      have HSI8 := Lib.hid (HSI7.out.from hb8)
      have HSB8 := Lib.hid (show SB w8 g s from BK.from HSB7.out hb8)
      clear hb8
      go_wp2
      go_ret
      exact ⟨by rw [HE.out]; rfl, by rw [HE.out]; exact HSB8.out, grownB HB8.out⟩
end Go.Proofs.YtcegpcggdcgjbaaGreatDoor
