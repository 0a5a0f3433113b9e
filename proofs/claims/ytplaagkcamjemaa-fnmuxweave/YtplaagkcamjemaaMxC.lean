/- MuxNew and MuxOk, in the program and in the model. -/
import Derived.Test.YtplaagkcamjemaaMxB
import Derived.Test.YtplaagkcamjemaaBk
import Derived.Laws.EntriesVeiled
namespace Go.Proofs.Ytplaagkcamjemaa
open Go.ChangeShapes Go.WideShapes Go.ChangeAt Go.RowKit
def NewMPost (w : World) (m : List (List UInt8)) (e : Ending) (w' : World) : Prop := (∃ v, e = .returned (.agg #[v]) ∧ OS w' w.heap.size v (strs m)) ∧ Below w.heap.size w w'
theorem zero_mux (w : World) : (zeroValue 35).run Try.prog w = .ok (.agg #[.slice none 0 0]) w := by kernel_rfl
theorem made_three (w : World) : (Instr.makeSlice 25 (.int .i64 3) (.int .i64 3)).run Try.prog w = .ok (.slice (some ⟨w.heap.size, 0, none⟩) 3 3) (w.alloc (.cells #[.string ⟨#[]⟩, .string ⟨#[]⟩, .string ⟨#[]⟩] 9)) := by
  obtain ⟨i0, hi, hz0, hz1, hz2⟩ := info_parts info_str
  have h := run_make (P := Try.prog) w 25 9 i0 (.string ⟨#[]⟩) Try.underlying25 hi hz0 .i64 .i64 3 3 (by omega) (Int.le_refl _) (by rw [hz2]; omega) (by omega)
  have e : madeCells (Value.string ⟨#[]⟩).cells 3 = #[.string ⟨#[]⟩, .string ⟨#[]⟩, .string ⟨#[]⟩] := by
    rw [madeCells, show Array.range 3 = #[0, 1, 2] by decide]
    simp [Value.cells]
  rw [h, hz1, show (3 : Int).toNat = 3 from rfl, Nat.mul_one, e]
theorem os_three (w : World) (base : Nat) (hb : base ≤ w.heap.size) : OS (w.alloc (.cells #[.string ⟨#[]⟩, .string ⟨#[]⟩, .string ⟨#[]⟩] 9)) base (.slice (some ⟨w.heap.size, 0, none⟩) 3 3) (strs mux0) :=
  ⟨rfl, .inr ⟨w.heap.size, 3, _, rfl, hb, heap_alloc_new w _, Nat.le_refl _, by simp [maxLen], rfl, rfl⟩⟩
theorem mux_ret {k : Nat} {f : Func} {v : Value} {W : World} {g : Nat} {A : Act} {Q : Ending → World → Prop} (hf : f.results = #[.cell k 35]) (hq : BK W g #[v] 35)
    (hs : A.tmps.getD k undef = .pointer (some ⟨g, 0, none⟩)) (hd : A.defers = []) (hQ : Q (.returned (.agg #[v])) W) : bodyPost Try.prog f Q .ret A W := by
  have z0 := hq.cell (i := 0) rfl
  have hs2 : A.tmps[k]?.getD undef = .pointer (some ⟨g, 0, none⟩) := by rw [← hs]; simp
  refine bodyPost_ret (v := .agg #[v]) ?_ hd hQ
  simp [results, hf, go_sem, hs2, z0]
theorem implNew_any (w : World) : Calls Try.prog 23 #[] w (NewMPost w mux0) := by
  have hz := zero_mux
  have hmk := made_three
  go_enter Try.func23, Try.ntmps23
  go_wp2
  have hos := os_three (w.alloc (.cells #[.slice (some ⟨w.heap.size + 1, 0, none⟩) 3 3] 35)) w.heap.size (by simp)
  rw [World.size_alloc] at hos
  exact mux_ret rfl ((BK.new w _ _).alloc _) rfl rfl ⟨⟨_, rfl, hos⟩, ((Below.refl _ w).alloc (Nat.le_refl _) _).alloc (by simp) _⟩
theorem specNew_any (w : World) : Calls Try.prog 24 #[] w (NewMPost w mux0) := by
  have hz := zero_mux
  have hmk := made_three
  go_enter Try.func24, Try.ntmps24
  go_wp2
  have hos := os_three (w.alloc (.cells #[.slice (some ⟨w.heap.size + 1, 0, none⟩) 3 3] 35)) w.heap.size (by simp)
  rw [World.size_alloc] at hos
  exact mux_ret rfl ((BK.new w _ _).alloc _) rfl rfl ⟨⟨_, rfl, hos⟩, ((Below.refl _ w).alloc (Nat.le_refl _) _).alloc (by simp) _⟩
theorem tooLong_any (s : ByteArray) (w : World) :
    Calls Try.prog 53 #[.string s] w fun e w' => e = .returned (.bool (decide (600 < s.size))) ∧ w = w' := by
  go_enter Try.func53, Try.ntmps53
  go_wp2
  go_ret
  exact ⟨by simp; omega, rfl⟩
def shortB (ss : List ByteArray) : Bool := ss.all fun s => decide (s.size ≤ 600)
def IdxPost (w : World) (ss : List ByteArray) (e : Ending) (w' : World) : Prop := ∃ x : Int, e = .returned (.int .i64 x) ∧ decide (0 ≤ x) = !shortB ss ∧ w = w'
set_option maxRecDepth 100000 in
theorem idxFunc_any (v : Value) (ss : List ByteArray) (w : World) (B : Nat) (h : RS w B v ss) (hl : ss.length ≤ 1048576) :
    Calls Try.prog 65 #[v, .func (.func 53) #[] #[]] w (IdxPost w ss) := by
  obtain ⟨a, cap, rfl⟩ := h.shape
  have H := Lib.hid h
  clear h
  go_enter Try.func65, Try.ntmps65
  go_wp2
  go_loopw [8] (fun j wr => ∃ k : Nat, k ≤ ss.length ∧ j = .int .i64 k ∧ shortB (ss.take k) = true ∧ w = wr) (fun j _ => ss.length - (intOf j).toNat)
  case atStart => exact ⟨0, Nat.zero_le _, rfl, rfl, rfl⟩
  case round =>
    obtain ⟨k, hk, rfl, hsh, rfl⟩ := hrel
    have HSH := Lib.hid hsh
    clear hsh
    by_cases hlt : k < ss.length
    · obtain ⟨x, rfl, hxB, c0⟩ := H.out.at_ hlt
      have HS := Lib.hid (show ss.take (k + 1) = ss.take k ++ [ss[k]] from List.take_succ_eq_append_getElem hlt)
      have HM := Lib.hid (List.getElem_mem hlt)
      generalize ss[k] = t at *
      go_wp2_with fail
      refine (tooLong_any t _).mono ?_
      rintro e w2 ⟨rfl, rfl⟩
      by_cases hlong : 600 < t.size
      · have HSF := Lib.hid (show shortB ss = false by
          unfold shortB
          rw [List.all_eq_false]
          exact ⟨t, HM.out, by simp; omega⟩)
        rw [decide_eq_true hlong]
        go_wp2
        go_ret
        exact ⟨(k : Int), rfl, by rw [HSF.out]; simp, rfl⟩
      · have HSN := Lib.hid (show shortB (ss.take (k + 1)) = true by
          have h1 := HSH.out
          unfold shortB at h1 ⊢
          rw [HS.out, List.all_append, h1]
          simp; omega)
        rw [decide_eq_false hlong]
        go_wp2
        go_roundw
        case rel => exact ⟨k + 1, by omega, by go_num, HSN.out, trivial⟩
        case measure => simp [intOf]; omega
    · have HE := Lib.hid (show shortB ss = true by
        have h1 := HSH.out
        rw [List.take_of_length_le (by omega)] at h1
        exact h1)
      go_wp2
      go_ret
      exact ⟨-1, rfl, by rw [HE.out]; rfl, rfl⟩
theorem contains_any (v : Value) (ss : List ByteArray) (w : World) (B : Nat) (h : RS w B v ss) (hl : ss.length ≤ 1048576) :
    Calls Try.prog 54 #[v, .func (.func 53) #[] #[]] w fun e w' => e = .returned (.bool (!shortB ss)) ∧ w = w' := by
  obtain ⟨a, cap, rfl⟩ := h.shape
  have H := Lib.hid h
  clear h
  go_enter Try.func54, Try.ntmps54
  go_wp2_with fail
  refine (idxFunc_any _ ss _ B H.out hl).mono ?_
  rintro e w2 ⟨x, rfl, hx, rfl⟩
  have HX := Lib.hid hx
  clear hx
  go_wp2
  go_ret
  exact ⟨by rw [← HX.out]; rfl, rfl⟩
def muxSB (ss : List ByteArray) : Bool := decide (ss.length = 3) && shortB ss
theorem muxSB_txts (ss : List ByteArray) : muxOkB (txts ss) = muxSB ss := by
  unfold muxOkB muxSB shortB txts
  rw [List.length_map, List.all_map]
  rfl
theorem implMuxOk_any (v : Value) (ss : List ByteArray) (w : World) (B : Nat) (h : RS w B v ss) (hB : B ≤ w.heap.size) (hl : ss.length ≤ 1048576) :
    Calls Try.prog 19 #[.agg #[v]] w fun e w' => e = .returned (.bool (muxSB ss)) ∧ Below w.heap.size w w' := by
  obtain ⟨a, cap, rfl⟩ := h.shape
  have hbk := BK.new w #[.slice a ss.length cap] 35
  have c0 := hbk.cell (i := 0) rfl
  have HB := Lib.hid ((Below.refl _ w).alloc (Nat.le_refl _) (.cells #[.slice a ss.length cap] 35))
  have H := Lib.hid (h.below (HB.out.mono hB))
  clear h hbk
  by_cases h3 : ss.length = 3
  · have HV := Lib.hid (show muxSB ss = shortB ss by unfold muxSB; rw [decide_eq_true h3]; rfl)
    have h3i : ((ss.length : Int) == 3) = true := beq_iff_eq.2 (by omega)
    clear h3
    go_enter Try.func19, Try.ntmps19
    go_wp2_with fail
    refine (contains_any _ ss _ B H.out (by omega)).mono ?_
    rintro e w2 ⟨rfl, rfl⟩
    go_wp2
    go_ret
    exact ⟨by rw [HV.out]; simp, HB.out⟩
  · have HV := Lib.hid (show muxSB ss = false by unfold muxSB; rw [decide_eq_false h3]; rfl)
    have h3i : ((ss.length : Int) == 3) = false := beq_eq_false_iff_ne.2 (by omega)
    go_enter Try.func19, Try.ntmps19
    go_wp2
    go_ret
    exact ⟨by rw [HV.out]; rfl, HB.out⟩
theorem RS.cells3 {w : World} {B : Nat} {a : Option Addr} {cap : Nat} {x y z : ByteArray} (h : RS w B (.slice a 3 cap) [x, y, z]) : ∃ q : Addr, a = some q ∧ w.cell? q = some (.string x) ∧ w.cell? ⟨q.block, q.off + 1, none⟩ = some (.string y) ∧ w.cell? ⟨q.block, q.off + 2, none⟩ = some (.string z) := by
  obtain ⟨q, e, _, c0⟩ := RS.at_ (ss := [x, y, z]) h (k := 0) (by simp)
  obtain ⟨q1, e1, _, c1⟩ := RS.at_ (ss := [x, y, z]) h (k := 1) (by simp)
  obtain ⟨q2, e2, _, c2⟩ := RS.at_ (ss := [x, y, z]) h (k := 2) (by simp)
  rw [e] at e1 e2
  cases e1
  cases e2
  have e0 : q.add 0 = q := by cases q; unfold Addr.add; split <;> simp_all
  rw [e0] at c0
  have hs : q.spot = none := World.cell?_spot c0
  have e1 : q.add 1 = ⟨q.block, q.off + 1, none⟩ := by cases q; unfold Addr.add; split <;> simp_all
  have e2 : q.add 2 = ⟨q.block, q.off + 2, none⟩ := by cases q; unfold Addr.add; split <;> simp_all
  rw [e1] at c1
  rw [e2] at c2
  exact ⟨q, e, c0, c1, c2⟩
theorem l11Ok_any (v : Value) (ss : List ByteArray) (w : World) (B : Nat) (h : RS w B v ss) (hB : B ≤ w.heap.size) (hl : ss.length ≤ 1048576) :
    Calls Try.prog 52 #[.agg #[v]] w fun e w' => e = .returned (.bool (muxSB ss)) ∧ Below w.heap.size w w' := by
  obtain ⟨a, cap, hv⟩ := h.shape
  by_cases h3 : ss.length = 3
  · match ss, h3 with
    | [x, y, z], _ =>
      have hv2 : v = .slice a 3 cap := hv
      subst hv2
      have HB := Lib.hid ((Below.refl _ w).alloc (Nat.le_refl _) (.cells #[.slice a 3 cap] 35))
      have hbk := BK.new w #[.slice a 3 cap] 35
      have c0 := hbk.cell (i := 0) rfl
      obtain ⟨q, rfl, cx, cy, cz⟩ := RS.cells3 (h.below (HB.out.mono hB))
      have hd : muxSB [x, y, z] = (decide (x.size ≤ 600) && (decide (y.size ≤ 600) && decide (z.size ≤ 600))) := by simp [muxSB, shortB]
      have HD := Lib.hid hd
      clear h hbk hv hl hd
      by_cases hx : x.size ≤ 600
      case neg =>
        have HV := Lib.hid (HD.out.trans (show _ = false by rw [decide_eq_false hx]; rfl))
        go_enter Try.func52, Try.ntmps52
        go_wp2
        go_ret
        exact ⟨by rw [HV.out]; rfl, HB.out⟩
      by_cases hy : y.size ≤ 600
      case neg =>
        have HV := Lib.hid (HD.out.trans (show _ = false by rw [decide_eq_false hy]; simp))
        go_enter Try.func52, Try.ntmps52
        go_wp2
        go_ret
        exact ⟨by rw [HV.out]; rfl, HB.out⟩
      by_cases hz : z.size ≤ 600
      case neg =>
        have HV := Lib.hid (HD.out.trans (show _ = false by rw [decide_eq_false hz]; simp))
        go_enter Try.func52, Try.ntmps52
        go_wp2
        go_ret
        exact ⟨by rw [HV.out]; simp; omega, HB.out⟩
      have HV := Lib.hid (HD.out.trans (show _ = true by rw [decide_eq_true hx, decide_eq_true hy, decide_eq_true hz]; rfl))
      go_enter Try.func52, Try.ntmps52
      go_wp2
      go_ret
      exact ⟨by rw [HV.out]; simp; omega, HB.out⟩
  · subst hv
    have hbk := BK.new w #[.slice a ss.length cap] 35
    have c0 := hbk.cell (i := 0) rfl
    have HB := Lib.hid ((Below.refl _ w).alloc (Nat.le_refl _) (.cells #[.slice a ss.length cap] 35))
    have HV := Lib.hid (show muxSB ss = false by unfold muxSB; rw [decide_eq_false h3]; rfl)
    have h3i : ((ss.length : Int) == 3) = false := beq_eq_false_iff_ne.2 (by omega)
    clear h hbk
    go_enter Try.func52, Try.ntmps52
    go_wp2
    go_ret
    exact ⟨by rw [HV.out]; rfl, HB.out⟩
theorem specMuxOk_any (v : Value) (ss : List ByteArray) (w : World) (B : Nat) (h : RS w B v ss) (hB : B ≤ w.heap.size) (hl : ss.length ≤ 1048576) :
    Calls Try.prog 20 #[.agg #[v]] w fun e w' => e = .returned (.bool (muxSB ss)) ∧ Below w.heap.size w w' := by
  obtain ⟨a, cap, rfl⟩ := h.shape
  have hbk := BK.new w #[.slice a ss.length cap] 35
  have c0 := hbk.cell (i := 0) rfl
  have HB := Lib.hid ((Below.refl _ w).alloc (Nat.le_refl _) (.cells #[.slice a ss.length cap] 35))
  have H := Lib.hid (h.below (HB.out.mono hB))
  clear h hbk
  go_enter Try.func20, Try.ntmps20
  go_wp2_with fail
  refine (l11Ok_any _ ss _ B H.out (Nat.le_trans hB HB.out.size) hl).mono ?_
  rintro e w2 ⟨rfl, hb⟩
  have HB2 := Lib.hid (HB.out.trans (hb.mono HB.out.size))
  clear hb
  go_wp2
  go_ret
  exact ⟨rfl, HB2.out⟩
end Go.Proofs.Ytplaagkcamjemaa
