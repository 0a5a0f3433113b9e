/- Bytes taken one by one, in the program. -/
import Derived.Test.YtfojlpnnhghcbaaFindO
namespace Go.Proofs.Ytfojlpnnhghcbaa
open Go.ChangeShapes Go.WideShapes Go.ChangeAt Go.RowKit
theorem row_apart {w : World} {b b' : Nat} {v v' : Value} {l : List UInt8} {l' : List Ev} (h : OB 5 w b v l) (h' : OE w b' v' l') : (v'.ownBlock = none ∨ v'.ownBlock ≠ v.ownBlock) ∧ (v.ownBlock = none ∨ v.ownBlock ≠ v'.ownBlock) := by
  rcases h with ⟨rfl, _⟩ | ⟨g, cap, cur, fz, rfl, _, hg, _⟩
  · refine ⟨?_, .inl rfl⟩
    cases hv : v'.ownBlock with
    | none => exact .inl rfl
    | some k => exact .inr (by simp [Value.ownBlock])
  · rcases h'.2 with ⟨rfl, _⟩ | ⟨g', cap', cur', rfl, _, hg', _⟩
    · exact ⟨.inl rfl, .inr (by simp [Value.ownBlock])⟩
    · have hne : g ≠ g' := by
        rintro rfl
        rw [hg] at hg'
        injection hg' with e
        injection e with _ e2 _
        exact absurd e2 (by decide)
      exact ⟨.inr (by simp [Value.ownBlock]; exact fun e => hne e.symm), .inr (by simp [Value.ownBlock]; exact hne)⟩
def RepPost (w : World) (base : Nat) (v : Value) (l : List Ev) (e : Ending) (w' : World) : Prop := ∃ v', e = .returned v' ∧ OE w' base v' l ∧ w.grownBy w' v.ownBlock
theorem grown_alloc' (w : World) (o : Obj) (row : Option Nat) : w.grownBy (w.alloc o) row := World.grownBy_alloc w _ _
theorem OE.alloc' {w : World} {base : Nat} {v : Value} {l : List Ev} (h : OE w base v l) (o : Obj) : OE (w.alloc o) base v l := h.below ((Below.refl _ _).alloc (Nat.le_refl _) _)
set_option maxRecDepth 100000 in
set_option maxHeartbeats 1000000 in
theorem report_any (v : Value) (l : List Ev) (ev : Ev) (w : World) (base : Nat) (ho : OE w base v l) (hl : l.length ≤ 1000000) (hb : base ≤ w.heap.size) :
    Calls Try.prog 54 #[v, evW ev] w (RepPost w base v (l ++ if ev.kind = 0 then [] else [ev])) := by
  have HO := Lib.hid ho
  clear ho
  by_cases hk : ev.kind = 0
  · have hkb : (ev.kind == 0) = true := by rw [beq_iff_eq]; exact hk
    rw [if_pos hk, List.append_nil]
    clear hk
    go_enter Try.func54, Try.ntmps54
    go_wp2
    go_ret
    exact ⟨_, rfl, HO.out.alloc' _, grown_alloc' _ _ _⟩
  · have hkb : (ev.kind == 0) = false := beq_eq_false_iff_ne.2 hk
    rw [if_neg hk]
    clear hk
    obtain ⟨i0, hi, hz0, hz1, hz2⟩ := info_parts info_ev
    have HI := Lib.hid hi
    have HZ0 := Lib.hid hz0
    have HZ1 := Lib.hid hz1
    have HZ2 := Lib.hid hz2
    clear hi hz0 hz1 hz2
    go_enter Try.func54, Try.ntmps54
    have hre := RE_new (w.alloc (.cells #[.int .i64 ev.kind, .string ⟨ev.text.toArray⟩] 47)) ev
    rw [World.size_alloc] at hre
    have HRE := Lib.hid hre
    clear hre
    go_wp2_with (at_builtin; refine wpList_append_ev _ rfl _ _ 31 rfl base i0 Try.underlying31 HI.out HZ0.out HZ1.out HZ2.out _ l rfl ((HO.out.alloc' _).alloc' _) _ _ _ [ev] rfl HRE.out (by simp; omega) (by simp; omega) ?_; intro v5 w5 ho5 hg5 hat5)
    go_ret
    exact ⟨_, rfl, ho5, grown_trans (grown_trans (grown_alloc' _ _ _) (grown_alloc' _ _ _)) hg5⟩
end Go.Proofs.Ytfojlpnnhghcbaa
