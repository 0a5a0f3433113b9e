/- The bits of bytes, in the program. -/
import Derived.Test.YtabdejafmhnaaaaOfA
import Derived.RegionTactic
import Derived.RangeFuncBox
import Derived.RangeFuncWrites
namespace Go.Proofs.Ytabdejafmhnaaaa
open Go.ChangeShapes Go.WideShapes Go.ChangeAt Go.RowKit Go.Shelf
theorem NB.freeze {b : Nat} {a w : World} (h : NB b a w) {g : Nat} (hg : ∃ c fz, w.heap[g]? = some (.cells c 5 fz)) (n : Nat) : NB b a (w.freeze ⟨g, 0, none⟩ n) := by
  refine h.trans ?_
  obtain ⟨c, fz, hg⟩ := hg
  unfold World.freeze
  split
  · exact NB.refl _ _
  · refine ⟨by simp, fun i _ _ hi => ?_⟩
    simp only [Array.getElem?_modify]
    rw [if_neg (fun e => hi c fz (by subst e; exact hg))]
set_option maxRecDepth 100000 in
set_option maxHeartbeats 1000000 in
theorem string_kept (B b : Nat) (l : List UInt8) (w : World) (h : BU w B b l) (hl : l.length ≤ 140737488355328) :
    Calls Try.prog 45 #[.pointer (some ⟨b, 0, none⟩)] w fun e w' => e = .returned (.string ⟨l.toArray⟩) ∧ Below B w w' ∧ NB b w w' := by
  obtain ⟨hB, p, v, hb, hp, hrb⟩ := h
  have c1 : w.cell? ⟨b, 1, none⟩ = some v := by rw [cell_of_row w b 1 _ _ _ hb]; rfl
  cases l with
  | nil =>
    have hv := hrb.2 rfl
    subst hv
    have h1 : ∀ (ts : Array TypeId) (ty : TypeId) (u : World), (Builtin.unsafeSliceData_ ts ty #[.slice none 0 0]).run Try.prog u = .ok (.pointer none) u := fun ts ty u => Lib.run_unsafeSliceData_nil (P := Try.prog) u ts ty 0 0
    have h2 : ∀ (ty : TypeId) (u : World), (Builtin.unsafeString_ #[52, 3] ty #[.pointer none, .int .i64 0]).run Try.prog u = .ok (.string .empty) u := fun ty u => Lib.run_unsafeString_none (P := Try.prog) u _ _ ty none
    clear hb hrb hp
    go_enter Try.func45, Try.ntmps45
    go_wp2
    go_region
    all_goals go_wp2
    all_goals go_ret
    all_goals exact ⟨rfl, (Below.refl _ _).drew, (NB.refl _ _).drew⟩
  | cons x l =>
    obtain ⟨g, cap, rfl, hcap, hcapm, hbg, hgl⟩ := hrb.ob.pos (by simp)
    have hcap0 : cap ≠ 0 := by simp at hcap; omega
    obtain ⟨cur, hcur, hcs⟩ : ∃ cur, w.heap[g]? = some (.cells cur 5 (0, 0)) ∧ (x :: l).length ≤ cur.size := by
      obtain ⟨⟨_, h2⟩, _⟩ := hrb
      rcases h2 with ⟨h, _⟩ | ⟨g', cap', cur, h, _, hgg, hnc, _, hcs, _⟩
      · simp at h
      · have : g = g' := by injection h with h; injection h with h; injection h
        subst this
        exact ⟨cur, hgg, by omega⟩
    have h1 : ∀ (ts : Array TypeId) (ty : TypeId) (u : World), (Builtin.unsafeSliceData_ ts ty #[.slice (some ⟨g, 0, none⟩) (x :: l).length cap]).run Try.prog u = .ok (.pointer (some ⟨g, 0, none⟩)) u := fun ts ty u => Lib.run_unsafeSliceData_row (P := Try.prog) u ts ty ⟨g, 0, none⟩ _ cap hcap0
    have h2 : ∀ (ty : TypeId), (Builtin.unsafeString_ #[52, 3] ty #[.pointer (some ⟨g, 0, none⟩), .int .i64 ((x :: l).length : Int)]).run Try.prog w.drew = .ok (.string ⟨(x :: l).toArray⟩) (w.drew.freeze ⟨g, 0, none⟩ (x :: l).length) := fun ty =>
      Lib.run_unsafeString_row (P := Try.prog) w.drew 52 3 ty 5 Try.underlying52 cellsOf_u8 g cur.size (by simp [World.shape?, World.drew, -World.drew_eq, hcur]) (x :: l) (by simp) hcs (by omega)
        (fun j y hy => by
          have hc := hrb.ob.cells (g := g) rfl j (byteV y) (by rw [List.getElem?_map, hy]; rfl)
          exact hc)
    obtain ⟨L, hL⟩ : ∃ L, (x :: l) = L := ⟨_, rfl⟩
    rw [hL] at h1 h2 c1 hl ⊢
    obtain ⟨n, hn⟩ : ∃ n, L.length = n := ⟨_, rfl⟩
    rw [hn] at h1 h2 c1
    have HCur := Lib.hid (show ∃ c fz, w.drew.heap[g]? = some (.cells c 5 fz) from ⟨_, _, hcur⟩)
    clear hb hrb hp hcur hcs hL hn
    go_enter Try.func45, Try.ntmps45
    go_wp2
    go_region
    all_goals go_wp2
    all_goals go_ret
    all_goals exact ⟨rfl, Lib.below_freeze ((Below.refl _ _).drew) (by simpa using hbg) _, ((NB.refl _ _).drew).freeze HCur.out _⟩

theorem NB.others {b : Nat} {w w' : World} {cs : Array Value} {t : TypeId} {fz : Nat × Nat} (h : NB b w w') (hb : w.heap[b]? = some (.cells cs t fz)) : KeepsOthers w w' :=
  ⟨h.1, fun k o hk ho => by
    rw [h.2 k (Array.getElem?_eq_some_iff.1 hk).1 (fun e => by subst e; rw [hb] at hk; cases hk; simp [Obj.isCells] at ho) (fun cs fz he => by rw [hk] at he; cases he; simp [Obj.isCells] at ho)]
    exact hk⟩
theorem BU.others {w w' : World} {B b : Nat} {l : List UInt8} (h : BU w B b l) (hn : NB b w w') : KeepsOthers w w' := by
  obtain ⟨_, p, v, hb, _⟩ := h
  exact hn.others hb
theorem BU.turned {w w' : World} {B b : Nat} {l : List UInt8} {row : Option Nat} (h : BU w B b l) (hg : w.grownBy w' row) (hr : ∀ r, row = some r → ∃ o : Obj, w.heap[r]? = some o ∧ o.isCells = false) : BU w' B b l := by
  obtain ⟨hB, p, v, hb, hp, hrb⟩ := h
  have ne : ∀ k cs t fz, w.heap[k]? = some (.cells cs t fz) → some k ≠ row := fun k cs t fz hk e => by
    obtain ⟨o, ho, hc⟩ := hr k e.symm
    rw [hk] at ho; cases ho; simp [Obj.isCells] at hc
  refine ⟨hB, p, v, ?_, hp, hrb.1.kept hg ?_, hrb.2⟩
  · rw [hg.block b (Array.getElem?_eq_some_iff.1 hb).1 (ne b _ _ _ hb)]; exact hb
  · rcases hrb.1.2 with ⟨rfl, _⟩ | ⟨g, cap, cur, rfl, _, hgb, _⟩
    · exact .inl rfl
    · exact .inr (ne g _ _ _ hgb)
theorem box_turned {w w' : World} {x : Nat} {v : Value} {row : Option Nat} (h : w.heap[x]? = some (.cells #[v] 9 (0, 0))) (hg : w.grownBy w' row) (hr : ∀ r, row = some r → ∃ o : Obj, w.heap[r]? = some o ∧ o.isCells = false) : w'.heap[x]? = some (.cells #[v] 9 (0, 0)) := by
  rw [hg.block x (Array.getElem?_eq_some_iff.1 h).1 (fun e => by
    obtain ⟨o, ho, hc⟩ := hr x e.symm
    rw [h] at ho; cases ho; simp [Obj.isCells] at hc)]
  exact h
theorem sbox_kept {b x : Nat} {w w' : World} {v : Value} (h : NB b w w') (hx : w.heap[x]? = some (.cells #[v] 9 (0, 0))) (hne : x ≠ b) : w'.heap[x]? = some (.cells #[v] 9 (0, 0)) := by
  rw [h.2 x (Array.getElem?_eq_some_iff.1 hx).1 hne (fun cs fz he => by
    rw [hx] at he
    injection he with he
    injection he with _ ht
    exact absurd ht (by decide))]
  exact hx
theorem bitsIn_any (s : ByteArray) (w : World) :
    Calls Try.prog 43 #[.string s] w fun e w' => e = .returned (.func (.func 59) #[] #[.pointer (some ⟨w.heap.size, 0, none⟩)]) ∧ w' = w.alloc (.cells #[.string s] 9) := by
  have hmf : ∀ (fn : Fn) (first cap : Array Value) (w : World), (Instr.makeFunc fn first cap).run Try.prog w = .ok (.func fn first cap) w := fun _ _ _ _ => rfl
  go_enter Try.func43, Try.ntmps43
  go_wp2
  go_ret
  exact ⟨rfl, rfl⟩
end Go.Proofs.Ytabdejafmhnaaaa
