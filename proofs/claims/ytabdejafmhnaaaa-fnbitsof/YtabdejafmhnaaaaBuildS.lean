/- A strings.Builder's text read. -/
import Derived.Test.YtabdejafmhnaaaaBuild
import Derived.RegionTactic
namespace Go.Proofs.Ytabdejafmhnaaaa
open Go.ChangeShapes Go.WideShapes Go.ChangeAt Go.RowKit
theorem cellsOf_u8 : Try.prog.cellsOf 5 = 1 := by kernel_rfl

set_option maxRecDepth 100000 in
set_option maxHeartbeats 1000000 in
theorem string_any (B b : Nat) (l : List UInt8) (w : World) (h : BU w B b l) (hl : l.length ≤ 140737488355328) :
    Calls Try.prog 45 #[.pointer (some ⟨b, 0, none⟩)] w fun e w' => e = .returned (.string ⟨l.toArray⟩) ∧ Below B w w' := by
  obtain ⟨hB, p, v, hb, hp, hrb⟩ := h
  have c1 : w.cell? ⟨b, 1, none⟩ = some v := by rw [cell_of_row w b 1 _ _ _ hb]; rfl
  cases l with
  | nil =>
    have hv := hrb.2 rfl
    subst hv
    have h1 : ∀ (ts : Array TypeId) (ty : TypeId) (u : World), (Builtin.unsafeSliceData_ ts ty #[.slice none 0 0]).run Try.prog u = .ok (.pointer none) u := fun ts ty u => Lib.run_unsafeSliceData_nil (P := Try.prog) u ts ty 0 0
    have h2 : ∀ (ty : TypeId) (u : World), (Builtin.unsafeString_ #[52, 3] ty #[.pointer none, .int .i64 0]).run Try.prog u = .ok (.string .empty) u := fun ty u => Lib.run_unsafeString_none (P := Try.prog) u _ _ ty none
    clear hb hrb hp
    go_enter Try.func45, Try.ntmps45
    go_wp2
    go_region
    all_goals go_wp2
    all_goals go_ret
    all_goals exact ⟨rfl, (Below.refl _ _).drew⟩
  | cons x l =>
    obtain ⟨g, cap, rfl, hcap, hcapm, hbg, hgl⟩ := hrb.ob.pos (by simp)
    have hcap0 : cap ≠ 0 := by simp at hcap; omega
    obtain ⟨cur, hcur, hcs⟩ : ∃ cur, w.heap[g]? = some (.cells cur 5 (0, 0)) ∧ (x :: l).length ≤ cur.size := by
      obtain ⟨⟨_, h2⟩, _⟩ := hrb
      rcases h2 with ⟨h, _⟩ | ⟨g', cap', cur, h, _, hgg, hnc, _, hcs, _⟩
      · simp at h
      · have : g = g' := by injection h with h; injection h with h; injection h
        subst this
        exact ⟨cur, hgg, by omega⟩
    have h1 : ∀ (ts : Array TypeId) (ty : TypeId) (u : World), (Builtin.unsafeSliceData_ ts ty #[.slice (some ⟨g, 0, none⟩) (x :: l).length cap]).run Try.prog u = .ok (.pointer (some ⟨g, 0, none⟩)) u := fun ts ty u => Lib.run_unsafeSliceData_row (P := Try.prog) u ts ty ⟨g, 0, none⟩ _ cap hcap0
    have h2 : ∀ (ty : TypeId), (Builtin.unsafeString_ #[52, 3] ty #[.pointer (some ⟨g, 0, none⟩), .int .i64 ((x :: l).length : Int)]).run Try.prog w.drew = .ok (.string ⟨(x :: l).toArray⟩) (w.drew.freeze ⟨g, 0, none⟩ (x :: l).length) := fun ty =>
      Lib.run_unsafeString_row (P := Try.prog) w.drew 52 3 ty 5 Try.underlying52 cellsOf_u8 g cur.size (by simp [World.shape?, World.drew, -World.drew_eq, hcur]) (x :: l) (by simp) hcs (by omega)
        (fun j y hy => by
          have hc := hrb.ob.cells (g := g) rfl j (byteV y) (by rw [List.getElem?_map, hy]; rfl)
          exact hc)
    obtain ⟨L, hL⟩ : ∃ L, (x :: l) = L := ⟨_, rfl⟩
    rw [hL] at h1 h2 c1 hl ⊢
    obtain ⟨n, hn⟩ : ∃ n, L.length = n := ⟨_, rfl⟩
    rw [hn] at h1 h2 c1
    clear hb hrb hp hcur hcs hL hn
    go_enter Try.func45, Try.ntmps45
    go_wp2
    go_region
    all_goals go_wp2
    all_goals go_ret
    all_goals exact ⟨rfl, Lib.below_freeze ((Below.refl _ _).drew) (by simpa using hbg) _⟩
end Go.Proofs.Ytabdejafmhnaaaa
