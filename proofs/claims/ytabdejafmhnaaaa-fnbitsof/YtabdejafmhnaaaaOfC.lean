/- BitsOf of the program. -/
import Derived.Test.YtabdejafmhnaaaaOfB
namespace Go.Proofs.Ytabdejafmhnaaaa
open Go.ChangeShapes Go.WideShapes Go.ChangeAt Go.RowKit Go.Shelf
attribute [local go_sem] Oper.semAt_some
theorem builder_zero (w : World) : (zeroValue 36).run Try.prog w = .ok (.agg #[.pointer none, .slice none 0 0]) w := by kernel_rfl
def ofA (l : List UInt8) : List UInt8 := if l.length ≤ 150 then ofL l else []
set_option maxRecDepth 100000 in
set_option maxHeartbeats 4000000 in
theorem implOf_any (s : ByteArray) (w : World) (hs : s.size ≤ 100000000) :
    Calls Try.prog 19 #[.string s] w fun e w' => e = .returned (.string ⟨(ofA s.data.toList).toArray⟩) ∧ Below w.heap.size w w' := by
  have HSL := Lib.hid (size_list s)
  have hz := builder_zero
  refine (callsIn_wide (n := 3)).1 ?_
  refine callsIn_of_wp_marks Try.func19 rfl trivial ?_ rfl
  simp only [Try.ntmps19, List.size_toArray, List.length_cons, List.length_nil, Nat.reduceAdd, Nat.reduceSub, Array.replicate_succ, Array.replicate_zero, List.push_toArray, List.append_toArray, List.nil_append, List.cons_append]
  by_cases hbig : 150 < s.size
  · have HA := Lib.hid (show ofA s.data.toList = [] by unfold ofA; rw [if_neg (by rw [HSL.out]; omega)])
    gi_wp2
    exact ⟨_, results_tmp rfl _ _ _, by rw [HA.out]; rfl, Below.refl _ _⟩
  · have HA := Lib.hid (show ofA s.data.toList = ofL s.data.toList by unfold ofA; rw [if_pos (by rw [HSL.out]; omega)])
    gi_wp2_with (refine ⟨trivial, ?_⟩; gi_at_call 43; refine (callsIn_wide.2 (bitsIn_any s _)).mono ?_; rintro e w' ⟨rfl, rfl⟩)
    clear hz
    have hsz : s.size ≤ 150 := by omega
    have hbox0 : ((w.alloc (.cells #[.pointer none, .slice none 0 0] 36)).alloc (.cells #[.string s] 9)).heap[w.heap.size + 1]? = some (.cells #[.string s] 9 (0, 0)) := by
      have h := heap_alloc_new (w.alloc (.cells #[.pointer none, .slice none 0 0] 36)) (.cells #[.string s] 9)
      rw [World.size_alloc] at h
      exact h
    have hbu0 : BU ((w.alloc (.cells #[.pointer none, .slice none 0 0] 36)).alloc (.cells #[.string s] 9)) w.heap.size w.heap.size [] := by
      obtain ⟨h1, p, v, hb, hp, hrb⟩ := BU.fresh w
      exact ⟨h1, p, v, (Below.heap_alloc _ _ _ (BU.fresh w).lt).trans hb, hp, hrb.alloc _⟩
    have hbe0 : Below w.heap.size w ((w.alloc (.cells #[.pointer none, .slice none 0 0] 36)).alloc (.cells #[.string s] 9)) := ((Below.refl _ w).alloc (Nat.le_refl _) _).alloc (by simp) _
    have hws : ((w.alloc (.cells #[.pointer none, .slice none 0 0] 36)).alloc (.cells #[.string s] 9)).heap.size = w.heap.size + 2 := by simp
    generalize (w.alloc (.cells #[.pointer none, .slice none 0 0] 36)).alloc (.cells #[.string s] 9) = W0 at *
    have hcx : ∀ W : World, W.heap[w.heap.size + 1]? = some (.cells #[.string s] 9 (0, 0)) → W.cell? ⟨w.heap.size + 1, 0, none⟩ = some (.string s) := fun W h => by rw [cell_of_row W _ 0 _ _ _ h]; rfl
    refine wpIn_rangeFunc_ownF rfl (by omega) (gf := 59) (lb := #[.pointer (some ⟨w.heap.size + 1, 0, none⟩)]) rfl trivial (enters_of Try.func59 (by kernel_rfl) rfl)
      (bitsIn_stops (3 - 1) (by omega) (w.heap.size + 1) s hsz W0 (hcx W0 hbox0) (by omega)) (fun h k e => k (h e)) (fun W l o o' hl ho hc _ e => cell_kept e (grownBy_putObj' W l o') (fun r er => by cases er; exact ⟨o, ho, hc⟩)) (Below.refl _ _) (fun _ => rfl)
      (fun pre W => (BU W w.heap.size w.heap.size pre ∧ W.heap[w.heap.size + 1]? = some (.cells #[.string s] 9 (0, 0))) ∧ Below w.heap.size w W)
      (fun _ _ _ => False)
      (OwnFrom.and (fun pre A B row hs hg hr => ⟨hs.1.turned hg (fun r e => (hr r e).2), box_turned hs.2 hg (fun r e => (hr r e).2)⟩) (ownFrom_below (Nat.le_refl _) (by omega)))
      (fun _ _ _ _ _ hs _ _ => hs)
      ⟨⟨hbu0, hbox0⟩, hbe0⟩
      (fun x => { tmps := #[.string s, undef, .string ⟨#[]⟩, .pointer (some ⟨w.heap.size, 0, none⟩), .int .u8 x.toNat, .string s, .int .i64 s.size, .bool (decide ((150 : Int) < s.size)), .string s, .func (.func 59) #[] #[.pointer (some ⟨w.heap.size + 1, 0, none⟩)], .int .u8 x.toNat, undef, undef, undef], defers := [] }) ?assign ?body ?done ?stop
    case assign =>
      intro l x W K hK
      gi_wp2
      exact hK
    case body =>
      rintro l pre x W ⟨⟨hbu, hbox⟩, hB⟩ hlen
      have HBU := Lib.hid hbu
      have HBox := Lib.hid hbox
      have HB := Lib.hid hB
      clear hbu hbox hB hbu0 hbox0 hbe0 hcx
      gi_wp2_with (refine ⟨trivial, ?_⟩; gi_at_call 44; refine (CallsIn.inRound l (callsIn_wide.2 (writeByte_any _ _ pre x W HBU.out (by omega) HB.out.size))).mono ?_; rintro e w' ⟨rfl, hbu2, hbel2, hnb2⟩)
      have hbox2 := sbox_kept hnb2 HBox.out (by omega)
      exact ⟨HBU.out.others hnb2, (fun _ => by rw [cell_of_row _ _ 0 _ _ _ hbox2]; rfl), ⟨hbu2, hbox2⟩, HB.out.trans hbel2⟩
    case done =>
      rintro D ys W hD rfl ⟨⟨hbu, hbox⟩, hB⟩ hK
      have HBU := Lib.hid hbu
      have HB := Lib.hid hB
      have HK := Lib.hid hK
      have HLen := Lib.hid (show (ofL s.data.toList).length ≤ 140737488355328 by rw [ofL, uptoL_len, HSL.out]; omega)
      clear hbu hbox hB hbu0 hbox0 hbe0 hcx hK
      gi_wp2_with (refine ⟨trivial, ?_⟩; gi_at_call 45; refine (callsIn_wide.2 (string_kept _ _ _ W HBU.out HLen.out)).mono ?_; rintro e w' ⟨rfl, hbel2, hnb2⟩)
      have hK2 := (HBU.out.others hnb2).same D _ HK.out rfl
      refine ⟨by simp, .inl ⟨_, _, rfl, run_takeDeferred hK2, ?_⟩⟩
      refine ⟨_, results_tmp rfl _ _ _, by rw [HA.out]; rfl, (HB.out.trans hbel2).trans (belowK_b (w := w) (Nat.le_refl _) _ D _ _ (by omega) hK2 rfl rfl)⟩
    case stop =>
      rintro D c pre W _ _ h _
      exact h.elim
end Go.Proofs.Ytabdejafmhnaaaa
