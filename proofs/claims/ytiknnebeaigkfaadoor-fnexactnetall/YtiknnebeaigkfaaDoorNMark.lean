/- Slices of strings in the laws: marked, still as marked; copied by the program. -/
import Derived.Test.YtiknnebeaigkfaaDoorOs
import Derived.Test.YtiknnebeaigkfaaDoorMark
import Derived.Test.YtiknnebeaigkfaaDoorKitA
import Derived.Deep.RegionWith
import Derived.Deep.RegionHeld3
import Derived.Test.YtiknnebeaigkfaaDoorKitDraw
import Derived.Test.YtiknnebeaigkfaaDoorDrawD
namespace Go.Proofs.YtiknnebeaigkfaaDoor
open Go.ChangeShapes Go.WideShapes Go.ChangeAt Go.RowKit
theorem Ngrown_set {w w' : World} {row : Option Nat} (hg : w.grownBy w' row) {g : Nat} (hr : row = some g) (j : Nat) (u : Value) : w.grownBy (w'.setCell ⟨g, j, none⟩ u) row := by
  refine ⟨hg.os, hg.tape, hg.output, by simpa using hg.size, fun k hk hne => ?_⟩
  rw [Below.heap_setCell _ _ _ _ (by rintro rfl; exact hne hr.symm)]
  exact hg.block k hk hne
theorem Nkgrown_below {w w' w'' : World} {row : Option Nat} (hg : w.grownBy w' row) (hb : Below w'.heap.size w' w'') : w.grownBy w'' row :=
  ⟨hb.os.trans hg.os, hb.tape.trans hg.tape, hb.output.trans hg.output, Nat.le_trans hg.size hb.size, fun k hk hne => (hb.block k (Nat.lt_of_lt_of_le hk hg.size)).trans (hg.block k hk hne)⟩
theorem Nmark_call (k : Nat) (hk : k ≤ 1000000) (w : World) :
    Calls Tryd.prog 37 #[.int .i64 (1 + 2 * (k : Int) + 1)] w fun e w' => e = .returned (.string ⟨(markL (2 + 2 * k)).toArray⟩) ∧ Below w.heap.size w w' := by
  have h := markText_any (2 + 2 * k) w (by omega) (by omega)
  rw [show ((2 + 2 * k : Nat) : Int) = 1 + 2 * (k : Int) + 1 by omega] at h
  exact h
/-- the marks from k0 on -/
def NmarksS (k0 n : Nat) : List ByteArray := (List.range n).map fun i => ⟨(markL (k0 + i)).toArray⟩
theorem NmarksS_len (k0 n : Nat) : (NmarksS k0 n).length = n := by simp [NmarksS]
theorem NmarksS_at (k0 n k : Nat) (h : k < n) : (NmarksS k0 n)[k]'(by rw [NmarksS_len]; exact h) = ⟨(markL (k0 + k)).toArray⟩ := by simp [NmarksS]
def NpartK (ss : List ByteArray) (k0 k : Nat) : List ByteArray := NmarksS k0 k ++ ss.drop k
theorem NpartK_len (ss : List ByteArray) (k0 k : Nat) (h : k ≤ ss.length) : (NpartK ss k0 k).length = ss.length := by simp [NpartK, NmarksS_len]; omega
theorem NpartK_set (ss : List ByteArray) (k0 k : Nat) (h : k < ss.length) : (NpartK ss k0 k).set k ⟨(markL (k0 + k)).toArray⟩ = NpartK ss k0 (k + 1) := by
  unfold NpartK
  rw [List.set_append_right _ _ (by rw [NmarksS_len]; exact Nat.le_refl _), NmarksS_len, Nat.sub_self, List.drop_eq_getElem_cons h, List.set_cons_zero]
  have : NmarksS k0 (k + 1) = NmarksS k0 k ++ [⟨(markL (k0 + k)).toArray⟩] := by simp [NmarksS, List.range_succ]
  rw [this, List.append_assoc, List.singleton_append]
def NMarkSPost (w : World) (base : Nat) (v : Value) (k0 n : Nat) (e : Ending) (w' : World) : Prop := e = .returned (.int .i64 ((k0 + n : Nat) : Int)) ∧ OS w' base v (NmarksS k0 n) ∧ w.grownBy w' v.ownBlock
theorem OS.storedN {w : World} {base g n cap : Nat} {ss : List ByteArray} (h : OS w base (.slice (some ⟨g, 0, none⟩) n cap) ss) (k : Nat) (s : ByteArray) : OS (w.setCell ⟨g, k, none⟩ (.string s)) base (.slice (some ⟨g, 0, none⟩) n cap) (ss.set k s) := by
  have h1 := sown_stored h k (.string s)
  unfold OS
  rw [List.length_set, show (ss.set k s).map strV = (ss.map strV).set k (.string s) by rw [List.map_set]; rfl]
  exact h1
set_option maxRecDepth 100000 in
set_option maxHeartbeats 1000000 in
theorem NmarkS_any (v : Value) (ss : List ByteArray) (k0 : Nat) (w : World) (base : Nat) (h : OS w base v ss) (hk0 : 1 ≤ k0) (hl : k0 + ss.length ≤ 100000000) :
    Calls Tryd.prog 20 #[v, .int .i64 k0] w (NMarkSPost w base v k0 ss.length) := by
  obtain ⟨a, cap, hv⟩ := h.reads.shape
  have H := Lib.hid h
  have HV := Lib.hid hv
  rw [hv]
  clear h hv
  go_enter Tryd.func20, Tryd.ntmps20
  go_wp2
  go_loopw [1, 5] (fun q j wr => ∃ k : Nat, k ≤ ss.length ∧ j = .int .i64 k ∧ q = .int .i64 ((k0 + k : Nat) : Int) ∧ OS wr base v (NpartK ss k0 k) ∧ w.grownBy wr v.ownBlock) (fun _ j _ => ss.length - (intOf j).toNat)
  case atStart => exact ⟨0, Nat.zero_le _, rfl, rfl, by simpa [NpartK, NmarksS] using H.out, ⟨rfl, rfl, rfl, Nat.le_refl _, fun _ _ _ => rfl⟩⟩
  case round =>
    obtain ⟨k, hk, rfl, rfl, hoe, hg⟩ := hrel
    have HG := Lib.hid hg
    by_cases hlt : k < ss.length
    · have HPL := Lib.hid (NpartK_len ss k0 k hk)
      obtain ⟨g, cp, hvg, hg1, hg2⟩ := hoe.pos (by rw [HPL.out]; omega)
      rw [HV.out, HPL.out] at hvg
      injection hvg with hva _ hvc
      subst hva hvc
      have HPS := Lib.hid (NpartK_set ss k0 k hlt)
      rw [HV.out] at hoe
      have HOE := Lib.hid hoe
      obtain ⟨q, hq⟩ : ∃ q, q = k0 + k := ⟨_, rfl⟩
      rw [← hq] at HPS ⊢
      have HQ := Lib.hid hq
      have hq1 : 0 < q := by omega
      have hq2 : q ≤ 100000000 := by omega
      have HM := Lib.hid (fun W => markText_any q W hq1 (by omega))
      clear hoe hg hq
      go_wp2_with fail
      refine (HM.out _).mono ?_
      rintro e w3 ⟨rfl, hb3⟩
      have ho3 := HOE.out.below hb3
      have d1 := ho3.cellAt (k := k) (by rw [HPL.out]; exact hlt)
      have e1 := ho3.freeAt k
      have HO4 := Lib.hid (show OS (w3.setCell ⟨g, k, none⟩ (.string ⟨(markL q).toArray⟩)) base (.slice (some ⟨g, 0, none⟩) ss.length cap) (NpartK ss k0 (k + 1)) by rw [← HPS.out]; exact ho3.storedN k _)
      have HG4 := Lib.hid (Ngrown_set (Nkgrown_below HG.out hb3) (g := g) (by rw [HV.out]; rfl) k (.string ⟨(markL q).toArray⟩))
      generalize (NpartK ss k0 k)[k]'(by rw [HPL.out]; exact hlt) = old at *
      clear ho3 hb3
      go_wp2
      go_roundw
      case rel => exact ⟨k + 1, by omega, by go_num, val_int (by have := HQ.out; omega), by rw [HV.out]; exact HO4.out, HG4.out⟩
      case measure => simp [intOf]; omega
    · obtain rfl : k = ss.length := by omega
      have HOE := Lib.hid hoe
      clear hoe hg
      go_wp2
      go_ret
      refine ⟨rfl, ?_, ?_⟩
      · have := HOE.out
        rw [NpartK, List.drop_length, List.append_nil] at this
        rw [← HV.out]; exact this
      · rw [← HV.out]; exact HG.out
set_option maxRecDepth 100000 in
set_option maxHeartbeats 1000000 in
theorem NheldS_any (v : Value) (k0 n : Nat) (w : World) (B : Nat) (h : RS w B v (NmarksS k0 n)) (hB : B ≤ w.heap.size) (hk0 : 1 ≤ k0) (hl : k0 + n ≤ 100000000) :
    Calls Tryd.prog 21 #[v, .int .i64 k0] w fun e w' => e = .returned (.int .i64 ((k0 + n : Nat) : Int)) ∧ Below w.heap.size w w' := by
  obtain ⟨a, cap, rfl⟩ := h.shape
  have H := Lib.hid h
  clear h
  rw [NmarksS_len] at H
  rw [NmarksS_len]
  go_enter Tryd.func21, Tryd.ntmps21
  go_wp2
  go_loopw [1, 5] (fun q j wr => ∃ k : Nat, k ≤ n ∧ j = .int .i64 k ∧ q = .int .i64 ((k0 + k : Nat) : Int) ∧ Below w.heap.size w wr) (fun _ j _ => n - (intOf j).toNat)
  case atStart => exact ⟨0, Nat.zero_le _, rfl, rfl, Below.refl _ _⟩
  case round =>
    obtain ⟨k, hk, rfl, rfl, hb⟩ := hrel
    have HB := Lib.hid hb
    by_cases hlt : k < n
    · have hre := H.out.below (hb.mono hB)
      rw [show Value.slice a n cap = .slice a (NmarksS k0 n).length cap by rw [NmarksS_len]] at hre
      obtain ⟨x, rfl, hxB, c0⟩ := hre.at_ (k := k) (by rw [NmarksS_len]; exact hlt)
      rw [NmarksS_at k0 n k hlt] at c0
      have hgl : (x.add k).block < wr.heap.size := by rw [add_block]; have := hb.size; omega
      obtain ⟨q, hq⟩ : ∃ q, q = k0 + k := ⟨_, rfl⟩
      rw [← hq] at c0 ⊢
      have HQ := Lib.hid hq
      have hq1 : 0 < q := by omega
      have hq2 : q ≤ 100000000 := by omega
      have HM := Lib.hid (fun W => markText_any q W hq1 (by omega))
      clear hb hre hq
      go_wp2_with fail
      go_region_with ((go_at_call 37; refine (HM.out _).mono ?_; rintro e w3 ⟨rfl, hb3⟩; have d1 := (hb3.cell (p := x.add k) hgl).trans c0; have HB3 := Lib.hid (HB.out.drew.trans (hb3.mono HB.out.size)); clear hb3))
      all_goals
        clear d1 c0
        go_wp2
        go_roundw
        case rel => exact ⟨k + 1, by omega, by go_num, val_int (by have := HQ.out; omega), HB3.out⟩
        case measure => simp [intOf]; omega
    · obtain rfl : k = n := by omega
      go_wp2
      go_ret
      exact ⟨rfl, HB.out⟩
end Go.Proofs.YtiknnebeaigkfaaDoor
