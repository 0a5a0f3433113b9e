/- Slices of strings in the laws: marked, still as marked; copied by the program. -/
import Derived.Test.YtplaagkcamjemaaOs
import Derived.Test.YtplaagkcamjemaaMark
import Derived.Test.YtplaagkcamjemaaKitA
import Derived.Test.YtplaagkcamjemaaTEvK
namespace Go.Proofs.Ytplaagkcamjemaa
open Go.ChangeShapes Go.WideShapes Go.ChangeAt Go.RowKit
/-- the marks from k0 on -/
def marksS (k0 n : Nat) : List ByteArray := (List.range n).map fun i => ⟨(markL (k0 + i)).toArray⟩
theorem marksS_len (k0 n : Nat) : (marksS k0 n).length = n := by simp [marksS]
theorem marksS_at (k0 n k : Nat) (h : k < n) : (marksS k0 n)[k]'(by rw [marksS_len]; exact h) = ⟨(markL (k0 + k)).toArray⟩ := by simp [marksS]
def partK (ss : List ByteArray) (k0 k : Nat) : List ByteArray := marksS k0 k ++ ss.drop k
theorem partK_len (ss : List ByteArray) (k0 k : Nat) (h : k ≤ ss.length) : (partK ss k0 k).length = ss.length := by simp [partK, marksS_len]; omega
theorem partK_set (ss : List ByteArray) (k0 k : Nat) (h : k < ss.length) : (partK ss k0 k).set k ⟨(markL (k0 + k)).toArray⟩ = partK ss k0 (k + 1) := by
  unfold partK
  rw [List.set_append_right _ _ (by rw [marksS_len]; exact Nat.le_refl _), marksS_len, Nat.sub_self, List.drop_eq_getElem_cons h, List.set_cons_zero]
  have : marksS k0 (k + 1) = marksS k0 k ++ [⟨(markL (k0 + k)).toArray⟩] := by simp [marksS, List.range_succ]
  rw [this, List.append_assoc, List.singleton_append]
def MarkSPost (w : World) (base : Nat) (v : Value) (k0 n : Nat) (e : Ending) (w' : World) : Prop := e = .returned (.int .i64 ((k0 + n : Nat) : Int)) ∧ OS w' base v (marksS k0 n) ∧ w.grownBy w' v.ownBlock
theorem OS.stored {w : World} {base g n cap : Nat} {ss : List ByteArray} (h : OS w base (.slice (some ⟨g, 0, none⟩) n cap) ss) (k : Nat) (s : ByteArray) : OS (w.setCell ⟨g, k, none⟩ (.string s)) base (.slice (some ⟨g, 0, none⟩) n cap) (ss.set k s) := by
  have h1 := sown_stored h k (.string s)
  unfold OS
  rw [List.length_set, show (ss.set k s).map strV = (ss.map strV).set k (.string s) by rw [List.map_set]; rfl]
  exact h1
set_option maxRecDepth 100000 in
set_option maxHeartbeats 1000000 in
theorem markS_any (v : Value) (ss : List ByteArray) (k0 : Nat) (w : World) (base : Nat) (h : OS w base v ss) (hk0 : 1 ≤ k0) (hl : k0 + ss.length ≤ 100000000) :
    Calls Try.prog 40 #[v, .int .i64 k0] w (MarkSPost w base v k0 ss.length) := by
  obtain ⟨a, cap, hv⟩ := h.reads.shape
  have H := Lib.hid h
  have HV := Lib.hid hv
  rw [hv]
  clear h hv
  go_enter Try.func40, Try.ntmps40
  go_wp2
  go_loopw [1, 5] (fun q j wr => ∃ k : Nat, k ≤ ss.length ∧ j = .int .i64 k ∧ q = .int .i64 ((k0 + k : Nat) : Int) ∧ OS wr base v (partK ss k0 k) ∧ w.grownBy wr v.ownBlock) (fun _ j _ => ss.length - (intOf j).toNat)
  case atStart => exact ⟨0, Nat.zero_le _, rfl, rfl, by simpa [partK, marksS] using H.out, ⟨rfl, rfl, rfl, Nat.le_refl _, fun _ _ _ => rfl⟩⟩
  case round =>
    obtain ⟨k, hk, rfl, rfl, hoe, hg⟩ := hrel
    have HG := Lib.hid hg
    by_cases hlt : k < ss.length
    · have HPL := Lib.hid (partK_len ss k0 k hk)
      obtain ⟨g, cp, hvg, hg1, hg2⟩ := hoe.pos (by rw [HPL.out]; omega)
      rw [HV.out, HPL.out] at hvg
      injection hvg with hva _ hvc
      subst hva hvc
      have HPS := Lib.hid (partK_set ss k0 k hlt)
      rw [HV.out] at hoe
      have HOE := Lib.hid hoe
      obtain ⟨q, hq⟩ : ∃ q, q = k0 + k := ⟨_, rfl⟩
      rw [← hq] at HPS ⊢
      have HQ := Lib.hid hq
      have hq1 : 0 < q := by omega
      have hq2 : q ≤ 100000000 := by omega
      have HM := Lib.hid (fun W => markText_any q W hq1 (by omega))
      clear hoe hg hq
      go_wp2_with fail
      refine (HM.out _).mono ?_
      rintro e w3 ⟨rfl, hb3⟩
      have ho3 := HOE.out.below hb3
      have d1 := ho3.cellAt (k := k) (by rw [HPL.out]; exact hlt)
      have e1 := ho3.freeAt k
      have HO4 := Lib.hid (show OS (w3.setCell ⟨g, k, none⟩ (.string ⟨(markL q).toArray⟩)) base (.slice (some ⟨g, 0, none⟩) ss.length cap) (partK ss k0 (k + 1)) by rw [← HPS.out]; exact ho3.stored k _)
      have HG4 := Lib.hid (grown_set (kgrown_below HG.out hb3) (g := g) (by rw [HV.out]; rfl) k (.string ⟨(markL q).toArray⟩))
      generalize (partK ss k0 k)[k]'(by rw [HPL.out]; exact hlt) = old at *
      clear ho3 hb3
      go_wp2
      go_roundw
      case rel => exact ⟨k + 1, by omega, by go_num, val_int (by have := HQ.out; omega), by rw [HV.out]; exact HO4.out, HG4.out⟩
      case measure => simp [intOf]; omega
    · obtain rfl : k = ss.length := by omega
      have HOE := Lib.hid hoe
      clear hoe hg
      go_wp2
      go_ret
      refine ⟨rfl, ?_, ?_⟩
      · have := HOE.out
        rw [partK, List.drop_length, List.append_nil] at this
        rw [← HV.out]; exact this
      · rw [← HV.out]; exact HG.out
set_option maxRecDepth 100000 in
set_option maxHeartbeats 1000000 in
theorem heldS_any (v : Value) (k0 n : Nat) (w : World) (B : Nat) (h : RS w B v (marksS k0 n)) (hB : B ≤ w.heap.size) (hk0 : 1 ≤ k0) (hl : k0 + n ≤ 100000000) :
    Calls Try.prog 59 #[v, .int .i64 k0] w fun e w' => e = .returned (.int .i64 ((k0 + n : Nat) : Int)) ∧ Below w.heap.size w w' := by
  obtain ⟨a, cap, rfl⟩ := h.shape
  have H := Lib.hid h
  clear h
  rw [marksS_len] at H
  rw [marksS_len]
  go_enter Try.func59, Try.ntmps59
  go_wp2
  go_loopw [1, 5] (fun q j wr => ∃ k : Nat, k ≤ n ∧ j = .int .i64 k ∧ q = .int .i64 ((k0 + k : Nat) : Int) ∧ Below w.heap.size w wr) (fun _ j _ => n - (intOf j).toNat)
  case atStart => exact ⟨0, Nat.zero_le _, rfl, rfl, Below.refl _ _⟩
  case round =>
    obtain ⟨k, hk, rfl, rfl, hb⟩ := hrel
    have HB := Lib.hid hb
    by_cases hlt : k < n
    · have hre := H.out.below (hb.mono hB)
      rw [show Value.slice a n cap = .slice a (marksS k0 n).length cap by rw [marksS_len]] at hre
      obtain ⟨x, rfl, hxB, c0⟩ := hre.at_ (k := k) (by rw [marksS_len]; exact hlt)
      rw [marksS_at k0 n k hlt] at c0
      have hgl : (x.add k).block < wr.heap.size := by rw [add_block]; have := hb.size; omega
      obtain ⟨q, hq⟩ : ∃ q, q = k0 + k := ⟨_, rfl⟩
      rw [← hq] at c0 ⊢
      have HQ := Lib.hid hq
      have hq1 : 0 < q := by omega
      have hq2 : q ≤ 100000000 := by omega
      have HM := Lib.hid (fun W => markText_any q W hq1 (by omega))
      clear hb hre hq
      go_wp2_with fail
      go_region_with ((go_at_call 58; refine (HM.out _).mono ?_; rintro e w3 ⟨rfl, hb3⟩; have d1 := (hb3.cell (p := x.add k) hgl).trans c0; have HB3 := Lib.hid (HB.out.drew.trans (hb3.mono HB.out.size)); clear hb3))
      all_goals
        clear d1 c0
        go_wp2
        go_roundw
        case rel => exact ⟨k + 1, by omega, by go_num, val_int (by have := HQ.out; omega), HB3.out⟩
        case measure => simp [intOf]; omega
    · obtain rfl : k = n := by omega
      go_wp2
      go_ret
      exact ⟨rfl, HB.out⟩
end Go.Proofs.Ytplaagkcamjemaa
