/- Plain facts on frames: found again in their bytes, whatever pieces, behind an end, all of them. -/
import Derived.Test.YtdnedoafgfpnfaaGreatKitFindB
import Derived.Test.YtdnedoafgfpnfaaGreatKitFindG
namespace Go.Proofs.YtdnedoafgfpnfaaGreat
open Go.ChangeShapes Go.WideShapes Go.ChangeAt Go.RowKit
theorem write_clean {c : Cf} (h : confB c = true) (l : List UInt8) : endOf c ∉ writeL c l := by
  obtain ⟨h1, _⟩ := confB_yes h
  unfold writeL endOf
  split
  · intro hm; exact (escR_mem hm).1 rfl
  · split
    · exact fun hm => cob_nz l _ hm rfl
    · exact fun hm => (less_read l).1 _ hm rfl
theorem read_write {c : Cf} {l : List UInt8} (hl : l.length ≤ 600) : readL c (writeL c l) = (l, true) := by
  unfold readL writeL
  split
  · rw [unR_escR]
  · split
    · exact getA_cob hl
    · exact lgetA_less hl
theorem write_pos {c : Cf} {l : List UInt8} (h : 0 < l.length) : 0 < (writeL c l).length := by
  unfold writeL
  split
  · have := (escR_len c.map.toNat l).1; omega
  · split
    · have := (cob_size l).1; omega
    · have := (less_size l).1; omega
theorem putL_pos {c : Cf} (h : confB c = true) (s : List UInt8) : 2 ≤ (putL c.sum s).length ∧ ((putL c.sum s).length : Int) = s.length + c.sum := by
  obtain ⟨_, hk, _⟩ := confB_yes h
  have hk2 := kind_or hk
  rw [putL_len]; omega
theorem eval_send {c : Cf} {s : List UInt8} (h : sendOk c s = true) : evalL c (writeL c (putL c.sum s)) = some ⟨1, s⟩ := by
  simp only [sendOk, Bool.and_eq_true, decide_eq_true_eq] at h
  obtain ⟨hc, hl⟩ := h
  obtain ⟨_, hk, hm, _⟩ := confB_yes hc
  have hp := putL_pos hc s
  have hk2 := kind_or hk
  have hr : readL c (writeL c (putL c.sum s)) = (putL c.sum s, true) := read_write (by omega)
  have hw := write_pos (c := c) (l := putL c.sum s) (by omega)
  unfold evalL
  rw [if_neg (by omega), hr, if_neg (by
    rintro ⟨h1, h5⟩
    unfold writeL at h5
    rw [if_pos h1] at h5
    exact escR_last _ _ h5), if_neg (by simp), if_neg (by rintro ⟨_, h0⟩; simp only at h0; omega)]
  congr 1
  unfold evT
  simp only
  rw [if_neg (by omega), if_neg (by omega), if_pos (getB_put hk s), cut_put]
theorem hold_send {c : Cf} {s : List UInt8} (h : sendOk c s = true) : ((writeL c (putL c.sum s)).length : Int) ≤ holdN c := by
  simp only [sendOk, Bool.and_eq_true, decide_eq_true_eq] at h
  obtain ⟨hc, hl⟩ := h
  obtain ⟨_, hk, hm, _⟩ := confB_yes hc
  have hp := putL_pos hc s
  have hk2 := kind_or hk
  have := writeL_len c (putL c.sum s) (by omega)
  unfold holdN; omega
theorem feed_free {c : Cf} (p : List UInt8) (hp : endOf c ∉ p) : ∀ q : List UInt8, ffeed c (stOf c q) p = (stOf c (q ++ p), []) := by
  induction p with
  | nil => intro q; rw [List.append_nil]; rfl
  | cons b p ih =>
    intro q
    have hb : b ≠ endOf c := fun e => hp (by simp [e])
    rw [ffeed_cons, step_other q hb]
    simp only
    rw [ih (fun e => hp (by simp [e]))]
    simp
/-- a frame is found again in its bytes, and nothing else -/
theorem feed_send {c : Cf} {s : List UInt8} (h : sendOk c s = true) : ffeed c ⟨[], false⟩ (sendL c s) = (⟨[], false⟩, [⟨1, s⟩]) := by
  have hc : confB c = true := by simp only [sendOk, Bool.and_eq_true] at h; exact h.1
  have hp := hold_pos hc
  have h0 : stOf c [] = ⟨[], false⟩ := by unfold stOf; rw [if_neg (by simp; omega)]
  unfold sendL
  rw [ffeed_append, ← h0, feed_free _ (write_clean hc _)]
  simp only [List.nil_append]
  obtain ⟨e1, e2⟩ := step_end (c := c) (writeL c (putL c.sum s))
  rw [ffeed_cons, e1, e2]
  have hp2 : pieceE c (writeL c (putL c.sum s)) = [⟨1, s⟩] := by
    unfold pieceE
    rw [if_neg (by have := hold_send h; omega), eval_send h]
    rfl
  rw [hp2, h0]
  rfl
theorem send_all {c : Cf} {s : List UInt8} (h : sendOk c s = true) : allL c (sendL c s) = [⟨1, s⟩] := by
  have hc : confB c = true := by simp only [sendOk, Bool.and_eq_true] at h; exact h.1
  have h1 := feed_cut hc (sendL c s)
  rw [feed_send h] at h1
  exact (congrArg Prod.snd h1).symm
theorem sendL_len {c : Cf} {s : List UInt8} (h : sendOk c s = true) : (sendL c s).length ≤ 93 ∧ 1 ≤ (sendL c s).length := by
  have hc : confB c = true := by simp only [sendOk, Bool.and_eq_true] at h; exact h.1
  have hp := hold_pos hc
  have := hold_send h
  unfold sendL
  rw [List.length_append]; simp; omega
theorem feedF_send {c : Cf} {s : List UInt8} (h : sendOk c s = true) : feedF c ⟨[], false⟩ (sendL c s) = (⟨[], false⟩, [⟨1, s⟩]) := by
  have hc : confB c = true := by simp only [sendOk, Bool.and_eq_true] at h; exact h.1
  have := sendL_len h
  unfold feedF
  rw [if_pos ⟨new_ok hc, by omega⟩, feed_send h]
/-- three frames, one behind the other -/
theorem feed_three {c : Cf} {a b : List UInt8} (ha : sendOk c a = true) (hb : sendOk c b = true) : feedF c ⟨[], false⟩ (sendL c a ++ sendL c b ++ sendL c a) = (⟨[], false⟩, [⟨1, a⟩, ⟨1, b⟩, ⟨1, a⟩]) := by
  have hc : confB c = true := by simp only [sendOk, Bool.and_eq_true] at ha; exact ha.1
  have l1 := sendL_len ha
  have l2 := sendL_len hb
  unfold feedF
  rw [if_pos ⟨new_ok hc, by simp only [List.length_append]; omega⟩, ffeed_append, ffeed_append, feed_send ha]
  simp only
  rw [feed_send hb]
  simp only
  rw [feed_send ha]
  rfl
/-- the same comes, in whatever pieces -/
theorem feedF_parts {c : Cf} {f : Fd} (hf : okF c f = true) {l : List UInt8} (hl : l.length ≤ 600) (k : Nat) :
    okF c (feedF c f l).1 = true ∧ (feedF c (feedF c f (l.take k)).1 (l.drop k)).1 = (feedF c f l).1 ∧ (feedF c f (l.take k)).2 ++ (feedF c (feedF c f (l.take k)).1 (l.drop k)).2 = (feedF c f l).2 := by
  have h1 : feedF c f l = ffeed c f l := by unfold feedF; rw [if_pos ⟨hf, hl⟩]
  have h2 : feedF c f (l.take k) = ffeed c f (l.take k) := by unfold feedF; rw [if_pos ⟨hf, by rw [List.length_take]; omega⟩]
  have h3 : feedF c (ffeed c f (l.take k)).1 (l.drop k) = ffeed c (ffeed c f (l.take k)).1 (l.drop k) := by unfold feedF; rw [if_pos ⟨ffeed_ok _ hf, by rw [List.length_drop]; omega⟩]
  have h4 := ffeed_append c f (l.take k) (l.drop k)
  rw [List.take_append_drop] at h4
  rw [h1, h2, h3, h4]
  refine ⟨?_, rfl, rfl⟩
  have := ffeed_ok l hf
  rw [h4] at this
  exact this
/-- behind an end nothing of what was ahead is left -/
theorem feedF_end {c : Cf} {f : Fd} (hf : okF c f = true) : (feedF c f [endOf c]).1 = ⟨[], false⟩ ∧ (feedF c f [endOf c]).2.length ≤ 1 := by
  have h1 : feedF c f [endOf c] = ffeed c f [endOf c] := by unfold feedF; rw [if_pos ⟨hf, by simp⟩]
  rw [h1, ffeed_cons]
  have h2 : fstep c f (endOf c) = (⟨[], false⟩, endE c f) := by unfold fstep; rw [if_pos rfl]
  rw [h2, ffeed_nil]
  exact ⟨rfl, by simp⟩
theorem feedF_all {c : Cf} (hc : confB c = true) {l : List UInt8} (hl : l.length ≤ 600) : (feedF c ⟨[], false⟩ l).2 = allF c l := by
  unfold feedF allF
  rw [if_pos ⟨new_ok hc, hl⟩, if_pos ⟨hc, hl⟩, feed_cut hc]
theorem evT_frame {c : Cf} (hc : confB c = true) (x : List UInt8) : (1 ≤ (evT c x).kind ∧ (evT c x).kind ≤ 6) ∧ ((evT c x).kind ≠ 1 → (evT c x).text = []) ∧ ((evT c x).text.length : Int) ≤ c.most := by
  obtain ⟨_, hk, hm, _⟩ := confB_yes hc
  have hk2 := kind_or hk
  have h0 : (((List.nil : List UInt8)).length : Int) ≤ c.most := by simp; exact hm.1
  unfold evT
  split
  · exact ⟨by simp, fun _ => rfl, h0⟩
  · split
    · exact ⟨by simp, fun _ => rfl, h0⟩
    · split
      · refine ⟨by simp, fun h => absurd rfl h, ?_⟩
        simp only [cutL, List.length_take]
        omega
      · exact ⟨by simp, fun _ => rfl, h0⟩
def goodE (c : Cf) (e : Ev) : Prop := (1 ≤ e.kind ∧ e.kind ≤ 6) ∧ (e.kind ≠ 1 → e.text = []) ∧ (e.text.length : Int) ≤ c.most
theorem evalL_good {c : Cf} (hc : confB c = true) {t : List UInt8} {e : Ev} (h : evalL c t = some e) : goodE c e := by
  obtain ⟨_, _, hm, _⟩ := confB_yes hc
  have h0 : (((List.nil : List UInt8)).length : Int) ≤ c.most := by simp; exact hm.1
  unfold evalL at h
  split at h
  · cases h
  · split at h
    · cases h; exact ⟨by simp, fun _ => rfl, h0⟩
    · split at h
      · cases h; exact ⟨by simp, fun _ => rfl, h0⟩
      · split at h
        · cases h
        · cases h; exact evT_frame hc _
theorem ffeed_good {c : Cf} (hc : confB c = true) (l : List UInt8) : ∀ (f : Fd), ∀ e ∈ (ffeed c f l).2, goodE c e := by
  obtain ⟨_, _, hm, _⟩ := confB_yes hc
  induction l with
  | nil => intro f e he; simp [ffeed] at he
  | cons b l ih =>
    intro f e he
    rw [ffeed_cons, List.mem_append] at he
    rcases he with he | he
    · have h2 : (fstep c f b).2 = some e := by
        cases h3 : (fstep c f b).2 with
        | none => rw [h3] at he; simp at he
        | some e' => rw [h3] at he; simp at he; rw [he]
      unfold fstep at h2
      split at h2
      · unfold endE at h2
        split at h2
        · cases h2; exact ⟨by simp, fun _ => rfl, by simp; exact hm.1⟩
        · exact evalL_good hc h2
      · split at h2
        · cases h2
        · split at h2 <;> cases h2
    · exact ih _ e he
theorem feedF_good (c : Cf) (f : Fd) (l : List UInt8) : ∀ e ∈ (feedF c f l).2, goodE c e ∧ confB c = true := by
  intro e he
  unfold feedF at he
  split at he
  · rename_i h
    have hc := (okF_yes h.1).1
    exact ⟨ffeed_good hc l f e he, hc⟩
  · simp at he
end Go.Proofs.YtdnedoafgfpnfaaGreat
