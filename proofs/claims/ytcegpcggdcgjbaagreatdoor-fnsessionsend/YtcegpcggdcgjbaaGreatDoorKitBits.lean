/- Contracts of BitsOk in the program and in the model. -/
import Derived.Test.YtcegpcggdcgjbaaGreatDoorKitA
import Derived.RegionTactic
import Derived.Laws.MakeOwn
import Derived.Lib.Strings
namespace Go.Proofs.YtcegpcggdcgjbaaGreatDoor
open Go.ChangeShapes Go.WideShapes Go.ChangeAt Go.RowKit

def bitB (b : UInt8) : Bool := b == 48 || b == 49
/-- noughts and ones, not too many -/
def okB (l : List UInt8) : Bool := l.all bitB && decide (l.length ≤ 1200)
theorem snoc_take (s : ByteArray) (k : Nat) (h : k < s.size) : s.data.toList.take (k + 1) = s.data.toList.take k ++ [s[k]] := by
  rw [List.take_succ_eq_append_getElem (by simpa using h)]; rfl
theorem take_all (s : ByteArray) (k : Nat) (h : s.size ≤ k) : s.data.toList.take k = s.data.toList := by
  rw [List.take_of_length_le (by simpa using h)]
theorem size_list (s : ByteArray) : s.data.toList.length = s.size := by simp
theorem ret_bool {a b : Bool} (h : a = b) : Ending.returned (.bool a) = .returned (.bool b) := by rw [h]
theorem all_stop {s : ByteArray} {k : Nat} (h : k < s.size) (hb : bitB s[k] = false) : s.data.toList.all bitB = false := by
  rw [List.all_eq_false]
  exact ⟨s[k], by
    have : s[k] = s.data.toList[k]'(by simpa using h) := rfl
    rw [this]; exact List.getElem_mem _, by simp [hb]⟩
/-- a byte is a nought, a one or none -/
theorem bit_cases (b : UInt8) : (b = 48 ∨ b = 49) ∨ ((b.toNat : Int) ≠ 48 ∧ (b.toNat : Int) ≠ 49 ∧ bitB b = false) := by
  by_cases h1 : b = 48
  · exact .inl (.inl h1)
  by_cases h2 : b = 49
  · exact .inl (.inr h2)
  refine .inr ⟨fun h => h1 ?_, fun h => h2 ?_, by simp [bitB, h1, h2]⟩
  · apply UInt8.toNat_inj.1; show b.toNat = 48; omega
  · apply UInt8.toNat_inj.1; show b.toNat = 49; omega

set_option maxHeartbeats 1000000 in
theorem implOk_any (s : ByteArray) (w : World) (hs : s.size ≤ maxLen) :
    Calls Tryz.prog 133 #[.string s] w fun e w' => e = .returned (.bool (okB s.data.toList)) ∧ w = w' := by
  unfold maxLen at hs
  by_cases hbig : 1200 < s.size
  · have HF := Lib.hid (show okB s.data.toList = false by simp [okB]; omega)
    go_enter Tryz.func133, Tryz.ntmps133
    go_wp2
    go_ret
    exact ⟨ret_bool HF.out.symm, rfl⟩
  · have hb1 : decide ((1200 : Int) < (s.size : Int)) = false := by simp; omega
    go_enter Tryz.func133, Tryz.ntmps133
    go_wp2
    go_loop [3, 9] (fun _ i => ∃ k : Nat, k ≤ s.size ∧ i = .int .i64 k ∧ (s.data.toList.take k).all bitB = true) (fun _ i => s.size - (intOf i).toNat)
    case atStart => exact ⟨0, Nat.zero_le _, rfl, rfl⟩
    case round =>
      obtain ⟨k, hk, rfl, hall⟩ := hrel
      have HA := Lib.hid hall
      clear hall
      by_cases hlt : k < s.size
      · have HS := Lib.hid (snoc_take s k hlt)
        have HST := Lib.hid (@all_stop s k hlt)
        rcases bit_cases s[k] with (h | h) | ⟨h1, h2, h3⟩
        · have h' : (s[k].toNat : Int) = 48 := by rw [h]; rfl
          have H := Lib.hid h
          have hb : ((s[k].toNat : Int) != 48) = false := by rw [h']; rfl
          clear h h'
          go_wp2
          go_round
          case rel => exact ⟨k + 1, by omega, by go_num, by rw [HS.out, List.all_append, HA.out, H.out]; rfl⟩
          case measure => simp [intOf]; omega
        · have h' : (s[k].toNat : Int) = 49 := by rw [h]; rfl
          have H := Lib.hid h
          have hb : ((s[k].toNat : Int) != 48) = true := by rw [h']; rfl
          have hb2 : ((s[k].toNat : Int) != 49) = false := by rw [h']; rfl
          clear h h'
          go_wp2
          go_round
          case rel => exact ⟨k + 1, by omega, by go_num, by rw [HS.out, List.all_append, HA.out, H.out]; rfl⟩
          case measure => simp [intOf]; omega
        · have hb : ((s[k].toNat : Int) != 48) = true := by rw [bne_iff_ne]; exact h1
          have hb2 : ((s[k].toNat : Int) != 49) = true := by rw [bne_iff_ne]; exact h2
          have HF := Lib.hid (show okB s.data.toList = false by simp [okB, HST.out h3])
          clear h1 h2 h3
          go_wp2
          go_ret
          exact ⟨ret_bool HF.out.symm, rfl⟩
      · have HF := Lib.hid (show okB s.data.toList = true by
          have := HA.out
          rw [take_all s k (by omega)] at this
          unfold okB
          rw [this, size_list, decide_eq_true (by omega)]; rfl)
        go_wp2
        go_ret
        exact ⟨ret_bool HF.out.symm, rfl⟩

end Go.Proofs.YtcegpcggdcgjbaaGreatDoor
/- Contracts of BitsRun in the program and in the model. -/
namespace Go.Proofs.YtcegpcggdcgjbaaGreatDoor
open Go.ChangeShapes Go.WideShapes Go.ChangeAt Go.RowKit

def runStep (p : Nat × Nat) (b : UInt8) : Nat × Nat := if b = 49 then (max p.1 (p.2 + 1), p.2 + 1) else (p.1, 0)
/-- the longest run of ones so far, and the run at the end -/
def runS (l : List UInt8) : Nat × Nat := l.foldl runStep (0, 0)
def runN (l : List UInt8) : Nat := (runS l).1
theorem runS_snoc (l : List UInt8) (b : UInt8) : runS (l ++ [b]) = runStep (runS l) b := by simp [runS, List.foldl_append]
theorem runS_le (l : List UInt8) : (runS l).1 ≤ l.length ∧ (runS l).2 ≤ l.length := by
  unfold runS
  suffices h : ∀ (l : List UInt8) (p : Nat × Nat) (n : Nat), p.1 ≤ n → p.2 ≤ n → (l.foldl runStep p).1 ≤ n + l.length ∧ (l.foldl runStep p).2 ≤ n + l.length by
    simpa using h l (0, 0) 0 (Nat.le_refl _) (Nat.le_refl _)
  intro l
  induction l with
  | nil => intro p n h1 h2; exact ⟨h1, h2⟩
  | cons b l ih =>
    intro p n h1 h2
    rw [List.foldl_cons, List.length_cons]
    have := ih (runStep p b) (n + 1) (by unfold runStep; split <;> simp <;> omega) (by unfold runStep; split <;> simp <;> omega)
    omega
theorem ok_bit {s : ByteArray} (h : okB s.data.toList = true) {k : Nat} (hk : k < s.size) : s[k] = 48 ∨ s[k] = 49 := by
  have h1 : s.data.toList.all bitB = true := by unfold okB at h; exact (Bool.and_eq_true_iff.1 h).1
  have := List.all_eq_true.1 h1 s[k] (by
    have : s[k] = s.data.toList[k]'(by simpa using hk) := rfl
    rw [this]; exact List.getElem_mem _)
  simpa [bitB] using this
theorem ok_size {s : ByteArray} (h : okB s.data.toList = true) : s.size ≤ 1200 := by
  unfold okB at h
  have := (Bool.and_eq_true_iff.1 h).2
  rw [decide_eq_true_iff, size_list] at this
  exact this

end Go.Proofs.YtcegpcggdcgjbaaGreatDoor
/- Contracts of BitsFill in the program and in the model. -/
namespace Go.Proofs.YtcegpcggdcgjbaaGreatDoor
open Go.ChangeShapes Go.WideShapes Go.ChangeAt Go.RowKit

def lenV : Value → Nat | .slice _ n _ => n | .string s => s.size | _ => 0
/-- how many ones are lacking -/
def lackN (n : Nat) : Nat := (8 - n % 8) % 8
def fillL (l : List UInt8) : List UInt8 := l ++ List.replicate (lackN l.length) 49
theorem ones_snoc (l : List UInt8) (j : Nat) : l ++ List.replicate (j + 1) 49 = (l ++ List.replicate j 49) ++ [49] := by
  rw [List.replicate_succ', List.append_assoc]

end Go.Proofs.YtcegpcggdcgjbaaGreatDoor
/- Contracts of BitsTo in the program and in the model. -/
namespace Go.Proofs.YtcegpcggdcgjbaaGreatDoor
open Go.ChangeShapes Go.WideShapes Go.ChangeAt Go.RowKit

def bitN (b : UInt8) : Nat := if b = 49 then 1 else 0
/-- bits as a number, the lowest first -/
def octN : List UInt8 → Nat
  | [] => 0
  | b :: l => bitN b + 2 * octN l
theorem octN_lt (l : List UInt8) : octN l < 2 ^ l.length := by
  induction l with
  | nil => simp [octN]
  | cons b l ih =>
    have : bitN b ≤ 1 := by unfold bitN; split <;> omega
    simp only [octN, List.length_cons, Nat.pow_succ]; omega
theorem octN_snoc (l : List UInt8) (b : UInt8) : octN (l ++ [b]) = octN l + bitN b * 2 ^ l.length := by
  induction l with
  | nil => simp [octN]
  | cons a l ih =>
    simp only [List.cons_append, octN, ih, List.length_cons, Nat.pow_succ]
    rw [Nat.mul_add, Nat.add_assoc]
    congr 2
    rw [← Nat.mul_assoc, Nat.mul_comm 2, Nat.mul_assoc, Nat.mul_comm 2]
/-- the byte of the m-th eight bits -/
def octAt (l : List UInt8) (m : Nat) : UInt8 := UInt8.ofNat (octN ((l.drop (8 * m)).take 8))
def toL (l : List UInt8) : List UInt8 := (List.range (l.length / 8)).map (octAt l)

theorem bit_val {s : ByteArray} {k : Nat} (hk : k < s.size) (h : s[k] = 48 ∨ s[k] = 49) : ((s[k].toNat : Int) - 48) % 256 = bitN s[k] := by
  rcases h with h | h <;> rw [h] <;> decide
theorem drop_cons (s : ByteArray) (k : Nat) (h : k < s.size) : s.data.toList.drop k = s[k] :: s.data.toList.drop (k + 1) := by
  rw [List.drop_eq_getElem_cons (by simpa using h)]; rfl

/-- the tail of an octet: j of its highest bits -/
theorem oct_step (s : ByteArray) (i j : Nat) (hj : j < 8) (h : i + 8 ≤ s.size) :
    octN ((s.data.toList.drop (i + (7 - j))).take (j + 1)) = bitN (s[i + (7 - j)]'(by omega)) + 2 * octN ((s.data.toList.drop (i + (8 - j))).take j) := by
  rw [drop_cons s (i + (7 - j)) (by omega), List.take_succ_cons, octN, show i + (7 - j) + 1 = i + (8 - j) by omega]

end Go.Proofs.YtcegpcggdcgjbaaGreatDoor
/- Contract of BitsTo in the program. -/
namespace Go.Proofs.YtcegpcggdcgjbaaGreatDoor
open Go.ChangeShapes Go.WideShapes Go.ChangeAt Go.RowKit

/-- what is written behind k bits -/
def partL (l : List UInt8) (n k : Nat) : List UInt8 := (List.range n).map (octAt (l.take k))
theorem partL_len (l : List UInt8) (n k : Nat) : (partL l n k).length = n := by simp [partL]
theorem oct_cut (l : List UInt8) (k m : Nat) : ((l.take k).drop (8 * m)).take 8 = (l.drop (8 * m)).take (min 8 (k - 8 * m)) := by
  rw [List.drop_take, List.take_take]
theorem partL_zero (l : List UInt8) (n : Nat) : partL l n 0 = List.replicate n 0 := by
  apply List.ext_getElem
  · simp [partL]
  · intro i h1 h2
    simp [partL, octAt, octN]
/-- a nought turns nothing -/
theorem octN_take_nought (l : List UInt8) (k : Nat) (h : k < l.length) (hb : bitN l[k] = 0) : octN (l.take (k + 1)) = octN (l.take k) := by
  rw [List.take_succ_eq_append_getElem h, octN_snoc, hb]; simp
theorem octN_take_one (l : List UInt8) (k : Nat) (h : k < l.length) (hb : bitN l[k] = 1) : octN (l.take (k + 1)) = octN (l.take k) + 2 ^ k := by
  rw [List.take_succ_eq_append_getElem h, octN_snoc, hb, List.length_take, Nat.min_eq_left (by omega)]; simp
theorem octAt_other (l : List UInt8) (k m : Nat) (h : m ≠ k / 8) : octAt (l.take (k + 1)) m = octAt (l.take k) m := by
  unfold octAt
  rw [oct_cut, oct_cut]
  congr 3
  rcases Nat.lt_or_ge (8 * m) k with h1 | h1
  · rcases Nat.lt_or_ge k (8 * m + 8) with h2 | h2
    · exfalso; apply h; omega
    · omega
  · have : ¬ 8 * m = k := by intro h0; apply h; omega
    omega
theorem octAt_nought (l : List UInt8) (k : Nat) (hk : k < l.length) (hb : bitN l[k] = 0) : octAt (l.take (k + 1)) (k / 8) = octAt (l.take k) (k / 8) := by
  unfold octAt
  rw [oct_cut, oct_cut, show min 8 (k + 1 - 8 * (k / 8)) = k % 8 + 1 by omega, show min 8 (k - 8 * (k / 8)) = k % 8 by omega]
  rw [octN_take_nought _ _ (by simp; omega) (by rw [List.getElem_drop]; simpa [show 8 * (k / 8) + k % 8 = k by omega] using hb)]
theorem octAt_one (l : List UInt8) (k : Nat) (hk : k < l.length) (hb : bitN l[k] = 1) : octAt (l.take (k + 1)) (k / 8) = octAt (l.take k) (k / 8) ||| UInt8.ofNat (2 ^ (k % 8)) := by
  unfold octAt
  rw [oct_cut, oct_cut, show min 8 (k + 1 - 8 * (k / 8)) = k % 8 + 1 by omega, show min 8 (k - 8 * (k / 8)) = k % 8 by omega]
  rw [octN_take_one _ _ (by simp; omega) (by rw [List.getElem_drop]; simpa [show 8 * (k / 8) + k % 8 = k by omega] using hb)]
  have hlt := octN_lt ((l.drop (8 * (k / 8))).take (k % 8))
  have hlen : ((l.drop (8 * (k / 8))).take (k % 8)).length = k % 8 := by simp; omega
  rw [hlen] at hlt
  have hk8 : k % 8 < 8 := Nat.mod_lt _ (by omega)
  have hp : 2 ^ (k % 8) ≤ 2 ^ 7 := Nat.pow_le_pow_right (by omega) (by omega)
  generalize octN ((l.drop (8 * (k / 8))).take (k % 8)) = X at *
  apply UInt8.toNat_inj.1
  rw [UInt8.toNat_or]
  simp only [UInt8.toNat_ofNat']
  rw [Nat.mod_eq_of_lt (show X < 2 ^ 8 by omega), Nat.mod_eq_of_lt (show 2 ^ (k % 8) < 2 ^ 8 by omega), Nat.mod_eq_of_lt (show X + 2 ^ (k % 8) < 2 ^ 8 by omega)]
  have := Nat.two_pow_add_eq_or_of_lt hlt 1
  rw [Nat.mul_one] at this
  rw [Nat.add_comm, this, Nat.or_comm]
theorem partL_same (l : List UInt8) (n k : Nat) (hk : k < l.length) (hb : bitN l[k] = 0) : partL l n (k + 1) = partL l n k := by
  apply List.map_congr_left
  intro m _
  by_cases h : m = k / 8
  · subst h; exact octAt_nought l k hk hb
  · exact octAt_other l k m h
theorem partL_set (l : List UInt8) (n k : Nat) (hk : k < l.length) (hb : bitN l[k] = 1) : partL l n (k + 1) = (partL l n k).set (k / 8) (octAt (l.take k) (k / 8) ||| UInt8.ofNat (2 ^ (k % 8))) := by
  apply List.ext_getElem
  · simp [partL]
  · intro m h1 h2
    rw [List.getElem_set]
    by_cases h : k / 8 = m
    · rw [if_pos h]
      subst h
      simp only [partL, List.getElem_map, List.getElem_range]
      exact octAt_one l k hk hb
    · rw [if_neg h]
      simp only [partL, List.getElem_map, List.getElem_range]
      exact octAt_other l k m (Ne.symm h)
theorem or_pow : ∀ j, j < 8 → ((2 : Int) ^ j % 256 = ((2 ^ j : Nat) : Int) ∧ (UInt8.ofNat (2 ^ j)).toNat = 2 ^ j) := by decide
theorem or_byte (B : UInt8) (j : Nat) (hj : j < 8) : bits .or .u8 (B.toNat : Int) ((2 : Int) ^ j % 256) = ((B ||| UInt8.ofNat (2 ^ j)).toNat : Int) := by
  obtain ⟨h1, h2⟩ := or_pow j hj
  rw [h1, UInt8.toNat_or, h2]
  refine u8_or_nat _ _ (UInt8.toNat_lt B) ?_
  rw [← h2]; exact UInt8.toNat_lt _

end Go.Proofs.YtcegpcggdcgjbaaGreatDoor
/- Plain facts on runs of ones, filling, pieces of bits. -/
namespace Go.Proofs.YtcegpcggdcgjbaaGreatDoor
open Go.ChangeShapes Go.WideShapes Go.ChangeAt Go.RowKit
theorem runStep_mono {p q : Nat × Nat} (h1 : p.1 ≤ q.1) (h2 : p.2 ≤ q.2) (b : UInt8) : (runStep p b).1 ≤ (runStep q b).1 ∧ (runStep p b).2 ≤ (runStep q b).2 := by
  unfold runStep
  split
  · simp; omega
  · simp; omega
theorem run_fold_mono (l : List UInt8) {p q : Nat × Nat} (h1 : p.1 ≤ q.1) (h2 : p.2 ≤ q.2) : (l.foldl runStep p).1 ≤ (l.foldl runStep q).1 ∧ (l.foldl runStep p).2 ≤ (l.foldl runStep q).2 := by
  induction l generalizing p q with
  | nil => exact ⟨h1, h2⟩
  | cons b l ih =>
    have := runStep_mono h1 h2 b
    exact ih this.1 this.2
theorem run_fold_ge (l : List UInt8) (p : Nat × Nat) : p.1 ≤ (l.foldl runStep p).1 := by
  induction l generalizing p with
  | nil => exact Nat.le_refl _
  | cons b l ih =>
    refine Nat.le_trans ?_ (ih _)
    unfold runStep; split <;> simp; omega
theorem run_fold_upper (m c : Nat) (l : List UInt8) (p q : Nat × Nat) (h1 : p.1 ≤ max m (c + q.1)) (h2 : p.2 ≤ c + q.2) (h3 : q.2 ≤ q.1) :
    (l.foldl runStep p).1 ≤ max m (c + (l.foldl runStep q).1) := by
  induction l generalizing p q with
  | nil => exact h1
  | cons b l ih =>
    rw [List.foldl_cons, List.foldl_cons]
    refine ih _ _ ?_ ?_ ?_
    · unfold runStep; split <;> simp <;> omega
    · unfold runStep; split <;> simp; omega
    · unfold runStep; split <;> simp; omega
theorem runS_le' (l : List UInt8) : (runS l).2 ≤ (runS l).1 := by
  unfold runS
  suffices h : ∀ (l : List UInt8) (p : Nat × Nat), p.2 ≤ p.1 → (l.foldl runStep p).2 ≤ (l.foldl runStep p).1 from h l (0, 0) (Nat.le_refl _)
  intro l
  induction l with
  | nil => intro p h; exact h
  | cons b l ih =>
    intro p h
    refine ih _ ?_
    unfold runStep; split <;> simp; omega
theorem run_append (a b : List UInt8) : runN a ≤ runN (a ++ b) ∧ runN b ≤ runN (a ++ b) ∧ runN (a ++ b) ≤ runN a + runN b := by
  have e : runN (a ++ b) = (b.foldl runStep (runS a)).1 := by simp [runN, runS, List.foldl_append]
  have h3 := run_fold_upper (runS a).1 (runS a).2 b (runS a) (0, 0) (by simp; omega) (by simp) (by simp)
  have h4 := runS_le' a
  refine ⟨by rw [e]; exact run_fold_ge b _, by rw [e]; exact (run_fold_mono b (Nat.zero_le _) (Nat.zero_le _)).1, ?_⟩
  rw [e]
  have : (b.foldl runStep (0, 0)).1 = runN b := rfl
  rw [this] at h3
  have : (runS a).1 = runN a := rfl
  omega
theorem ok_take {l : List UInt8} (h : okB l = true) (k : Nat) : okB (l.take k) = true := by
  unfold okB at h ⊢
  rw [Bool.and_eq_true, decide_eq_true_iff] at h ⊢
  refine ⟨List.all_eq_true.2 fun x hx => List.all_eq_true.1 h.1 x (List.mem_of_mem_take hx), ?_⟩
  rw [List.length_take]; omega
theorem ok_drop {l : List UInt8} (h : okB l = true) (k : Nat) : okB (l.drop k) = true := by
  unfold okB at h ⊢
  rw [Bool.and_eq_true, decide_eq_true_iff] at h ⊢
  refine ⟨List.all_eq_true.2 fun x hx => List.all_eq_true.1 h.1 x (List.mem_of_mem_drop hx), ?_⟩
  rw [List.length_drop]; omega
theorem ext_take (s : ByteArray) (k : Nat) : (s.extract 0 k).data.toList = s.data.toList.take k := by
  rw [Lib.extract_data]; simp
theorem ext_drop (s : ByteArray) (k : Nat) : (s.extract k s.size).data.toList = s.data.toList.drop k := by
  rw [Lib.extract_data, List.take_of_length_le (by simp)]
theorem runN_ones (n : Nat) : runN (List.replicate n 49) = n := by
  have h : ∀ n m, ((List.replicate n (49 : UInt8)).foldl runStep (m, m)) = (m + n, m + n) := by
    intro n
    induction n with
    | zero => intro m; rfl
    | succ n ih =>
      intro m
      rw [List.replicate_succ, List.foldl_cons, show runStep (m, m) 49 = (m + 1, m + 1) by simp [runStep], ih]
      simp; omega
  have := h n 0
  simp at this
  simp [runN, runS, this]
theorem fill_len (l : List UInt8) : (fillL l).length % 8 = 0 ∧ l.length ≤ (fillL l).length ∧ (fillL l).length < l.length + 8 := by
  unfold fillL lackN
  simp only [List.length_append, List.length_replicate]
  omega
theorem fill_ok {l : List UInt8} (h : okB l = true) : okB (fillL l) = true := by
  have hf := fill_len l
  unfold okB at h ⊢
  rw [Bool.and_eq_true, decide_eq_true_iff] at h ⊢
  refine ⟨?_, by omega⟩
  unfold fillL
  rw [List.all_append, h.1]
  simp [bitB]
theorem fill_idem (l : List UInt8) : fillL (fillL l) = fillL l := by
  have hf := (fill_len l).1
  have e : ∀ m : List UInt8, m.length % 8 = 0 → fillL m = m := fun m hm => by
    unfold fillL
    rw [show lackN m.length = 0 by unfold lackN; omega]
    simp
  exact e _ hf
theorem fill_take (l : List UInt8) : (fillL l).take l.length = l := by unfold fillL; rw [List.take_left]
theorem fill_drop (l : List UInt8) : (fillL l).drop l.length = List.replicate ((fillL l).length - l.length) 49 := by
  unfold fillL; rw [List.drop_left, List.length_append, List.length_replicate]
  congr 1; omega
end Go.Proofs.YtcegpcggdcgjbaaGreatDoor
