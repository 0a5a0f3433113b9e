/- Contracts of BitsOk in the program and in the model. -/
import Derived.Test.YtekhakapmpdnaaaKitA
import Derived.RegionTactic
import Derived.Laws.MakeOwn
import Derived.Lib.Strings
namespace Go.Proofs.Ytekhakapmpdnaaa
open Go.ChangeShapes Go.WideShapes Go.ChangeAt Go.RowKit

def bitB (b : UInt8) : Bool := b == 48 || b == 49
/-- noughts and ones, not too many -/
def okB (l : List UInt8) : Bool := l.all bitB && decide (l.length ≤ 1200)
theorem snoc_take (s : ByteArray) (k : Nat) (h : k < s.size) : s.data.toList.take (k + 1) = s.data.toList.take k ++ [s[k]] := by
  rw [List.take_succ_eq_append_getElem (by simpa using h)]; rfl
theorem take_all (s : ByteArray) (k : Nat) (h : s.size ≤ k) : s.data.toList.take k = s.data.toList := by
  rw [List.take_of_length_le (by simpa using h)]
theorem size_list (s : ByteArray) : s.data.toList.length = s.size := by simp
theorem ret_bool {a b : Bool} (h : a = b) : Ending.returned (.bool a) = .returned (.bool b) := by rw [h]
theorem all_stop {s : ByteArray} {k : Nat} (h : k < s.size) (hb : bitB s[k] = false) : s.data.toList.all bitB = false := by
  rw [List.all_eq_false]
  exact ⟨s[k], by
    have : s[k] = s.data.toList[k]'(by simpa using h) := rfl
    rw [this]; exact List.getElem_mem _, by simp [hb]⟩
/-- a byte is a nought, a one or none -/
theorem bit_cases (b : UInt8) : (b = 48 ∨ b = 49) ∨ ((b.toNat : Int) ≠ 48 ∧ (b.toNat : Int) ≠ 49 ∧ bitB b = false) := by
  by_cases h1 : b = 48
  · exact .inl (.inl h1)
  by_cases h2 : b = 49
  · exact .inl (.inr h2)
  refine .inr ⟨fun h => h1 ?_, fun h => h2 ?_, by simp [bitB, h1, h2]⟩
  · apply UInt8.toNat_inj.1; show b.toNat = 48; omega
  · apply UInt8.toNat_inj.1; show b.toNat = 49; omega

set_option maxHeartbeats 1000000 in
theorem implOk_any (s : ByteArray) (w : World) (hs : s.size ≤ maxLen) :
    Calls Try.prog 13 #[.string s] w fun e w' => e = .returned (.bool (okB s.data.toList)) ∧ w = w' := by
  unfold maxLen at hs
  by_cases hbig : 1200 < s.size
  · have HF := Lib.hid (show okB s.data.toList = false by simp [okB]; omega)
    go_enter Try.func13, Try.ntmps13
    go_wp2
    go_ret
    exact ⟨ret_bool HF.out.symm, rfl⟩
  · have hb1 : decide ((1200 : Int) < (s.size : Int)) = false := by simp; omega
    go_enter Try.func13, Try.ntmps13
    go_wp2
    go_loop [3, 9] (fun _ i => ∃ k : Nat, k ≤ s.size ∧ i = .int .i64 k ∧ (s.data.toList.take k).all bitB = true) (fun _ i => s.size - (intOf i).toNat)
    case atStart => exact ⟨0, Nat.zero_le _, rfl, rfl⟩
    case round =>
      obtain ⟨k, hk, rfl, hall⟩ := hrel
      have HA := Lib.hid hall
      clear hall
      by_cases hlt : k < s.size
      · have HS := Lib.hid (snoc_take s k hlt)
        have HST := Lib.hid (@all_stop s k hlt)
        rcases bit_cases s[k] with (h | h) | ⟨h1, h2, h3⟩
        · have h' : (s[k].toNat : Int) = 48 := by rw [h]; rfl
          have H := Lib.hid h
          have hb : ((s[k].toNat : Int) != 48) = false := by rw [h']; rfl
          clear h h'
          go_wp2
          go_round
          case rel => exact ⟨k + 1, by omega, by go_num, by rw [HS.out, List.all_append, HA.out, H.out]; rfl⟩
          case measure => simp [intOf]; omega
        · have h' : (s[k].toNat : Int) = 49 := by rw [h]; rfl
          have H := Lib.hid h
          have hb : ((s[k].toNat : Int) != 48) = true := by rw [h']; rfl
          have hb2 : ((s[k].toNat : Int) != 49) = false := by rw [h']; rfl
          clear h h'
          go_wp2
          go_round
          case rel => exact ⟨k + 1, by omega, by go_num, by rw [HS.out, List.all_append, HA.out, H.out]; rfl⟩
          case measure => simp [intOf]; omega
        · have hb : ((s[k].toNat : Int) != 48) = true := by rw [bne_iff_ne]; exact h1
          have hb2 : ((s[k].toNat : Int) != 49) = true := by rw [bne_iff_ne]; exact h2
          have HF := Lib.hid (show okB s.data.toList = false by simp [okB, HST.out h3])
          clear h1 h2 h3
          go_wp2
          go_ret
          exact ⟨ret_bool HF.out.symm, rfl⟩
      · have HF := Lib.hid (show okB s.data.toList = true by
          have := HA.out
          rw [take_all s k (by omega)] at this
          unfold okB
          rw [this, size_list, decide_eq_true (by omega)]; rfl)
        go_wp2
        go_ret
        exact ⟨ret_bool HF.out.symm, rfl⟩

set_option maxHeartbeats 1000000 in
theorem l2Ok_any (s : ByteArray) (w : World) (hs : s.size ≤ maxLen) :
    Calls Try.prog 48 #[.string s] w fun e w' => e = .returned (.bool (okB s.data.toList)) ∧ w = w' := by
  unfold maxLen at hs
  go_enter Try.func48, Try.ntmps48
  go_wp2
  go_loop [3] (fun i => ∃ k : Nat, k ≤ s.size ∧ i = .int .i64 k ∧ (s.data.toList.take k).all bitB = true) (fun i => s.size - (intOf i).toNat)
  case atStart => exact ⟨0, Nat.zero_le _, rfl, rfl⟩
  case round =>
    obtain ⟨k, hk, rfl, hall⟩ := hrel
    have HA := Lib.hid hall
    clear hall
    by_cases hlt : k < s.size
    · have HS := Lib.hid (snoc_take s k hlt)
      have HST := Lib.hid (@all_stop s k hlt)
      rcases bit_cases s[k] with (h | h) | ⟨h1, h2, h3⟩
      · have h' : (s[k].toNat : Int) = 48 := by rw [h]; rfl
        have H := Lib.hid h
        have hb : ((s[k].toNat : Int) != 48) = false := by rw [h']; rfl
        clear h h'
        go_wp2
        go_round
        case rel => exact ⟨k + 1, by omega, by go_num, by rw [HS.out, List.all_append, HA.out, H.out]; rfl⟩
        case measure => simp [intOf]; omega
      · have h' : (s[k].toNat : Int) = 49 := by rw [h]; rfl
        have H := Lib.hid h
        have hb : ((s[k].toNat : Int) != 48) = true := by rw [h']; rfl
        have hb2 : ((s[k].toNat : Int) != 49) = false := by rw [h']; rfl
        clear h h'
        go_wp2
        go_round
        case rel => exact ⟨k + 1, by omega, by go_num, by rw [HS.out, List.all_append, HA.out, H.out]; rfl⟩
        case measure => simp [intOf]; omega
      · have hb : ((s[k].toNat : Int) != 48) = true := by rw [bne_iff_ne]; exact h1
        have hb2 : ((s[k].toNat : Int) != 49) = true := by rw [bne_iff_ne]; exact h2
        have HF := Lib.hid (show okB s.data.toList = false by simp [okB, HST.out h3])
        clear h1 h2 h3
        go_wp2
        go_ret
        exact ⟨ret_bool HF.out.symm, rfl⟩
    · have HF := Lib.hid (show okB s.data.toList = decide ((s.size : Int) ≤ 1200) by
        have := HA.out
        rw [take_all s k (by omega)] at this
        unfold okB
        rw [this, size_list, Bool.true_and]
        exact decide_eq_decide.2 (by omega))
      go_wp2
      go_ret
      exact ⟨ret_bool HF.out.symm, rfl⟩
end Go.Proofs.Ytekhakapmpdnaaa
/- Contracts of BitsRun in the program and in the model. -/
namespace Go.Proofs.Ytekhakapmpdnaaa
open Go.ChangeShapes Go.WideShapes Go.ChangeAt Go.RowKit

def runStep (p : Nat × Nat) (b : UInt8) : Nat × Nat := if b = 49 then (max p.1 (p.2 + 1), p.2 + 1) else (p.1, 0)
/-- the longest run of ones so far, and the run at the end -/
def runS (l : List UInt8) : Nat × Nat := l.foldl runStep (0, 0)
def runN (l : List UInt8) : Nat := (runS l).1
theorem runS_snoc (l : List UInt8) (b : UInt8) : runS (l ++ [b]) = runStep (runS l) b := by simp [runS, List.foldl_append]
theorem runS_le (l : List UInt8) : (runS l).1 ≤ l.length ∧ (runS l).2 ≤ l.length := by
  unfold runS
  suffices h : ∀ (l : List UInt8) (p : Nat × Nat) (n : Nat), p.1 ≤ n → p.2 ≤ n → (l.foldl runStep p).1 ≤ n + l.length ∧ (l.foldl runStep p).2 ≤ n + l.length by
    simpa using h l (0, 0) 0 (Nat.le_refl _) (Nat.le_refl _)
  intro l
  induction l with
  | nil => intro p n h1 h2; exact ⟨h1, h2⟩
  | cons b l ih =>
    intro p n h1 h2
    rw [List.foldl_cons, List.length_cons]
    have := ih (runStep p b) (n + 1) (by unfold runStep; split <;> simp <;> omega) (by unfold runStep; split <;> simp <;> omega)
    omega
theorem ok_bit {s : ByteArray} (h : okB s.data.toList = true) {k : Nat} (hk : k < s.size) : s[k] = 48 ∨ s[k] = 49 := by
  have h1 : s.data.toList.all bitB = true := by unfold okB at h; exact (Bool.and_eq_true_iff.1 h).1
  have := List.all_eq_true.1 h1 s[k] (by
    have : s[k] = s.data.toList[k]'(by simpa using hk) := rfl
    rw [this]; exact List.getElem_mem _)
  simpa [bitB] using this
theorem ok_size {s : ByteArray} (h : okB s.data.toList = true) : s.size ≤ 1200 := by
  unfold okB at h
  have := (Bool.and_eq_true_iff.1 h).2
  rw [decide_eq_true_iff, size_list] at this
  exact this

end Go.Proofs.Ytekhakapmpdnaaa
/- Contracts of BitsFill in the program and in the model. -/
namespace Go.Proofs.Ytekhakapmpdnaaa
open Go.ChangeShapes Go.WideShapes Go.ChangeAt Go.RowKit

def lenV : Value → Nat | .slice _ n _ => n | .string s => s.size | _ => 0
/-- how many ones are lacking -/
def lackN (n : Nat) : Nat := (8 - n % 8) % 8
def fillL (l : List UInt8) : List UInt8 := l ++ List.replicate (lackN l.length) 49
theorem ones_snoc (l : List UInt8) (j : Nat) : l ++ List.replicate (j + 1) 49 = (l ++ List.replicate j 49) ++ [49] := by
  rw [List.replicate_succ', List.append_assoc]

end Go.Proofs.Ytekhakapmpdnaaa
/- Contracts of BitsTo in the program and in the model. -/
namespace Go.Proofs.Ytekhakapmpdnaaa
open Go.ChangeShapes Go.WideShapes Go.ChangeAt Go.RowKit

def bitN (b : UInt8) : Nat := if b = 49 then 1 else 0
/-- bits as a number, the lowest first -/
def octN : List UInt8 → Nat
  | [] => 0
  | b :: l => bitN b + 2 * octN l
theorem octN_lt (l : List UInt8) : octN l < 2 ^ l.length := by
  induction l with
  | nil => simp [octN]
  | cons b l ih =>
    have : bitN b ≤ 1 := by unfold bitN; split <;> omega
    simp only [octN, List.length_cons, Nat.pow_succ]; omega
theorem octN_snoc (l : List UInt8) (b : UInt8) : octN (l ++ [b]) = octN l + bitN b * 2 ^ l.length := by
  induction l with
  | nil => simp [octN]
  | cons a l ih =>
    simp only [List.cons_append, octN, ih, List.length_cons, Nat.pow_succ]
    rw [Nat.mul_add, Nat.add_assoc]
    congr 2
    rw [← Nat.mul_assoc, Nat.mul_comm 2, Nat.mul_assoc, Nat.mul_comm 2]
/-- the byte of the m-th eight bits -/
def octAt (l : List UInt8) (m : Nat) : UInt8 := UInt8.ofNat (octN ((l.drop (8 * m)).take 8))
def toL (l : List UInt8) : List UInt8 := (List.range (l.length / 8)).map (octAt l)

theorem bit_val {s : ByteArray} {k : Nat} (hk : k < s.size) (h : s[k] = 48 ∨ s[k] = 49) : ((s[k].toNat : Int) - 48) % 256 = bitN s[k] := by
  rcases h with h | h <;> rw [h] <;> decide
theorem drop_cons (s : ByteArray) (k : Nat) (h : k < s.size) : s.data.toList.drop k = s[k] :: s.data.toList.drop (k + 1) := by
  rw [List.drop_eq_getElem_cons (by simpa using h)]; rfl

/-- the tail of an octet: j of its highest bits -/
theorem oct_step (s : ByteArray) (i j : Nat) (hj : j < 8) (h : i + 8 ≤ s.size) :
    octN ((s.data.toList.drop (i + (7 - j))).take (j + 1)) = bitN (s[i + (7 - j)]'(by omega)) + 2 * octN ((s.data.toList.drop (i + (8 - j))).take j) := by
  rw [drop_cons s (i + (7 - j)) (by omega), List.take_succ_cons, octN, show i + (7 - j) + 1 = i + (8 - j) by omega]

set_option maxRecDepth 100000 in
set_option maxHeartbeats 2000000 in
theorem l2To_any (s : ByteArray) (w : World) (h : okB s.data.toList = true) :
    Calls Try.prog 79 #[.string s] w fun e w' => e = .returned (.string ⟨(toL s.data.toList).toArray⟩) ∧ Below w.heap.size w w' := by
  have hsz := ok_size h
  obtain ⟨i0, hi, hz0, hz1, hz2⟩ := info_parts info_u8
  have HI := Lib.hid hi
  have HZ0 := Lib.hid hz0
  have HZ1 := Lib.hid hz1
  have HZ2 := Lib.hid hz2
  have HSL := Lib.hid (size_list s)
  have H := Lib.hid h
  clear hi hz0 hz1 hz2 h
  go_enter Try.func79, Try.ntmps79
  go_wp2
  go_loopw [3, 4, 5, 6] (fun v i _ _ wr => ∃ m : Nat, 8 * m ≤ s.size ∧ i = .int .i64 ((8 * m : Nat) : Int) ∧ OB 5 wr w.heap.size v ((List.range m).map (octAt s.data.toList)) ∧ Below w.heap.size w wr) (fun _ i _ _ _ => s.size + 8 - (intOf i).toNat)
  case atStart => exact ⟨0, by omega, rfl, .inr ⟨w.heap.size, 0, #[], (0, 0), rfl, Nat.le_refl _, heap_alloc_new w _, .inl rfl, Nat.le_refl _, by simp [maxLen], rfl, rfl⟩, (Below.refl _ _).alloc (Nat.le_refl _) _⟩
  case round =>
    obtain ⟨m, hm, rfl, hown, hb⟩ := hrel
    have HO := Lib.hid hown
    have HB := Lib.hid hb
    clear hown hb
    obtain ⟨i, hi8⟩ : ∃ i, 8 * m = i := ⟨_, rfl⟩
    rw [hi8] at hm ⊢
    have HI8 := Lib.hid hi8
    clear hi8
    by_cases hlt : i + 8 ≤ s.size
    · go_wp2_with fail
      go_loop [5, 6] (fun n k => ∃ j : Nat, j ≤ 8 ∧ k = .int .i64 (7 - (j : Int)) ∧ n = .int .i64 ((octN ((s.data.toList.drop (i + (8 - j))).take j) : Nat) : Int)) (fun _ k => (intOf k + 1).toNat)
      case atStart => exact ⟨0, by omega, rfl, by simp [octN]⟩
      case round =>
        obtain ⟨j, hj, rfl, rfl⟩ := hrel
        have hon := octN_lt ((s.data.toList.drop (i + (8 - j))).take j)
        have hol : ((s.data.toList.drop (i + (8 - j))).take j).length ≤ j := List.length_take_le _ _
        have hob : octN ((s.data.toList.drop (i + (8 - j))).take j) < 256 := Nat.lt_of_lt_of_le hon (by
          have : (2 : Nat) ^ ((s.data.toList.drop (i + (8 - j))).take j).length ≤ 2 ^ 8 := Nat.pow_le_pow_right (by omega) (by omega)
          exact this)
        by_cases hj8 : j < 8
        · obtain ⟨kx, hkx, hkl, hkj⟩ : ∃ kx : Nat, (i : Int) + (7 - (j : Int)) = (kx : Int) ∧ kx < s.size ∧ kx = i + (7 - j) := ⟨i + (7 - j), by omega, by omega, rfl⟩
          have HST := Lib.hid (show octN ((s.data.toList.drop (i + (8 - (j + 1)))).take (j + 1)) = bitN s[kx] + 2 * octN ((s.data.toList.drop (i + (8 - j))).take j) by
            subst hkj
            rw [← oct_step s i j hj8 hlt, show 8 - (j + 1) = 7 - j by omega])
          have hbit := ok_bit H.out hkl
          clear hkj
          generalize octN ((s.data.toList.drop (i + (8 - j))).take j) = O at *
          rcases hbit with hbit | hbit
          · have hc : (s[kx].toNat : Int) = 48 := by rw [hbit]; rfl
            have HV := Lib.hid (show bitN s[kx] = 0 by rw [hbit]; rfl)
            clear hbit
            go_wp2
            go_round
            case rel =>
              refine ⟨j + 1, by omega, val_int (by omega), ?_⟩
              rw [HST.out, HV.out]
              exact val_int (by omega)
            case measure => simp [intOf]; omega
          · have hc : (s[kx].toNat : Int) = 49 := by rw [hbit]; rfl
            have HV := Lib.hid (show bitN s[kx] = 1 by rw [hbit]; rfl)
            clear hbit
            go_wp2
            go_round
            case rel =>
              refine ⟨j + 1, by omega, val_int (by omega), ?_⟩
              rw [HST.out, HV.out]
              exact val_int (by omega)
            case measure => simp [intOf]; omega
        · obtain rfl : j = 8 := by omega
          have HOA := Lib.hid (show byteV (octAt s.data.toList m) = .int .u8 ((octN ((s.data.toList.drop (i + (8 - 8))).take 8) : Nat) : Int) by
            unfold byteV octAt
            rw [HI8.out, UInt8.toNat_ofNat', show i + (8 - 8) = i by omega]
            rw [show i + (8 - 8) = i by omega] at hob
            exact val_int (by omega))
          have hll : ((List.range m).map (octAt s.data.toList)).length + [octAt s.data.toList m].length ≤ 140737488355328 := by
            have := HI8.out
            simp; omega
          generalize octN ((s.data.toList.drop (i + (8 - 8))).take 8) = O at *
          go_wp2_with (at_builtin; refine wpList_append_OB _ rfl _ _ 22 rfl w.heap.size 5 i0 Try.underlying22 HI.out HZ0.out HZ1.out HZ2.out _ ((List.range m).map (octAt s.data.toList)) rfl (HO.out.alloc _) ⟨wr.heap.size, 0, none⟩ 1 1 [octAt s.data.toList m] rfl rfl (one_new wr _ _ _ HOA.out) hll (by have := HB.out.size; simp; omega) ?_; intro v2 w2 hown2 hg2)
          go_roundw
          case rel =>
            refine ⟨m + 1, by have := HI8.out; omega, val_int (by have := HI8.out; omega), ?_, ?_⟩
            · rw [List.range_succ, List.map_append]; exact hown2
            · exact (HB.out.alloc HB.out.size _).grown hg2 (by have := HB.out.size; simp; omega) (fun k hk => (HO.out.lt k hk).1)
          case measure => simp [intOf]; omega
    · go_wp2_with (refine wpList_string_of_OB _ rfl 22 9 5 _ rfl w.heap.size _ _ rfl Try.underlying22 Try.underlying5 Try.underlying9 HO.out ?_)
      go_ret
      refine ⟨?_, HB.out⟩
      rw [toL, HSL.out, show s.size / 8 = m by have := HI8.out; omega]
      rfl
end Go.Proofs.Ytekhakapmpdnaaa
/- Contract of BitsTo in the program. -/
namespace Go.Proofs.Ytekhakapmpdnaaa
open Go.ChangeShapes Go.WideShapes Go.ChangeAt Go.RowKit

/-- what is written behind k bits -/
def partL (l : List UInt8) (n k : Nat) : List UInt8 := (List.range n).map (octAt (l.take k))
theorem partL_len (l : List UInt8) (n k : Nat) : (partL l n k).length = n := by simp [partL]
theorem oct_cut (l : List UInt8) (k m : Nat) : ((l.take k).drop (8 * m)).take 8 = (l.drop (8 * m)).take (min 8 (k - 8 * m)) := by
  rw [List.drop_take, List.take_take]
theorem partL_zero (l : List UInt8) (n : Nat) : partL l n 0 = List.replicate n 0 := by
  apply List.ext_getElem
  · simp [partL]
  · intro i h1 h2
    simp [partL, octAt, octN]
/-- a nought turns nothing -/
theorem octN_take_nought (l : List UInt8) (k : Nat) (h : k < l.length) (hb : bitN l[k] = 0) : octN (l.take (k + 1)) = octN (l.take k) := by
  rw [List.take_succ_eq_append_getElem h, octN_snoc, hb]; simp
theorem octN_take_one (l : List UInt8) (k : Nat) (h : k < l.length) (hb : bitN l[k] = 1) : octN (l.take (k + 1)) = octN (l.take k) + 2 ^ k := by
  rw [List.take_succ_eq_append_getElem h, octN_snoc, hb, List.length_take, Nat.min_eq_left (by omega)]; simp
theorem octAt_other (l : List UInt8) (k m : Nat) (h : m ≠ k / 8) : octAt (l.take (k + 1)) m = octAt (l.take k) m := by
  unfold octAt
  rw [oct_cut, oct_cut]
  congr 3
  rcases Nat.lt_or_ge (8 * m) k with h1 | h1
  · rcases Nat.lt_or_ge k (8 * m + 8) with h2 | h2
    · exfalso; apply h; omega
    · omega
  · have : ¬ 8 * m = k := by intro h0; apply h; omega
    omega
theorem octAt_nought (l : List UInt8) (k : Nat) (hk : k < l.length) (hb : bitN l[k] = 0) : octAt (l.take (k + 1)) (k / 8) = octAt (l.take k) (k / 8) := by
  unfold octAt
  rw [oct_cut, oct_cut, show min 8 (k + 1 - 8 * (k / 8)) = k % 8 + 1 by omega, show min 8 (k - 8 * (k / 8)) = k % 8 by omega]
  rw [octN_take_nought _ _ (by simp; omega) (by rw [List.getElem_drop]; simpa [show 8 * (k / 8) + k % 8 = k by omega] using hb)]
theorem octAt_one (l : List UInt8) (k : Nat) (hk : k < l.length) (hb : bitN l[k] = 1) : octAt (l.take (k + 1)) (k / 8) = octAt (l.take k) (k / 8) ||| UInt8.ofNat (2 ^ (k % 8)) := by
  unfold octAt
  rw [oct_cut, oct_cut, show min 8 (k + 1 - 8 * (k / 8)) = k % 8 + 1 by omega, show min 8 (k - 8 * (k / 8)) = k % 8 by omega]
  rw [octN_take_one _ _ (by simp; omega) (by rw [List.getElem_drop]; simpa [show 8 * (k / 8) + k % 8 = k by omega] using hb)]
  have hlt := octN_lt ((l.drop (8 * (k / 8))).take (k % 8))
  have hlen : ((l.drop (8 * (k / 8))).take (k % 8)).length = k % 8 := by simp; omega
  rw [hlen] at hlt
  have hk8 : k % 8 < 8 := Nat.mod_lt _ (by omega)
  have hp : 2 ^ (k % 8) ≤ 2 ^ 7 := Nat.pow_le_pow_right (by omega) (by omega)
  generalize octN ((l.drop (8 * (k / 8))).take (k % 8)) = X at *
  apply UInt8.toNat_inj.1
  rw [UInt8.toNat_or]
  simp only [UInt8.toNat_ofNat']
  rw [Nat.mod_eq_of_lt (show X < 2 ^ 8 by omega), Nat.mod_eq_of_lt (show 2 ^ (k % 8) < 2 ^ 8 by omega), Nat.mod_eq_of_lt (show X + 2 ^ (k % 8) < 2 ^ 8 by omega)]
  have := Nat.two_pow_add_eq_or_of_lt hlt 1
  rw [Nat.mul_one] at this
  rw [Nat.add_comm, this, Nat.or_comm]
theorem partL_same (l : List UInt8) (n k : Nat) (hk : k < l.length) (hb : bitN l[k] = 0) : partL l n (k + 1) = partL l n k := by
  apply List.map_congr_left
  intro m _
  by_cases h : m = k / 8
  · subst h; exact octAt_nought l k hk hb
  · exact octAt_other l k m h
theorem partL_set (l : List UInt8) (n k : Nat) (hk : k < l.length) (hb : bitN l[k] = 1) : partL l n (k + 1) = (partL l n k).set (k / 8) (octAt (l.take k) (k / 8) ||| UInt8.ofNat (2 ^ (k % 8))) := by
  apply List.ext_getElem
  · simp [partL]
  · intro m h1 h2
    rw [List.getElem_set]
    by_cases h : k / 8 = m
    · rw [if_pos h]
      subst h
      simp only [partL, List.getElem_map, List.getElem_range]
      exact octAt_one l k hk hb
    · rw [if_neg h]
      simp only [partL, List.getElem_map, List.getElem_range]
      exact octAt_other l k m (Ne.symm h)
theorem or_pow : ∀ j, j < 8 → ((2 : Int) ^ j % 256 = ((2 ^ j : Nat) : Int) ∧ (UInt8.ofNat (2 ^ j)).toNat = 2 ^ j) := by decide
theorem or_byte (B : UInt8) (j : Nat) (hj : j < 8) : bits .or .u8 (B.toNat : Int) ((2 : Int) ^ j % 256) = ((B ||| UInt8.ofNat (2 ^ j)).toNat : Int) := by
  obtain ⟨h1, h2⟩ := or_pow j hj
  rw [h1, UInt8.toNat_or, h2]
  refine u8_or_nat _ _ (UInt8.toNat_lt B) ?_
  rw [← h2]; exact UInt8.toNat_lt _

set_option maxRecDepth 100000 in
set_option maxHeartbeats 4000000 in
theorem implTo_yes (s : ByteArray) (w : World) (h : okB s.data.toList = true) (h8 : s.size % 8 = 0) :
    Calls Try.prog 109 #[.string s] w fun e w' => e = .returned (.tuple #[.string ⟨(toL s.data.toList).toArray⟩, .bool true]) ∧ Below w.heap.size w w' := by
  have hsz := ok_size h
  have hmax : s.size ≤ maxLen := by unfold maxLen; omega
  obtain ⟨i0, hi, hz0, hz1, hz2⟩ := info_parts info_u8
  have hmk : ∀ u : World, (Instr.makeSlice 22 (.int .i64 ((s.size : Int) / 8)) (.int .i64 ((s.size : Int) / 8))).run Try.prog u = .ok (.slice (some ⟨u.heap.size, 0, none⟩) (s.size / 8) (s.size / 8)) (u.alloc (.cells (madeCells #[.int .u8 0] (s.size / 8)) 5)) := fun u => by
    have h := run_make (P := Try.prog) u 22 5 i0 (.int .u8 0) Try.underlying22 hi hz0 .i64 .i64 ((s.size : Int) / 8) ((s.size : Int) / 8) (by omega) (Int.le_refl _) (by rw [hz2]; omega) (by omega)
    have e : ((s.size : Int) / 8).toNat = s.size / 8 := by omega
    rw [e] at h
    simpa [hz1, Value.cells] using h
  have HSL := Lib.hid (size_list s)
  have H := Lib.hid h
  have hm8 : ((s.size : Int) % 8 != 0) = false := by rw [show (s.size : Int) % 8 = 0 by omega]; rfl
  clear hi hz0 hz1 hz2
  go_enter Try.func109, Try.ntmps109
  go_wp2_with (go_at_call 13; refine (implOk_any _ _ hmax).mono ?_; rintro e w' ⟨rfl, rfl⟩)
  clear hmk
  have HO0 := Lib.hid (OB_made 5 w (s.size / 8) (by unfold maxLen; omega) w.heap.size (Nat.le_refl _))
  go_loopw [5, 21] (fun _ i wr => ∃ k : Nat, k ≤ s.size ∧ i = .int .i64 k ∧ OB 5 wr w.heap.size (.slice (some ⟨w.heap.size, 0, none⟩) (s.size / 8) (s.size / 8)) (partL s.data.toList (s.size / 8) k) ∧ Below w.heap.size w wr) (fun _ i _ => s.size - (intOf i).toNat)
  case atStart => exact ⟨0, Nat.zero_le _, rfl, by rw [partL_zero]; exact HO0.out, (Below.refl _ _).alloc (Nat.le_refl _) _⟩
  case round =>
    obtain ⟨k, hk, rfl, hown, hb⟩ := hrel
    have HO := Lib.hid hown
    have HB := Lib.hid hb
    clear hown hb HO0
    by_cases hlt : k < s.size
    · have hkl : k < s.data.toList.length := by rw [HSL.out]; exact hlt
      have hbe : s[k] = s.data.toList[k] := rfl
      rcases ok_bit H.out hlt with hbit | hbit
      · have hc : ((s[k].toNat : Int) == 49) = false := by rw [hbit]; rfl
        have HV := Lib.hid (partL_same s.data.toList (s.size / 8) k hkl (by rw [← hbe, hbit]; rfl))
        clear hbit hbe
        go_wp2
        go_roundw
        case rel => exact ⟨k + 1, by omega, by go_num, by rw [HV.out]; exact HO.out, HB.out⟩
        case measure => simp [intOf]; omega
      · have hc : ((s[k].toNat : Int) == 49) = true := by rw [hbit]; rfl
        have HV := Lib.hid (partL_set s.data.toList (s.size / 8) k hkl (by rw [← hbe, hbit]; rfl))
        have hkm : k / 8 < (partL s.data.toList (s.size / 8) k).length := by rw [partL_len]; omega
        have hcell := HO.out.cellAt hkm
        have hfrz := HO.out.frozenAt hkm
        have hoct : (partL s.data.toList (s.size / 8) k)[k / 8] = octAt (s.data.toList.take k) (k / 8) := by simp [partL]
        rw [hoct] at hcell
        unfold byteV at hcell
        have HOB := Lib.hid (or_byte (octAt (s.data.toList.take k) (k / 8)) (k % 8) (Nat.mod_lt _ (by omega)))
        have hbl := UInt8.toNat_lt (octAt (s.data.toList.take k) (k / 8))
        generalize octAt (s.data.toList.take k) (k / 8) = B at *
        obtain ⟨m, hm⟩ : ∃ m, k / 8 = m := ⟨_, rfl⟩
        obtain ⟨j, hj⟩ : ∃ j, k % 8 = j := ⟨_, rfl⟩
        rw [hm] at hcell hfrz HV
        rw [hj] at HOB HV
        have hmi : (k : Int) / 8 = (m : Int) := by omega
        have hmi2 : (k : Int).tdiv 8 = (m : Int) := by rw [Int.tdiv_eq_ediv_of_nonneg (by omega)]; exact hmi
        have hji : (k : Int) % 8 = (j : Int) := by omega
        have hji2 : (k : Int).tmod 8 = (j : Int) := by rw [Int.tmod_eq_emod_of_nonneg (by omega)]; exact hji
        have hms : m < s.size / 8 := by omega
        have hmsI : (m : Int) < ((s.size / 8 : Nat) : Int) := by omega
        have hj8 : j < 8 := by omega
        clear hbit hbe hm hj hkm hoct
        go_wp2_with fail
        go_region
        have HO2 := Lib.hid ((HO.out.stored m (B ||| UInt8.ofNat (2 ^ j))).drew)
        have HB2 := Lib.hid ((HB.out.setCell (p := ⟨w.heap.size, m, none⟩) (Nat.le_refl _) (byteV (B ||| UInt8.ofNat (2 ^ j)))).drew)
        unfold byteV at HO2 HB2
        rw [HOB.out]
        go_wp2
        go_roundw
        case rel => exact ⟨k + 1, by omega, by go_num, by rw [HV.out]; exact HO2.out, HB2.out⟩
        case measure => simp [intOf]; omega
    · go_wp2_with (refine wpList_string_of_OB _ rfl 22 9 5 _ rfl w.heap.size _ _ rfl Try.underlying22 Try.underlying5 Try.underlying9 HO.out ?_)
      go_ret2
      refine ⟨?_, HB.out⟩
      have e : partL s.data.toList (s.size / 8) k = toL s.data.toList := by
        unfold partL toL
        rw [take_all s k (by omega), HSL.out]
      rw [e]
      rfl
theorem implTo_no (s : ByteArray) (w : World) (hs : s.size ≤ maxLen) (h : (okB s.data.toList && decide (s.size % 8 = 0)) = false) :
    Calls Try.prog 109 #[.string s] w fun e w' => e = .returned (.tuple #[.string ⟨#[]⟩, .bool false]) ∧ w = w' := by
  cases hk : okB s.data.toList with
  | false =>
    clear h
    go_enter Try.func109, Try.ntmps109
    go_wp2_with (go_at_call 13; refine (implOk_any _ _ hs).mono ?_; rintro e w' ⟨rfl, rfl⟩)
    go_ret2
    exact ⟨rfl, rfl⟩
  | true =>
    have h8 : ¬ s.size % 8 = 0 := by simpa [hk] using h
    have hm8 : ((s.size : Int) % 8 != 0) = true := by rw [bne_iff_ne]; omega
    clear h h8
    go_enter Try.func109, Try.ntmps109
    go_wp2_with (go_at_call 13; refine (implOk_any _ _ hs).mono ?_; rintro e w' ⟨rfl, rfl⟩)
    go_ret2
    exact ⟨rfl, rfl⟩
end Go.Proofs.Ytekhakapmpdnaaa
/- Plain facts on runs of ones, filling, pieces of bits. -/
namespace Go.Proofs.Ytekhakapmpdnaaa
open Go.ChangeShapes Go.WideShapes Go.ChangeAt Go.RowKit
theorem runStep_mono {p q : Nat × Nat} (h1 : p.1 ≤ q.1) (h2 : p.2 ≤ q.2) (b : UInt8) : (runStep p b).1 ≤ (runStep q b).1 ∧ (runStep p b).2 ≤ (runStep q b).2 := by
  unfold runStep
  split
  · simp; omega
  · simp; omega
theorem run_fold_mono (l : List UInt8) {p q : Nat × Nat} (h1 : p.1 ≤ q.1) (h2 : p.2 ≤ q.2) : (l.foldl runStep p).1 ≤ (l.foldl runStep q).1 ∧ (l.foldl runStep p).2 ≤ (l.foldl runStep q).2 := by
  induction l generalizing p q with
  | nil => exact ⟨h1, h2⟩
  | cons b l ih =>
    have := runStep_mono h1 h2 b
    exact ih this.1 this.2
theorem run_fold_ge (l : List UInt8) (p : Nat × Nat) : p.1 ≤ (l.foldl runStep p).1 := by
  induction l generalizing p with
  | nil => exact Nat.le_refl _
  | cons b l ih =>
    refine Nat.le_trans ?_ (ih _)
    unfold runStep; split <;> simp; omega
theorem run_fold_upper (m c : Nat) (l : List UInt8) (p q : Nat × Nat) (h1 : p.1 ≤ max m (c + q.1)) (h2 : p.2 ≤ c + q.2) (h3 : q.2 ≤ q.1) :
    (l.foldl runStep p).1 ≤ max m (c + (l.foldl runStep q).1) := by
  induction l generalizing p q with
  | nil => exact h1
  | cons b l ih =>
    rw [List.foldl_cons, List.foldl_cons]
    refine ih _ _ ?_ ?_ ?_
    · unfold runStep; split <;> simp <;> omega
    · unfold runStep; split <;> simp; omega
    · unfold runStep; split <;> simp; omega
theorem runS_le' (l : List UInt8) : (runS l).2 ≤ (runS l).1 := by
  unfold runS
  suffices h : ∀ (l : List UInt8) (p : Nat × Nat), p.2 ≤ p.1 → (l.foldl runStep p).2 ≤ (l.foldl runStep p).1 from h l (0, 0) (Nat.le_refl _)
  intro l
  induction l with
  | nil => intro p h; exact h
  | cons b l ih =>
    intro p h
    refine ih _ ?_
    unfold runStep; split <;> simp; omega
theorem run_append (a b : List UInt8) : runN a ≤ runN (a ++ b) ∧ runN b ≤ runN (a ++ b) ∧ runN (a ++ b) ≤ runN a + runN b := by
  have e : runN (a ++ b) = (b.foldl runStep (runS a)).1 := by simp [runN, runS, List.foldl_append]
  have h3 := run_fold_upper (runS a).1 (runS a).2 b (runS a) (0, 0) (by simp; omega) (by simp) (by simp)
  have h4 := runS_le' a
  refine ⟨by rw [e]; exact run_fold_ge b _, by rw [e]; exact (run_fold_mono b (Nat.zero_le _) (Nat.zero_le _)).1, ?_⟩
  rw [e]
  have : (b.foldl runStep (0, 0)).1 = runN b := rfl
  rw [this] at h3
  have : (runS a).1 = runN a := rfl
  omega
theorem ok_take {l : List UInt8} (h : okB l = true) (k : Nat) : okB (l.take k) = true := by
  unfold okB at h ⊢
  rw [Bool.and_eq_true, decide_eq_true_iff] at h ⊢
  refine ⟨List.all_eq_true.2 fun x hx => List.all_eq_true.1 h.1 x (List.mem_of_mem_take hx), ?_⟩
  rw [List.length_take]; omega
theorem ok_drop {l : List UInt8} (h : okB l = true) (k : Nat) : okB (l.drop k) = true := by
  unfold okB at h ⊢
  rw [Bool.and_eq_true, decide_eq_true_iff] at h ⊢
  refine ⟨List.all_eq_true.2 fun x hx => List.all_eq_true.1 h.1 x (List.mem_of_mem_drop hx), ?_⟩
  rw [List.length_drop]; omega
theorem ext_take (s : ByteArray) (k : Nat) : (s.extract 0 k).data.toList = s.data.toList.take k := by
  rw [Lib.extract_data]; simp
theorem ext_drop (s : ByteArray) (k : Nat) : (s.extract k s.size).data.toList = s.data.toList.drop k := by
  rw [Lib.extract_data, List.take_of_length_le (by simp)]
theorem runN_ones (n : Nat) : runN (List.replicate n 49) = n := by
  have h : ∀ n m, ((List.replicate n (49 : UInt8)).foldl runStep (m, m)) = (m + n, m + n) := by
    intro n
    induction n with
    | zero => intro m; rfl
    | succ n ih =>
      intro m
      rw [List.replicate_succ, List.foldl_cons, show runStep (m, m) 49 = (m + 1, m + 1) by simp [runStep], ih]
      simp; omega
  have := h n 0
  simp at this
  simp [runN, runS, this]
theorem fill_len (l : List UInt8) : (fillL l).length % 8 = 0 ∧ l.length ≤ (fillL l).length ∧ (fillL l).length < l.length + 8 := by
  unfold fillL lackN
  simp only [List.length_append, List.length_replicate]
  omega
theorem fill_ok {l : List UInt8} (h : okB l = true) : okB (fillL l) = true := by
  have hf := fill_len l
  unfold okB at h ⊢
  rw [Bool.and_eq_true, decide_eq_true_iff] at h ⊢
  refine ⟨?_, by omega⟩
  unfold fillL
  rw [List.all_append, h.1]
  simp [bitB]
theorem fill_idem (l : List UInt8) : fillL (fillL l) = fillL l := by
  have hf := (fill_len l).1
  have e : ∀ m : List UInt8, m.length % 8 = 0 → fillL m = m := fun m hm => by
    unfold fillL
    rw [show lackN m.length = 0 by unfold lackN; omega]
    simp
  exact e _ hf
theorem fill_take (l : List UInt8) : (fillL l).take l.length = l := by unfold fillL; rw [List.take_left]
theorem fill_drop (l : List UInt8) : (fillL l).drop l.length = List.replicate ((fillL l).length - l.length) 49 := by
  unfold fillL; rw [List.drop_left, List.length_append, List.length_replicate]
  congr 1; omega
end Go.Proofs.Ytekhakapmpdnaaa
