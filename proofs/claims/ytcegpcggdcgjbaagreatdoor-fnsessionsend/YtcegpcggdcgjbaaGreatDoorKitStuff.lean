/- Contracts of the states that stuff bits, in the program. -/
import Derived.Test.YtcegpcggdcgjbaaGreatDoorKitBits
import Derived.Test.YtcegpcggdcgjbaaGreatDoorKitA
namespace Go.Proofs.YtcegpcggdcgjbaaGreatDoor
open Go.ChangeShapes Go.WideShapes Go.ChangeAt Go.RowKit
/-- a step of stuffing: what is written for a bit behind n ones, and how many ones are behind then -/
def putStep (n : Nat) (c : UInt8) : List UInt8 × Nat := if c = 48 then ([48], 0) else if n + 1 = 5 then ([49, 48], 0) else ([49], n + 1)
def getStep (n : Nat) (c : UInt8) : List UInt8 × Nat := if n = 5 then ([], 0) else if c = 49 then ([49], n + 1) else ([48], 0)
def stuffGo (f : Nat → UInt8 → List UInt8 × Nat) (p : List UInt8 × Nat) (c : UInt8) : List UInt8 × Nat := (p.1 ++ (f p.2 c).1, (f p.2 c).2)
def stuffS (f : Nat → UInt8 → List UInt8 × Nat) (l : List UInt8) : List UInt8 × Nat := l.foldl (stuffGo f) ([], 0)
theorem stuffS_snoc (f : Nat → UInt8 → List UInt8 × Nat) (l : List UInt8) (c : UInt8) : stuffS f (l ++ [c]) = stuffGo f (stuffS f l) c := by simp [stuffS, List.foldl_append]
theorem put_le (n : Nat) (c : UInt8) (h : n ≤ 4) : (putStep n c).1.length ≤ 2 ∧ (putStep n c).2 ≤ 4 := by
  unfold putStep; split
  · simp
  · split <;> simp; omega
theorem get_le (n : Nat) (c : UInt8) (h : n ≤ 5) : (getStep n c).1.length ≤ 2 ∧ (getStep n c).2 ≤ 5 := by
  unfold getStep; split
  · simp
  · split <;> simp; omega
theorem stuffS_le {b : Nat} (f : Nat → UInt8 → List UInt8 × Nat) (hf : ∀ n c, n ≤ b → (f n c).1.length ≤ 2 ∧ (f n c).2 ≤ b) (l : List UInt8) : (stuffS f l).1.length ≤ 2 * l.length ∧ (stuffS f l).2 ≤ b := by
  unfold stuffS
  suffices h : ∀ (l : List UInt8) (p : List UInt8 × Nat) (m : Nat), p.1.length ≤ m → p.2 ≤ b → (l.foldl (stuffGo f) p).1.length ≤ m + 2 * l.length ∧ (l.foldl (stuffGo f) p).2 ≤ b by
    simpa using h l ([], 0) 0 (by simp) (by simp)
  intro l
  induction l with
  | nil => intro p m h1 h2; exact ⟨by simpa using h1, h2⟩
  | cons c l ih =>
    intro p m h1 h2
    have := hf p.2 c h2
    have h3 := ih (stuffGo f p c) (m + 2) (by simp [stuffGo]; omega) (by simp [stuffGo]; omega)
    rw [List.foldl_cons, List.length_cons]
    exact ⟨by omega, h3.2⟩

theorem putMake (n : Int) (w : World) :
    Calls Tryz.prog 134 #[.int .i64 n] w fun e w' => e = .returned (.func (.func 148) #[] #[.pointer (some ⟨w.heap.size, 0, none⟩)]) ∧ w' = w.alloc (.cells #[.int .i64 n] 3) := by
  have hmf : ∀ (fn : Fn) (first cap : Array Value) (w : World), (Instr.makeFunc fn first cap).run Tryz.prog w = .ok (.func fn first cap) w := fun _ _ _ _ => rfl
  go_enter Tryz.func134, Tryz.ntmps134
  go_wp2
  go_ret
  exact ⟨rfl, rfl⟩

theorem putBehind_any (n : Nat) (c : UInt8) (x : Nat) (t : TypeId) (w : World) (hn : n ≤ 5) (hx : w.heap[x]? = some (.cells #[.int .i64 n] t (0, 0))) :
    Calls Tryz.prog 148 #[.int .u8 c.toNat, .pointer (some ⟨x, 0, none⟩)] w fun e w' => e = .returned (.tuple #[.string ⟨(putStep n c).1.toArray⟩, .func (.func 148) #[] #[.pointer (some ⟨w.heap.size, 0, none⟩)]]) ∧ w' = w.alloc (.cells #[.int .i64 ((putStep n c).2 : Int)] 3) := by
  have c0 : w.cell? ⟨x, 0, none⟩ = some (.int .i64 n) := by rw [cell_of_row w x 0 _ _ _ hx]; rfl
  clear hx
  by_cases h48 : c = 48
  · have hb : ((c.toNat : Int) == 48) = true := by rw [h48]; rfl
    have HP := Lib.hid (show putStep n c = ([48], 0) by simp [putStep, h48])
    clear h48
    go_enter Tryz.func148, Tryz.ntmps148
    go_wp2_with (go_at_call 134; refine (putMake _ _).mono ?_; rintro e w' ⟨rfl, rfl⟩)
    go_ret2
    rw [HP.out]
    exact ⟨rfl, rfl⟩
  · have hb : ((c.toNat : Int) == 48) = false := beq_eq_false_iff_ne.2 (fun h => h48 (by apply UInt8.toNat_inj.1; show c.toNat = 48; omega))
    by_cases h5 : n + 1 = 5
    · have hb5 : ((n : Int) + 1 == 5) = true := by rw [beq_iff_eq]; omega
      have HP := Lib.hid (show putStep n c = ([49, 48], 0) by simp [putStep, h48, h5])
      clear h48 h5
      go_enter Tryz.func148, Tryz.ntmps148
      go_wp2_with (go_at_call 134; refine (putMake _ _).mono ?_; rintro e w' ⟨rfl, rfl⟩)
      go_ret2
      rw [HP.out]
      exact ⟨rfl, rfl⟩
    · have hb5 : ((n : Int) + 1 == 5) = false := beq_eq_false_iff_ne.2 (by omega)
      have HP := Lib.hid (show putStep n c = ([49], n + 1) by simp [putStep, h48, h5])
      clear h48 h5
      go_enter Tryz.func148, Tryz.ntmps148
      go_wp2_with (go_at_call 134; refine (putMake _ _).mono ?_; rintro e w' ⟨rfl, rfl⟩)
      go_ret2
      rw [HP.out]
      exact ⟨rfl, rfl⟩
theorem zero_builder (w : World) : (zeroValue 42).run Tryz.prog w = .ok (.agg #[.pointer none, .slice none 0 0]) w := by kernel_rfl
theorem box_kept {b x : Nat} {w w' : World} {v : Value} (h : NB b w w') (hx : w.heap[x]? = some (.cells #[v] 3 (0, 0))) (hne : x ≠ b) : w'.heap[x]? = some (.cells #[v] 3 (0, 0)) := by
  rw [h.2 x (Array.getElem?_eq_some_iff.1 hx).1 hne (fun cs fz he => by
    rw [hx] at he
    injection he with he
    injection he with _ ht
    exact absurd ht (by decide))]
  exact hx

set_option maxRecDepth 100000 in
set_option maxHeartbeats 2000000 in
theorem putWrite (s : ByteArray) (x0 : Nat) (w : World) (hs : s.size ≤ 1000000000000) (hx0 : w.heap[x0]? = some (.cells #[.int .i64 0] 3 (0, 0))) :
    Calls Tryz.prog 135 #[.func (.func 148) #[] #[.pointer (some ⟨x0, 0, none⟩)], .string s] w fun e w' => e = .returned (.string ⟨(stuffS putStep s.data.toList).1.toArray⟩) ∧ Below w.heap.size w w' := by
  have hz := zero_builder
  have HX0 := Lib.hid hx0
  have hx0l : x0 < w.heap.size := (Array.getElem?_eq_some_iff.1 hx0).1
  have HSL := Lib.hid (size_list s)
  clear hx0
  go_enter Tryz.func135, Tryz.ntmps135
  go_wp2
  clear hz
  have HB0 := Lib.hid (BU.fresh w)
  go_loopw [0, 6, 7, 10] (fun st _ _ i wr => ∃ (k x : Nat), k ≤ s.size ∧ i = .int .i64 k ∧ st = .func (.func 148) #[] #[.pointer (some ⟨x, 0, none⟩)] ∧ x ≠ w.heap.size ∧ wr.heap[x]? = some (.cells #[.int .i64 ((stuffS putStep (s.data.toList.take k)).2 : Int)] 3 (0, 0)) ∧ BU wr w.heap.size w.heap.size (stuffS putStep (s.data.toList.take k)).1 ∧ Below w.heap.size w wr) (fun _ _ _ i _ => s.size - (intOf i).toNat)
  case atStart => exact ⟨0, x0, Nat.zero_le _, rfl, rfl, by omega, by rw [Below.heap_alloc w _ x0 hx0l]; exact HX0.out, HB0.out, (Below.refl _ _).alloc (Nat.le_refl _) _⟩
  case round =>
    obtain ⟨k, x, hk, rfl, rfl, hxb, hbox, hbu, hbel⟩ := hrel
    have HBox := Lib.hid hbox
    have HBU := Lib.hid hbu
    have HBel := Lib.hid hbel
    have hsz := hbel.size
    have hle := stuffS_le putStep put_le (s.data.toList.take k)
    have hl2 : (s.data.toList.take k).length ≤ k := List.length_take_le _ _
    clear hbox hbu hbel
    by_cases hlt : k < s.size
    · have HS := Lib.hid (show stuffS putStep (s.data.toList.take (k + 1)) = stuffGo putStep (stuffS putStep (s.data.toList.take k)) s[k] by rw [snoc_take s k hlt, stuffS_snoc])
      generalize stuffS putStep (s.data.toList.take k) = p at *
      obtain ⟨out, n⟩ := p
      simp only at hle HBox HBU
      have hst := put_le n s[k] hle.2
      go_wp2_with fail
      refine (putBehind_any n s[k] x _ wr (by omega) HBox.out).mono ?_
      rintro e w1 ⟨rfl, rfl⟩
      have hbu1 : BU (wr.alloc (.cells #[.int .i64 ((putStep n s[k]).2 : Int)] 3)) w.heap.size w.heap.size out := by
        obtain ⟨h1, p, v, hb, hp, hrb⟩ := HBU.out
        exact ⟨h1, p, v, (Below.heap_alloc wr _ _ HBU.out.lt).trans hb, hp, hrb.alloc _⟩
      have hnew := heap_alloc_new wr (.cells #[.int .i64 ((putStep n s[k]).2 : Int)] 3)
      have hbel1 := HBel.out.alloc hsz (.cells #[.int .i64 ((putStep n s[k]).2 : Int)] 3)
      have hbl := HBU.out.lt
      generalize wr.alloc (.cells #[.int .i64 ((putStep n s[k]).2 : Int)] 3) = w2 at *
      have HBU1 := Lib.hid hbu1
      have HNew := Lib.hid hnew
      have HBel1 := Lib.hid hbel1
      have hsz2 := hbel1.size
      clear hbu1 hnew hbel1
      obtain ⟨T, hT⟩ : ∃ T : ByteArray, T = ⟨(putStep n s[k]).1.toArray⟩ := ⟨_, rfl⟩
      have hTs : T.size ≤ 2 := by rw [hT]; show (putStep n s[k]).1.toArray.size ≤ 2; simpa using hst.1
      have HT := Lib.hid (show T.data.toList = (putStep n s[k]).1 by rw [hT])
      rw [← hT]
      clear hT
      go_wp2_with fail
      refine (writeString_any w.heap.size w.heap.size out T _ HBU1.out (by omega) (by omega)).mono ?_
      rintro e w3 ⟨rfl, hbu3, hbel3, hnb3⟩
      have HBU3 := Lib.hid hbu3
      have HBel3 := Lib.hid (HBel1.out.trans hbel3)
      have HBox3 := Lib.hid (box_kept hnb3 HNew.out (by omega))
      clear hbu3 hbel3 hnb3
      go_wp2
      go_roundw
      case rel =>
        refine ⟨k + 1, _, by omega, by go_num, rfl, by omega, ?_, ?_, HBel3.out⟩
        · rw [HS.out]; exact HBox3.out
        · rw [HS.out, stuffGo, ← HT.out]; exact HBU3.out
      case measure => simp [intOf]; omega
    · have HE := Lib.hid (take_all s k (by omega))
      go_wp2_with fail
      refine (string_any _ _ _ _ HBU.out (by omega)).mono ?_
      rintro e w1 ⟨rfl, hb1⟩
      have HB1 := Lib.hid (HBel.out.trans hb1)
      clear hb1
      go_wp2
      go_ret
      exact ⟨by rw [HE.out]; rfl, HB1.out⟩

end Go.Proofs.YtcegpcggdcgjbaaGreatDoor
/- Plain facts of stuffing: what is put and what is read back, on lists of bytes. -/
namespace Go.Proofs.YtcegpcggdcgjbaaGreatDoor
open Go.ChangeShapes Go.WideShapes Go.ChangeAt Go.RowKit
def recS (f : Nat → UInt8 → List UInt8 × Nat) : Nat → List UInt8 → List UInt8
  | _, [] => []
  | n, c :: l => (f n c).1 ++ recS f (f n c).2 l
theorem fold_rec (f : Nat → UInt8 → List UInt8 × Nat) (l : List UInt8) : ∀ p : List UInt8 × Nat, (l.foldl (stuffGo f) p).1 = p.1 ++ recS f p.2 l := by
  induction l with
  | nil => intro p; simp [recS]
  | cons c l ih => intro p; rw [List.foldl_cons, ih]; simp [recS, stuffGo]
theorem stuffS_rec (f : Nat → UInt8 → List UInt8 × Nat) (l : List UInt8) : (stuffS f l).1 = recS f 0 l := by
  have := fold_rec f l ([], 0)
  simpa [stuffS] using this
abbrev putR := recS putStep 0
abbrev getR := recS getStep 0
/-- whether each five ones have a nought behind, from so many ones on -/
def gGood : Nat → List UInt8 → Bool
  | n, [] => decide (n < 5)
  | n, c :: l => if n = 5 then (c == 48) && gGood 0 l else gGood (getStep n c).2 l
theorem bitB_iff (c : UInt8) : bitB c = true ↔ c = 48 ∨ c = 49 := by simp [bitB]
theorem put_nought (n : Nat) (l : List UInt8) : recS putStep n (48 :: l) = 48 :: recS putStep 0 l := by simp [recS, putStep]
theorem put_one (n : Nat) (h : n + 1 ≠ 5) (l : List UInt8) : recS putStep n (49 :: l) = 49 :: recS putStep (n + 1) l := by simp [recS, putStep, h]
theorem put_five (l : List UInt8) : recS putStep 4 (49 :: l) = 49 :: 48 :: recS putStep 0 l := by simp [recS, putStep]
theorem get_nought (n : Nat) (h : n ≠ 5) (l : List UInt8) : recS getStep n (48 :: l) = 48 :: recS getStep 0 l := by simp [recS, getStep, h]
theorem get_one (n : Nat) (h : n ≠ 5) (l : List UInt8) : recS getStep n (49 :: l) = 49 :: recS getStep (n + 1) l := by simp [recS, getStep, h]
theorem get_five (c : UInt8) (l : List UInt8) : recS getStep 5 (c :: l) = recS getStep 0 l := by simp [recS, getStep]
theorem put_get (l : List UInt8) (hl : l.all bitB = true) : (∀ n, n ≤ 4 → (recS putStep n (recS getStep n l) = l ↔ gGood n l = true)) ∧ (48 :: recS putStep 0 (recS getStep 5 l) = l ↔ gGood 5 l = true) := by
  induction l with
  | nil => exact ⟨fun n hn => by simp [recS, gGood]; omega, by simp [recS, gGood]⟩
  | cons c l ih =>
    rw [List.all_cons, Bool.and_eq_true] at hl
    obtain ⟨hc, hl⟩ := hl
    obtain ⟨i1, i2⟩ := ih hl
    constructor
    · intro n hn
      have hn5 : n ≠ 5 := by omega
      rcases (bitB_iff c).1 hc with rfl | rfl
      · rw [get_nought n hn5, put_nought]
        have : gGood n (48 :: l) = gGood 0 l := by simp [gGood, hn5, getStep]
        rw [this, List.cons.injEq, ← i1 0 (by omega)]
        simp
      · rw [get_one n hn5]
        have : gGood n (49 :: l) = gGood (n + 1) l := by simp [gGood, hn5, getStep]
        rw [this]
        by_cases h4 : n = 4
        · subst h4
          rw [put_five, List.cons.injEq, ← i2]
          simp
        · rw [put_one n (by omega), List.cons.injEq, ← i1 (n + 1) (by omega)]
          simp
    · rw [get_five, List.cons.injEq, i1 0 (by omega)]
      simp only [gGood, if_true, Bool.and_eq_true, beq_iff_eq]
      constructor
      · rintro ⟨h1, h2⟩; exact ⟨h1.symm, h2⟩
      · rintro ⟨h1, h2⟩; exact ⟨h1.symm, h2⟩
theorem get_put (l : List UInt8) (hl : l.all bitB = true) : ∀ n, n ≤ 4 → recS getStep n (recS putStep n l) = l := by
  induction l with
  | nil => intro n _; rfl
  | cons c l ih =>
    rw [List.all_cons, Bool.and_eq_true] at hl
    obtain ⟨hc, hl⟩ := hl
    intro n hn
    have hn5 : n ≠ 5 := by omega
    rcases (bitB_iff c).1 hc with rfl | rfl
    · rw [put_nought, get_nought n hn5, ih hl 0 (by omega)]
    · by_cases h4 : n = 4
      · subst h4
        rw [put_five, get_one 4 (by omega), get_five, ih hl 0 (by omega)]
      · rw [put_one n (by omega), get_one n hn5, ih hl (n + 1) (by omega)]
theorem recS_bits (f : Nat → UInt8 → List UInt8 × Nat) (hf : ∀ n c, (f n c).1.all bitB = true) (l : List UInt8) : ∀ n, (recS f n l).all bitB = true := by
  induction l with
  | nil => intro n; rfl
  | cons c l ih => intro n; rw [recS, List.all_append, hf, ih]; rfl
theorem put_cases (n : Nat) (c : UInt8) : putStep n c = ([48], 0) ∨ (n + 1 = 5 ∧ putStep n c = ([49, 48], 0)) ∨ (n + 1 ≠ 5 ∧ putStep n c = ([49], n + 1)) := by
  unfold putStep
  by_cases h : c = 48
  · exact .inl (if_pos h)
  · rw [if_neg h]
    by_cases h5 : n + 1 = 5
    · exact .inr (.inl ⟨h5, if_pos h5⟩)
    · exact .inr (.inr ⟨h5, if_neg h5⟩)
theorem get_cases (n : Nat) (c : UInt8) : getStep n c = ([48], 0) ∨ getStep n c = ([], 0) ∨ getStep n c = ([49], n + 1) := by
  unfold getStep
  by_cases h5 : n = 5
  · exact .inr (.inl (if_pos h5))
  · rw [if_neg h5]
    by_cases h : c = 49
    · exact .inr (.inr (if_pos h))
    · exact .inl (if_neg h)
theorem put_bits (l : List UInt8) (n : Nat) : (recS putStep n l).all bitB = true := recS_bits _ (fun n c => by
  rcases put_cases n c with h | ⟨_, h⟩ | ⟨_, h⟩ <;> rw [h] <;> rfl) l n
theorem get_bits (l : List UInt8) (n : Nat) : (recS getStep n l).all bitB = true := recS_bits _ (fun n c => by
  rcases get_cases n c with h | h | h <;> rw [h] <;> rfl) l n
theorem put_lenS (l : List UInt8) : ∀ n, n ≤ 4 → l.length ≤ (recS putStep n l).length ∧ 5 * (recS putStep n l).length ≤ 6 * l.length + n := by
  induction l with
  | nil => intro n _; simp [recS]
  | cons c l ih =>
    intro n hn
    rw [recS, List.length_append, List.length_cons]
    rcases put_cases n c with h | ⟨_, h⟩ | ⟨_, h⟩ <;> rw [h] <;> simp only [List.length_cons, List.length_nil]
    · have := ih 0 (by omega); omega
    · have := ih 0 (by omega); omega
    · have := ih (n + 1) (by omega); omega
theorem get_len (l : List UInt8) : ∀ n, (recS getStep n l).length ≤ l.length := by
  induction l with
  | nil => intro n; simp [recS]
  | cons c l ih =>
    intro n
    rw [recS, List.length_append, List.length_cons]
    rcases get_cases n c with h | h | h <;> rw [h] <;> simp only [List.length_cons, List.length_nil]
    · have := ih 0; omega
    · have := ih 0; omega
    · have := ih (n + 1); omega
theorem put_run (l : List UInt8) (hl : l.all bitB = true) : ∀ n m, n ≤ 4 → m ≤ 5 → ((recS putStep n l).foldl runStep (m, n)).1 ≤ 5 := by
  induction l with
  | nil => intro n m _ hm; exact hm
  | cons c l ih =>
    rw [List.all_cons, Bool.and_eq_true] at hl
    obtain ⟨hc, hl⟩ := hl
    intro n m hn hm
    rcases (bitB_iff c).1 hc with rfl | rfl
    · rw [put_nought, List.foldl_cons]
      exact ih hl 0 m (by omega) hm
    · by_cases h4 : n = 4
      · subst h4
        rw [put_five, List.foldl_cons, List.foldl_cons]
        exact ih hl 0 (max m 5) (by omega) (by omega)
      · rw [put_one n (by omega), List.foldl_cons]
        exact ih hl (n + 1) (max m (n + 1)) (by omega) (by omega)
theorem put_none (l : List UInt8) (hl : l.all bitB = true) : ∀ n m, n ≤ 4 → m ≤ 4 → ((recS putStep n l).length = l.length ↔ (l.foldl runStep (m, n)).1 < 5) := by
  induction l with
  | nil => intro n m _ hm; simp [recS]; omega
  | cons c l ih =>
    rw [List.all_cons, Bool.and_eq_true] at hl
    obtain ⟨hc, hl⟩ := hl
    intro n m hn hm
    rcases (bitB_iff c).1 hc with rfl | rfl
    · rw [put_nought, List.foldl_cons, List.length_cons, List.length_cons]
      have := ih hl 0 m (by omega) hm
      rw [show runStep (m, n) 48 = (m, 0) from rfl, ← this]
      omega
    · by_cases h4 : n = 4
      · subst h4
        rw [put_five, List.foldl_cons, List.length_cons, List.length_cons, List.length_cons]
        have h1 := (put_lenS l 0 (by omega)).1
        have h2 := run_fold_ge l (runStep (m, 4) 49)
        have h3 : (runStep (m, 4) 49).1 ≥ 5 := by show max m 5 ≥ 5; omega
        omega
      · rw [put_one n (by omega), List.foldl_cons, List.length_cons, List.length_cons]
        have := ih hl (n + 1) (max m (n + 1)) (by omega) (by omega)
        rw [show runStep (m, n) 49 = (max m (n + 1), n + 1) from rfl, ← this]
        omega
/-- what StuffPut answers, and StuffGet -/
def putA (l : List UInt8) : List UInt8 := if okB l = true then putR l else []
def getAS (l : List UInt8) : List UInt8 := if putA (getR l) = l then getR l else []
def getOk (l : List UInt8) : Bool := decide (putA (getR l) = l)
theorem ok_bits {l : List UInt8} (h : okB l = true) : l.all bitB = true := by unfold okB at h; exact (Bool.and_eq_true_iff.1 h).1
theorem ok_len {l : List UInt8} (h : okB l = true) : l.length ≤ 1200 := by unfold okB at h; simpa using (Bool.and_eq_true_iff.1 h).2
theorem ok_of {l : List UInt8} (h : l.all bitB = true) (h2 : l.length ≤ 1200) : okB l = true := by unfold okB; rw [h]; simpa using h2
/-- the model's way to decide it -/
theorem getOk_iff (l : List UInt8) : getOk l = true ↔ l.all bitB = true ∧ l.length ≤ 1440 ∧ gGood 0 l = true ∧ okB (getR l) = true := by
  unfold getOk
  rw [decide_eq_true_iff]
  constructor
  · intro h
    by_cases hk : okB (getR l) = true
    · rw [putA, if_pos hk] at h
      have hb : l.all bitB = true := by rw [← h]; exact put_bits _ _
      refine ⟨hb, ?_, ((put_get l hb).1 0 (by omega)).1 h, hk⟩
      have h1 := (put_lenS (getR l) 0 (by omega)).2
      have h2 := ok_len hk
      rw [show recS putStep 0 (getR l) = l from h] at h1
      omega
    · rw [putA, if_neg hk] at h
      subst h
      exact absurd rfl hk
  · rintro ⟨h1, h2, h3, h4⟩
    rw [putA, if_pos h4]
    exact ((put_get l h1).1 0 (by omega)).2 h3
theorem getOk_put {l : List UInt8} (h : okB l = true) : putA (getR (putR l)) = putR l ∧ getR (putR l) = l := by
  have h1 : getR (putR l) = l := get_put l (ok_bits h) 0 (by omega)
  exact ⟨by rw [h1, putA, if_pos h], h1⟩
end Go.Proofs.YtcegpcggdcgjbaaGreatDoor
/- Contracts of StuffPut, StuffGet and StuffMany, in the program. -/
namespace Go.Proofs.YtcegpcggdcgjbaaGreatDoor
open Go.ChangeShapes Go.WideShapes Go.ChangeAt Go.RowKit
theorem putA_yes {l : List UInt8} (h : okB l = true) : putA l = putR l := if_pos h
theorem putA_no {l : List UInt8} (h : okB l = false) : putA l = [] := if_neg (by rw [h]; exact Bool.false_ne_true)
theorem putA_len (l : List UInt8) : 5 * (putA l).length ≤ 6 * l.length := by
  unfold putA; split
  · have := (put_lenS l 0 (by omega)).2; omega
  · simp
set_option maxHeartbeats 1000000 in
theorem implPut_any (s : ByteArray) (w : World) (hs : s.size ≤ 1000000000) :
    Calls Tryz.prog 105 #[.string s] w fun e w' => e = .returned (.string ⟨(putA s.data.toList).toArray⟩) ∧ Below w.heap.size w w' := by
  have hmax : s.size ≤ maxLen := by unfold maxLen; omega
  cases hk : okB s.data.toList with
  | false =>
    have HK := Lib.hid hk
    go_enter Tryz.func105, Tryz.ntmps105
    go_wp2_with (go_at_call 133; refine (implOk_any _ _ hmax).mono ?_; rintro e w' ⟨rfl, rfl⟩)
    go_ret
    exact ⟨by rw [putA_no HK.out]; rfl, Below.refl _ _⟩
  | true =>
    have HK := Lib.hid hk
    go_enter Tryz.func105, Tryz.ntmps105
    go_wp2_with (go_at_call 133; refine (implOk_any _ _ hmax).mono ?_; rintro e w' ⟨rfl, rfl⟩)
    refine (putMake _ _).mono ?_
    rintro e w' ⟨rfl, rfl⟩
    go_wp2_with fail
    refine (putWrite s w.heap.size _ (by omega) (heap_alloc_new w _)).mono ?_
    rintro e w2 ⟨rfl, hb⟩
    have HB := Lib.hid (((Below.refl _ _).alloc (Nat.le_refl _) _ : Below w.heap.size w (w.alloc _)).trans (hb.mono (by simp)))
    clear hb
    go_wp2
    go_ret
    exact ⟨by rw [putA_yes HK.out, stuffS_rec]; rfl, HB.out⟩
def manyAS (l : List UInt8) : Int := if okB l = true then ((putR l).length : Int) - (l.length : Int) else -1
end Go.Proofs.YtcegpcggdcgjbaaGreatDoor
/- Contracts of StuffPut, StuffGet and StuffMany, in the model. -/
namespace Go.Proofs.YtcegpcggdcgjbaaGreatDoor
open Go.ChangeShapes Go.WideShapes Go.ChangeAt Go.RowKit
theorem bit_at {s : ByteArray} (h : s.data.toList.all bitB = true) {k : Nat} (hk : k < s.size) : s[k] = 48 ∨ s[k] = 49 := by
  have := List.all_eq_true.1 h s[k] (by
    have : s[k] = s.data.toList[k]'(by simpa using hk) := rfl
    rw [this]; exact List.getElem_mem _)
  simpa [bitB] using this
set_option maxHeartbeats 4000000 in
theorem l3Put_any (s : ByteArray) (w : World) (hs : s.size ≤ 100000000) (h : s.data.toList.all bitB = true) :
    Calls Tryz.prog 92 #[.string s] w fun e w' => e = .returned (.string ⟨(putR s.data.toList).toArray⟩) ∧ Below w.heap.size w w' := by
  obtain ⟨i0, hi, hz0, hz1, hz2⟩ := info_parts info_u8
  have HI := Lib.hid hi
  have HZ0 := Lib.hid hz0
  have HZ1 := Lib.hid hz1
  have HZ2 := Lib.hid hz2
  have HSL := Lib.hid (size_list s)
  have H := Lib.hid h
  clear hi hz0 hz1 hz2 h
  go_enter Tryz.func92, Tryz.ntmps92
  go_wp2
  go_loopw [3, 4, 5] (fun v n i wr => ∃ k : Nat, k ≤ s.size ∧ i = .int .i64 k ∧ n = .int .i64 ((stuffS putStep (s.data.toList.take k)).2 : Int) ∧ OB 5 wr w.heap.size v (stuffS putStep (s.data.toList.take k)).1 ∧ Below w.heap.size w wr) (fun _ _ i _ => s.size - (intOf i).toNat)
  case atStart => exact ⟨0, by omega, rfl, rfl, .inr ⟨w.heap.size, 0, #[], (0, 0), rfl, Nat.le_refl _, heap_alloc_new w _, .inl rfl, Nat.le_refl _, by simp [maxLen], rfl, rfl⟩, (Below.refl _ _).alloc (Nat.le_refl _) _⟩
  case round =>
    obtain ⟨k, hk, rfl, rfl, hown, hb⟩ := hrel
    have HO := Lib.hid hown
    have HB := Lib.hid hb
    have hle := stuffS_le putStep put_le (s.data.toList.take k)
    have hl2 : (s.data.toList.take k).length ≤ k := List.length_take_le _ _
    clear hown hb
    by_cases hlt : k < s.size
    · have HS := Lib.hid (show stuffS putStep (s.data.toList.take (k + 1)) = stuffGo putStep (stuffS putStep (s.data.toList.take k)) s[k] by rw [snoc_take s k hlt, stuffS_snoc])
      generalize stuffS putStep (s.data.toList.take k) = p at *
      obtain ⟨out, n⟩ := p
      simp only at hle HO
      have hll : out.length + [s[k]].length ≤ 140737488355328 := by simp; omega
      rcases bit_at H.out hlt with hbit | hbit
      · have hc : (s[k].toNat : Int) = 48 := by rw [hbit]; rfl
        have HOA := Lib.hid (show byteV s[k] = .int .u8 48 by rw [hbit]; rfl)
        have HV := Lib.hid (show putStep n s[k] = ([s[k]], 0) by simp [putStep, hbit])
        clear hbit
        go_wp2_with (at_builtin; refine wpList_append_OB _ rfl _ _ 22 rfl w.heap.size 5 i0 Tryz.underlying22 HI.out HZ0.out HZ1.out HZ2.out _ out rfl (HO.out.alloc _) ⟨wr.heap.size, 0, none⟩ 1 1 [s[k]] rfl rfl (one_new wr _ _ _ HOA.out) hll (by have := HB.out.size; simp; omega) ?_; intro v2 w2 hown2 hg2)
        go_roundw
        case rel =>
          refine ⟨k + 1, by omega, by go_num, ?_, ?_, ?_⟩
          · rw [HS.out, stuffGo, HV.out]; rfl
          · rw [HS.out, stuffGo, HV.out]; exact hown2
          · exact (HB.out.alloc HB.out.size _).grown hg2 (by have := HB.out.size; simp; omega) (fun k hk => (HO.out.lt k hk).1)
        case measure => simp [intOf]; omega
      · have hc : (s[k].toNat : Int) = 49 := by rw [hbit]; rfl
        have HOA := Lib.hid (show byteV s[k] = .int .u8 49 by rw [hbit]; rfl)
        by_cases h5 : n + 1 = 5
        · have HV := Lib.hid (show putStep n s[k] = ([s[k], 48], 0) by simp [putStep, hbit, h5])
          have hn5 : ((n : Int) + 1 == 5) = true := by rw [beq_iff_eq]; omega
          clear hbit h5
          go_wp2_with (first | (at_builtin; refine wpList_append_OB _ rfl _ _ 22 rfl w.heap.size 5 i0 Tryz.underlying22 HI.out HZ0.out HZ1.out HZ2.out _ out rfl (HO.out.alloc _) ⟨wr.heap.size, 0, none⟩ 1 1 [s[k]] rfl rfl (one_new wr _ _ _ HOA.out) hll (by have := HB.out.size; simp; omega) ?_; intro v2 w2 hown2 hg2; have HO2 := Lib.hid hown2; have HB2 := Lib.hid ((HB.out.alloc HB.out.size _).grown hg2 (by have := HB.out.size; simp; omega) (fun k hk => (HO.out.lt k hk).1)); clear hown2 hg2) | (at_builtin; refine wpList_append_OB _ rfl _ _ 22 rfl w.heap.size 5 i0 Tryz.underlying22 HI.out HZ0.out HZ1.out HZ2.out _ (out ++ [s[k]]) rfl (HO2.out.alloc _) ⟨w2.heap.size, 0, none⟩ 1 1 [48] rfl rfl (one_new w2 _ _ _ rfl) (by simp; omega) (by have := HB2.out.size; simp; omega) ?_; intro v3 w3 hown3 hg3))
          go_roundw
          case rel =>
            refine ⟨k + 1, by omega, by go_num, ?_, ?_, ?_⟩
            · rw [HS.out, stuffGo, HV.out]; rfl
            · rw [HS.out, stuffGo, HV.out]; simpa using hown3
            · exact (HB2.out.alloc HB2.out.size _).grown hg3 (by have := HB2.out.size; simp; omega) (fun k hk => (HO2.out.lt k hk).1)
          case measure => simp [intOf]; omega
        · have HV := Lib.hid (show putStep n s[k] = ([s[k]], n + 1) by simp [putStep, hbit, h5])
          have hn5 : ((n : Int) + 1 == 5) = false := beq_eq_false_iff_ne.2 (by omega)
          clear hbit h5
          go_wp2_with (at_builtin; refine wpList_append_OB _ rfl _ _ 22 rfl w.heap.size 5 i0 Tryz.underlying22 HI.out HZ0.out HZ1.out HZ2.out _ out rfl (HO.out.alloc _) ⟨wr.heap.size, 0, none⟩ 1 1 [s[k]] rfl rfl (one_new wr _ _ _ HOA.out) hll (by have := HB.out.size; simp; omega) ?_; intro v2 w2 hown2 hg2)
          go_roundw
          case rel =>
            refine ⟨k + 1, by omega, by go_num, ?_, ?_, ?_⟩
            · rw [HS.out, stuffGo, HV.out]; exact val_int (by simp)
            · rw [HS.out, stuffGo, HV.out]; exact hown2
            · exact (HB.out.alloc HB.out.size _).grown hg2 (by have := HB.out.size; simp; omega) (fun k hk => (HO.out.lt k hk).1)
          case measure => simp [intOf]; omega
    · have HE := Lib.hid (take_all s k (by omega))
      go_wp2_with (refine wpList_string_of_OB _ rfl 22 9 5 _ rfl w.heap.size _ _ rfl Tryz.underlying22 Tryz.underlying5 Tryz.underlying9 HO.out ?_)
      go_ret
      refine ⟨?_, HB.out⟩
      rw [HE.out, stuffS_rec]
      rfl
end Go.Proofs.YtcegpcggdcgjbaaGreatDoor
