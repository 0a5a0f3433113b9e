/- Contracts of the states that stuff bits, in the program. -/
import Derived.Test.YtabdejafmhnaaaaBitsB
import Derived.Test.YtabdejafmhnaaaaBuildS
namespace Go.Proofs.Ytabdejafmhnaaaa
open Go.ChangeShapes Go.WideShapes Go.ChangeAt Go.RowKit
/-- a step of stuffing: what is written for a bit behind n ones, and how many ones are behind then -/
def putStep (n : Nat) (c : UInt8) : List UInt8 × Nat := if c = 48 then ([48], 0) else if n + 1 = 5 then ([49, 48], 0) else ([49], n + 1)
def getStep (n : Nat) (c : UInt8) : List UInt8 × Nat := if n = 5 then ([], 0) else if c = 49 then ([49], n + 1) else ([48], 0)
def stuffGo (f : Nat → UInt8 → List UInt8 × Nat) (p : List UInt8 × Nat) (c : UInt8) : List UInt8 × Nat := (p.1 ++ (f p.2 c).1, (f p.2 c).2)
def stuffS (f : Nat → UInt8 → List UInt8 × Nat) (l : List UInt8) : List UInt8 × Nat := l.foldl (stuffGo f) ([], 0)
theorem stuffS_snoc (f : Nat → UInt8 → List UInt8 × Nat) (l : List UInt8) (c : UInt8) : stuffS f (l ++ [c]) = stuffGo f (stuffS f l) c := by simp [stuffS, List.foldl_append]
theorem put_le (n : Nat) (c : UInt8) (h : n ≤ 4) : (putStep n c).1.length ≤ 2 ∧ (putStep n c).2 ≤ 4 := by
  unfold putStep; split
  · simp
  · split <;> simp; omega
theorem get_le (n : Nat) (c : UInt8) (h : n ≤ 5) : (getStep n c).1.length ≤ 2 ∧ (getStep n c).2 ≤ 5 := by
  unfold getStep; split
  · simp
  · split <;> simp; omega
theorem stuffS_le {b : Nat} (f : Nat → UInt8 → List UInt8 × Nat) (hf : ∀ n c, n ≤ b → (f n c).1.length ≤ 2 ∧ (f n c).2 ≤ b) (l : List UInt8) : (stuffS f l).1.length ≤ 2 * l.length ∧ (stuffS f l).2 ≤ b := by
  unfold stuffS
  suffices h : ∀ (l : List UInt8) (p : List UInt8 × Nat) (m : Nat), p.1.length ≤ m → p.2 ≤ b → (l.foldl (stuffGo f) p).1.length ≤ m + 2 * l.length ∧ (l.foldl (stuffGo f) p).2 ≤ b by
    simpa using h l ([], 0) 0 (by simp) (by simp)
  intro l
  induction l with
  | nil => intro p m h1 h2; exact ⟨by simpa using h1, h2⟩
  | cons c l ih =>
    intro p m h1 h2
    have := hf p.2 c h2
    have h3 := ih (stuffGo f p c) (m + 2) (by simp [stuffGo]; omega) (by simp [stuffGo]; omega)
    rw [List.foldl_cons, List.length_cons]
    exact ⟨by omega, h3.2⟩

theorem putMake (n : Int) (w : World) :
    Calls Try.prog 51 #[.int .i64 n] w fun e w' => e = .returned (.func (.func 62) #[] #[.pointer (some ⟨w.heap.size, 0, none⟩)]) ∧ w' = w.alloc (.cells #[.int .i64 n] 3) := by
  have hmf : ∀ (fn : Fn) (first cap : Array Value) (w : World), (Instr.makeFunc fn first cap).run Try.prog w = .ok (.func fn first cap) w := fun _ _ _ _ => rfl
  go_enter Try.func51, Try.ntmps51
  go_wp2
  go_ret
  exact ⟨rfl, rfl⟩

theorem getMake (n : Int) (w : World) :
    Calls Try.prog 54 #[.int .i64 n] w fun e w' => e = .returned (.func (.func 64) #[] #[.pointer (some ⟨w.heap.size, 0, none⟩)]) ∧ w' = w.alloc (.cells #[.int .i64 n] 3) := by
  have hmf : ∀ (fn : Fn) (first cap : Array Value) (w : World), (Instr.makeFunc fn first cap).run Try.prog w = .ok (.func fn first cap) w := fun _ _ _ _ => rfl
  go_enter Try.func54, Try.ntmps54
  go_wp2
  go_ret
  exact ⟨rfl, rfl⟩

theorem putBehind_any (n : Nat) (c : UInt8) (x : Nat) (t : TypeId) (w : World) (hn : n ≤ 5) (hx : w.heap[x]? = some (.cells #[.int .i64 n] t (0, 0))) :
    Calls Try.prog 62 #[.int .u8 c.toNat, .pointer (some ⟨x, 0, none⟩)] w fun e w' => e = .returned (.tuple #[.string ⟨(putStep n c).1.toArray⟩, .func (.func 62) #[] #[.pointer (some ⟨w.heap.size, 0, none⟩)]]) ∧ w' = w.alloc (.cells #[.int .i64 ((putStep n c).2 : Int)] 3) := by
  have c0 : w.cell? ⟨x, 0, none⟩ = some (.int .i64 n) := by rw [cell_of_row w x 0 _ _ _ hx]; rfl
  clear hx
  by_cases h48 : c = 48
  · have hb : ((c.toNat : Int) == 48) = true := by rw [h48]; rfl
    have HP := Lib.hid (show putStep n c = ([48], 0) by simp [putStep, h48])
    clear h48
    go_enter Try.func62, Try.ntmps62
    go_wp2_with (go_at_call 51; refine (putMake _ _).mono ?_; rintro e w' ⟨rfl, rfl⟩)
    go_ret2
    rw [HP.out]
    exact ⟨rfl, rfl⟩
  · have hb : ((c.toNat : Int) == 48) = false := beq_eq_false_iff_ne.2 (fun h => h48 (by apply UInt8.toNat_inj.1; show c.toNat = 48; omega))
    by_cases h5 : n + 1 = 5
    · have hb5 : ((n : Int) + 1 == 5) = true := by rw [beq_iff_eq]; omega
      have HP := Lib.hid (show putStep n c = ([49, 48], 0) by simp [putStep, h48, h5])
      clear h48 h5
      go_enter Try.func62, Try.ntmps62
      go_wp2_with (go_at_call 51; refine (putMake _ _).mono ?_; rintro e w' ⟨rfl, rfl⟩)
      go_ret2
      rw [HP.out]
      exact ⟨rfl, rfl⟩
    · have hb5 : ((n : Int) + 1 == 5) = false := beq_eq_false_iff_ne.2 (by omega)
      have HP := Lib.hid (show putStep n c = ([49], n + 1) by simp [putStep, h48, h5])
      clear h48 h5
      go_enter Try.func62, Try.ntmps62
      go_wp2_with (go_at_call 51; refine (putMake _ _).mono ?_; rintro e w' ⟨rfl, rfl⟩)
      go_ret2
      rw [HP.out]
      exact ⟨rfl, rfl⟩
theorem getBehind_any (n : Nat) (c : UInt8) (x : Nat) (t : TypeId) (w : World) (hn : n ≤ 5) (hx : w.heap[x]? = some (.cells #[.int .i64 n] t (0, 0))) :
    Calls Try.prog 64 #[.int .u8 c.toNat, .pointer (some ⟨x, 0, none⟩)] w fun e w' => e = .returned (.tuple #[.string ⟨(getStep n c).1.toArray⟩, .func (.func 64) #[] #[.pointer (some ⟨w.heap.size, 0, none⟩)]]) ∧ w' = w.alloc (.cells #[.int .i64 ((getStep n c).2 : Int)] 3) := by
  have c0 : w.cell? ⟨x, 0, none⟩ = some (.int .i64 n) := by rw [cell_of_row w x 0 _ _ _ hx]; rfl
  clear hx
  by_cases h5 : n = 5
  · subst h5
    have HP := Lib.hid (show getStep 5 c = ([], 0) by simp [getStep])
    go_enter Try.func64, Try.ntmps64
    go_wp2_with (go_at_call 54; refine (getMake _ _).mono ?_; rintro e w' ⟨rfl, rfl⟩)
    go_ret2
    rw [HP.out]
    exact ⟨rfl, rfl⟩
  · have hb5 : ((n : Int) == 5) = false := beq_eq_false_iff_ne.2 (by omega)
    by_cases h49 : c = 49
    · have hb : ((c.toNat : Int) == 49) = true := by rw [h49]; rfl
      have HP := Lib.hid (show getStep n c = ([49], n + 1) by simp [getStep, h49, h5])
      clear h49 h5
      go_enter Try.func64, Try.ntmps64
      go_wp2_with (go_at_call 54; refine (getMake _ _).mono ?_; rintro e w' ⟨rfl, rfl⟩)
      go_ret2
      rw [HP.out]
      exact ⟨rfl, rfl⟩
    · have hb : ((c.toNat : Int) == 49) = false := beq_eq_false_iff_ne.2 (fun h => h49 (by apply UInt8.toNat_inj.1; show c.toNat = 49; omega))
      have HP := Lib.hid (show getStep n c = ([48], 0) by simp [getStep, h49, h5])
      clear h49 h5
      go_enter Try.func64, Try.ntmps64
      go_wp2_with (go_at_call 54; refine (getMake _ _).mono ?_; rintro e w' ⟨rfl, rfl⟩)
      go_ret2
      rw [HP.out]
      exact ⟨rfl, rfl⟩
theorem zero_builder (w : World) : (zeroValue 36).run Try.prog w = .ok (.agg #[.pointer none, .slice none 0 0]) w := by kernel_rfl
theorem box_kept {b x : Nat} {w w' : World} {v : Value} (h : NB b w w') (hx : w.heap[x]? = some (.cells #[v] 3 (0, 0))) (hne : x ≠ b) : w'.heap[x]? = some (.cells #[v] 3 (0, 0)) := by
  rw [h.2 x (Array.getElem?_eq_some_iff.1 hx).1 hne (fun cs fz he => by
    rw [hx] at he
    injection he with he
    injection he with _ ht
    exact absurd ht (by decide))]
  exact hx

set_option maxRecDepth 100000 in
set_option maxHeartbeats 2000000 in
theorem putWrite (s : ByteArray) (x0 : Nat) (w : World) (hs : s.size ≤ 1000000000000) (hx0 : w.heap[x0]? = some (.cells #[.int .i64 0] 3 (0, 0))) :
    Calls Try.prog 52 #[.func (.func 62) #[] #[.pointer (some ⟨x0, 0, none⟩)], .string s] w fun e w' => e = .returned (.string ⟨(stuffS putStep s.data.toList).1.toArray⟩) ∧ Below w.heap.size w w' := by
  have hz := zero_builder
  have HX0 := Lib.hid hx0
  have hx0l : x0 < w.heap.size := (Array.getElem?_eq_some_iff.1 hx0).1
  have HSL := Lib.hid (size_list s)
  clear hx0
  go_enter Try.func52, Try.ntmps52
  go_wp2
  clear hz
  have HB0 := Lib.hid (BU.fresh w)
  go_loopw [0, 6, 7, 10] (fun st _ _ i wr => ∃ (k x : Nat), k ≤ s.size ∧ i = .int .i64 k ∧ st = .func (.func 62) #[] #[.pointer (some ⟨x, 0, none⟩)] ∧ x ≠ w.heap.size ∧ wr.heap[x]? = some (.cells #[.int .i64 ((stuffS putStep (s.data.toList.take k)).2 : Int)] 3 (0, 0)) ∧ BU wr w.heap.size w.heap.size (stuffS putStep (s.data.toList.take k)).1 ∧ Below w.heap.size w wr) (fun _ _ _ i _ => s.size - (intOf i).toNat)
  case atStart => exact ⟨0, x0, Nat.zero_le _, rfl, rfl, by omega, by rw [Below.heap_alloc w _ x0 hx0l]; exact HX0.out, HB0.out, (Below.refl _ _).alloc (Nat.le_refl _) _⟩
  case round =>
    obtain ⟨k, x, hk, rfl, rfl, hxb, hbox, hbu, hbel⟩ := hrel
    have HBox := Lib.hid hbox
    have HBU := Lib.hid hbu
    have HBel := Lib.hid hbel
    have hsz := hbel.size
    have hle := stuffS_le putStep put_le (s.data.toList.take k)
    have hl2 : (s.data.toList.take k).length ≤ k := List.length_take_le _ _
    clear hbox hbu hbel
    by_cases hlt : k < s.size
    · have HS := Lib.hid (show stuffS putStep (s.data.toList.take (k + 1)) = stuffGo putStep (stuffS putStep (s.data.toList.take k)) s[k] by rw [snoc_take s k hlt, stuffS_snoc])
      generalize stuffS putStep (s.data.toList.take k) = p at *
      obtain ⟨out, n⟩ := p
      simp only at hle HBox HBU
      have hst := put_le n s[k] hle.2
      go_wp2_with fail
      refine (putBehind_any n s[k] x _ wr (by omega) HBox.out).mono ?_
      rintro e w1 ⟨rfl, rfl⟩
      have hbu1 : BU (wr.alloc (.cells #[.int .i64 ((putStep n s[k]).2 : Int)] 3)) w.heap.size w.heap.size out := by
        obtain ⟨h1, p, v, hb, hp, hrb⟩ := HBU.out
        exact ⟨h1, p, v, (Below.heap_alloc wr _ _ HBU.out.lt).trans hb, hp, hrb.alloc _⟩
      have hnew := heap_alloc_new wr (.cells #[.int .i64 ((putStep n s[k]).2 : Int)] 3)
      have hbel1 := HBel.out.alloc hsz (.cells #[.int .i64 ((putStep n s[k]).2 : Int)] 3)
      have hbl := HBU.out.lt
      generalize wr.alloc (.cells #[.int .i64 ((putStep n s[k]).2 : Int)] 3) = w2 at *
      have HBU1 := Lib.hid hbu1
      have HNew := Lib.hid hnew
      have HBel1 := Lib.hid hbel1
      have hsz2 := hbel1.size
      clear hbu1 hnew hbel1
      obtain ⟨T, hT⟩ : ∃ T : ByteArray, T = ⟨(putStep n s[k]).1.toArray⟩ := ⟨_, rfl⟩
      have hTs : T.size ≤ 2 := by rw [hT]; show (putStep n s[k]).1.toArray.size ≤ 2; simpa using hst.1
      have HT := Lib.hid (show T.data.toList = (putStep n s[k]).1 by rw [hT])
      rw [← hT]
      clear hT
      go_wp2_with fail
      refine (writeString_any w.heap.size w.heap.size out T _ HBU1.out (by omega) (by omega)).mono ?_
      rintro e w3 ⟨rfl, hbu3, hbel3, hnb3⟩
      have HBU3 := Lib.hid hbu3
      have HBel3 := Lib.hid (HBel1.out.trans hbel3)
      have HBox3 := Lib.hid (box_kept hnb3 HNew.out (by omega))
      clear hbu3 hbel3 hnb3
      go_wp2
      go_roundw
      case rel =>
        refine ⟨k + 1, _, by omega, by go_num, rfl, by omega, ?_, ?_, HBel3.out⟩
        · rw [HS.out]; exact HBox3.out
        · rw [HS.out, stuffGo, ← HT.out]; exact HBU3.out
      case measure => simp [intOf]; omega
    · have HE := Lib.hid (take_all s k (by omega))
      go_wp2_with fail
      refine (string_any _ _ _ _ HBU.out (by omega)).mono ?_
      rintro e w1 ⟨rfl, hb1⟩
      have HB1 := Lib.hid (HBel.out.trans hb1)
      clear hb1
      go_wp2
      go_ret
      exact ⟨by rw [HE.out]; rfl, HB1.out⟩

set_option maxRecDepth 100000 in
set_option maxHeartbeats 2000000 in
theorem getWrite (s : ByteArray) (x0 : Nat) (w : World) (hs : s.size ≤ 1000000000000) (hx0 : w.heap[x0]? = some (.cells #[.int .i64 0] 3 (0, 0))) :
    Calls Try.prog 52 #[.func (.func 64) #[] #[.pointer (some ⟨x0, 0, none⟩)], .string s] w fun e w' => e = .returned (.string ⟨(stuffS getStep s.data.toList).1.toArray⟩) ∧ Below w.heap.size w w' := by
  have hz := zero_builder
  have HX0 := Lib.hid hx0
  have hx0l : x0 < w.heap.size := (Array.getElem?_eq_some_iff.1 hx0).1
  have HSL := Lib.hid (size_list s)
  clear hx0
  go_enter Try.func52, Try.ntmps52
  go_wp2
  clear hz
  have HB0 := Lib.hid (BU.fresh w)
  go_loopw [0, 6, 7, 10] (fun st _ _ i wr => ∃ (k x : Nat), k ≤ s.size ∧ i = .int .i64 k ∧ st = .func (.func 64) #[] #[.pointer (some ⟨x, 0, none⟩)] ∧ x ≠ w.heap.size ∧ wr.heap[x]? = some (.cells #[.int .i64 ((stuffS getStep (s.data.toList.take k)).2 : Int)] 3 (0, 0)) ∧ BU wr w.heap.size w.heap.size (stuffS getStep (s.data.toList.take k)).1 ∧ Below w.heap.size w wr) (fun _ _ _ i _ => s.size - (intOf i).toNat)
  case atStart => exact ⟨0, x0, Nat.zero_le _, rfl, rfl, by omega, by rw [Below.heap_alloc w _ x0 hx0l]; exact HX0.out, HB0.out, (Below.refl _ _).alloc (Nat.le_refl _) _⟩
  case round =>
    obtain ⟨k, x, hk, rfl, rfl, hxb, hbox, hbu, hbel⟩ := hrel
    have HBox := Lib.hid hbox
    have HBU := Lib.hid hbu
    have HBel := Lib.hid hbel
    have hsz := hbel.size
    have hle := stuffS_le getStep get_le (s.data.toList.take k)
    have hl2 : (s.data.toList.take k).length ≤ k := List.length_take_le _ _
    clear hbox hbu hbel
    by_cases hlt : k < s.size
    · have HS := Lib.hid (show stuffS getStep (s.data.toList.take (k + 1)) = stuffGo getStep (stuffS getStep (s.data.toList.take k)) s[k] by rw [snoc_take s k hlt, stuffS_snoc])
      generalize stuffS getStep (s.data.toList.take k) = p at *
      obtain ⟨out, n⟩ := p
      simp only at hle HBox HBU
      have hst := get_le n s[k] hle.2
      go_wp2_with fail
      refine (getBehind_any n s[k] x _ wr (by omega) HBox.out).mono ?_
      rintro e w1 ⟨rfl, rfl⟩
      have hbu1 : BU (wr.alloc (.cells #[.int .i64 ((getStep n s[k]).2 : Int)] 3)) w.heap.size w.heap.size out := by
        obtain ⟨h1, p, v, hb, hp, hrb⟩ := HBU.out
        exact ⟨h1, p, v, (Below.heap_alloc wr _ _ HBU.out.lt).trans hb, hp, hrb.alloc _⟩
      have hnew := heap_alloc_new wr (.cells #[.int .i64 ((getStep n s[k]).2 : Int)] 3)
      have hbel1 := HBel.out.alloc hsz (.cells #[.int .i64 ((getStep n s[k]).2 : Int)] 3)
      have hbl := HBU.out.lt
      generalize wr.alloc (.cells #[.int .i64 ((getStep n s[k]).2 : Int)] 3) = w2 at *
      have HBU1 := Lib.hid hbu1
      have HNew := Lib.hid hnew
      have HBel1 := Lib.hid hbel1
      have hsz2 := hbel1.size
      clear hbu1 hnew hbel1
      obtain ⟨T, hT⟩ : ∃ T : ByteArray, T = ⟨(getStep n s[k]).1.toArray⟩ := ⟨_, rfl⟩
      have hTs : T.size ≤ 2 := by rw [hT]; show (getStep n s[k]).1.toArray.size ≤ 2; simpa using hst.1
      have HT := Lib.hid (show T.data.toList = (getStep n s[k]).1 by rw [hT])
      rw [← hT]
      clear hT
      go_wp2_with fail
      refine (writeString_any w.heap.size w.heap.size out T _ HBU1.out (by omega) (by omega)).mono ?_
      rintro e w3 ⟨rfl, hbu3, hbel3, hnb3⟩
      have HBU3 := Lib.hid hbu3
      have HBel3 := Lib.hid (HBel1.out.trans hbel3)
      have HBox3 := Lib.hid (box_kept hnb3 HNew.out (by omega))
      clear hbu3 hbel3 hnb3
      go_wp2
      go_roundw
      case rel =>
        refine ⟨k + 1, _, by omega, by go_num, rfl, by omega, ?_, ?_, HBel3.out⟩
        · rw [HS.out]; exact HBox3.out
        · rw [HS.out, stuffGo, ← HT.out]; exact HBU3.out
      case measure => simp [intOf]; omega
    · have HE := Lib.hid (take_all s k (by omega))
      go_wp2_with fail
      refine (string_any _ _ _ _ HBU.out (by omega)).mono ?_
      rintro e w1 ⟨rfl, hb1⟩
      have HB1 := Lib.hid (HBel.out.trans hb1)
      clear hb1
      go_wp2
      go_ret
      exact ⟨by rw [HE.out]; rfl, HB1.out⟩
end Go.Proofs.Ytabdejafmhnaaaa
