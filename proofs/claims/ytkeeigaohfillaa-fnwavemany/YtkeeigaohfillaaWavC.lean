/- Levels, in the program and in the model. -/
import Derived.Test.YtkeeigaohfillaaWavA
import Derived.Laws.EntriesVeiled
namespace Go.Proofs.Ytkeeigaohfillaa
open Go.ChangeShapes Go.WideShapes Go.ChangeAt Go.RowKit

/-- a cell of a truth value, in a block of its own -/
def BX (w : World) (x : Nat) (b : Bool) : Prop := w.heap[x]? = some (.cells #[.bool b] 4 (0, 0))
theorem BX.cell {w : World} {x : Nat} {b : Bool} (h : BX w x b) : w.cell? ⟨x, 0, none⟩ = some (.bool b) := by rw [cell_of_row w x 0 _ _ _ h]; rfl
theorem BX.free {w : World} {x : Nat} {b : Bool} (h : BX w x b) : w.frozen? ⟨x, 0, none⟩ = false := frozen_of_row w x 0 _ _ h
theorem BX.lt {w : World} {x : Nat} {b : Bool} (h : BX w x b) : x < w.heap.size := (Array.getElem?_eq_some_iff.1 h).1
theorem BX.set {w : World} {x : Nat} {b : Bool} (h : BX w x b) (c : Bool) : BX (w.setCell ⟨x, 0, none⟩ (.bool c)) x c := by
  unfold BX at h ⊢
  rw [setCell_eq_setRow w x 0 _ _ (0, 0) _ h]
  exact setRow_heap w x _ _ _ (0, 0) h
theorem BX.alloc {w : World} {x : Nat} {b : Bool} (h : BX w x b) (o : Obj) : BX (w.alloc o) x b := (Below.heap_alloc w o x h.lt).trans h
theorem BX.grown {w w' : World} {x : Nat} {b : Bool} {row : Option Nat} (h : BX w x b) (hg : w.grownBy w' row) (hr : row ≠ some x) : BX w' x b := (hg.block x h.lt (fun e => hr e.symm)).trans h
theorem BX.new (w : World) (b : Bool) : BX (w.alloc (.cells #[.bool b] 4)) w.heap.size b := heap_alloc_new w _
theorem not_one (b : UInt8) (h : b = 48 ∨ b = 49) : ((b.toNat : Int) == 49) = decide (b = 49) := by rcases h with rfl | rfl <;> rfl
theorem mealy_take {σ : Type} (f : σ → Bool → σ × Bool) (u : σ) (s : ByteArray) (k : Nat) (h : k < s.size) : mealy f u (s.data.toList.take (k + 1)) = ((f (mealy f u (s.data.toList.take k)).1 (decide (s[k] = 49))).1, (mealy f u (s.data.toList.take k)).2 ++ [bitC (f (mealy f u (s.data.toList.take k)).1 (decide (s[k] = 49))).2]) := by
  rw [snoc_take s k h, mealy_snoc]
theorem mealy_take_len {σ : Type} (f : σ → Bool → σ × Bool) (u : σ) (s : ByteArray) (k : Nat) : (mealy f u (s.data.toList.take k)).2.length ≤ k := by
  rw [mealy_len]; exact List.length_take_le _ _
theorem edPut_call (x : Nat) (lv one : Bool) (w : World) (hx : BX w x lv) :
    Calls Try.prog 40 #[.bool one, .pointer (some ⟨x, 0, none⟩)] w fun e w' => e = .returned (.bool (edP lv one).2) ∧ (w' = w ∨ w' = w.setCell ⟨x, 0, none⟩ (.bool (edP lv one).1)) ∧ BX w' x (edP lv one).1 := by
  have c0 := hx.cell
  have f0 := hx.free
  have HX := Lib.hid hx
  clear hx
  cases one
  · have c1 := (HX.out.set (!lv)).cell
    go_enter Try.func40, Try.ntmps40
    go_wp2
    go_ret
    exact ⟨rfl, .inr rfl, HX.out.set _⟩
  · go_enter Try.func40, Try.ntmps40
    go_wp2
    go_ret
    exact ⟨rfl, .inl rfl, HX.out⟩
theorem edGet_call (x : Nat) (lv one : Bool) (w : World) (hx : BX w x lv) :
    Calls Try.prog 41 #[.bool one, .pointer (some ⟨x, 0, none⟩)] w fun e w' => e = .returned (.bool (edG lv one).2) ∧ (w' = w ∨ w' = w.setCell ⟨x, 0, none⟩ (.bool (edG lv one).1)) ∧ BX w' x (edG lv one).1 := by
  have c0 := hx.cell
  have f0 := hx.free
  have HX := Lib.hid hx
  clear hx
  go_enter Try.func41, Try.ntmps41
  go_wp2
  go_ret
  exact ⟨rfl, .inr rfl, HX.out.set _⟩
/-- bits, one by one, through the closure -/
def EachPostEP (w : World) (B x : Nat) (lv : Bool) (l : List UInt8) (e : Ending) (w' : World) : Prop := e = .returned (.string ⟨(mealy edP lv l).2.toArray⟩) ∧ BX w' x (mealy edP lv l).1 ∧ Below B w w'
set_option maxRecDepth 100000 in
set_option maxHeartbeats 4000000 in
theorem eachEP_any (B x : Nat) (lv : Bool) (s : ByteArray) (w : World) (h : okB s.data.toList = true) (hB : B ≤ x) (hx : BX w x lv) :
    Calls Try.prog 39 #[.string s, .func (.func 40) #[] #[.pointer (some ⟨x, 0, none⟩)]] w (EachPostEP w B x lv s.data.toList) := by
  have hsz := ok_size h
  obtain ⟨i0, hi, hz0, hz1, hz2⟩ := info_parts info_u8
  have HI := Lib.hid hi
  have HZ0 := Lib.hid hz0
  have HZ1 := Lib.hid hz1
  have HZ2 := Lib.hid hz2
  have H := Lib.hid h
  have hxl := hx.lt
  have HX := Lib.hid hx
  clear hi hz0 hz1 hz2 h hx
  go_enter Try.func39, Try.ntmps39
  go_wp2
  go_loopw [5, 6, 9] (fun v _ i wr => ∃ k : Nat, k ≤ s.size ∧ i = .int .i64 k ∧ OB 5 wr w.heap.size v (mealy edP lv (s.data.toList.take k)).2 ∧ BX wr x (mealy edP lv (s.data.toList.take k)).1 ∧ Below B w wr ∧ w.heap.size ≤ wr.heap.size) (fun _ _ i _ => s.size - (intOf i).toNat)
  case atStart => exact ⟨0, by omega, rfl, OB.nil _ _ _, HX.out, Below.refl _ _, Nat.le_refl _⟩
  case round =>
    obtain ⟨k, hk, rfl, hown, hbx, hb, hgr⟩ := hrel
    have HO := Lib.hid hown
    have HB := Lib.hid hb
    have HBX := Lib.hid hbx
    clear hown hb hbx
    have hl2 := mealy_take_len edP lv s k
    by_cases hlt : k < s.size
    · have HS := Lib.hid (mealy_take edP lv s k hlt)
      have hc := not_one s[k] (ok_bit H.out hlt)
      generalize decide (s[k] = 49) = one at hc HS
      generalize mealy edP lv (s.data.toList.take k) = M at HO HBX HS hl2
      obtain ⟨m1, m2⟩ := M
      simp only at hl2
      go_wp2_with fail
      refine (edPut_call x m1 one _ HBX.out).mono ?_
      rintro e w1 ⟨rfl, hw1, hbx1⟩
      have HBX1 := Lib.hid hbx1
      have HO1 := Lib.hid (show OB 5 w1 w.heap.size u5 m2 by
        rcases hw1 with rfl | rfl
        · exact HO.out
        · exact HO.out.far (by exact hxl) _)
      have HB1 := Lib.hid (show Below B w w1 by
        rcases hw1 with rfl | rfl
        · exact HB.out
        · exact HB.out.setCell (p := ⟨x, 0, none⟩) hB _)
      have hgr1 : w.heap.size ≤ w1.heap.size := by
        rcases hw1 with rfl | rfl
        · exact hgr
        · simpa using hgr
      clear hw1 hbx1
      go_wp2_with (first | (go_at_call 33; refine (bitOf_any _ _).mono ?_; rintro e w' ⟨rfl, rfl⟩) | (at_builtin; refine wpList_append_OB _ rfl _ _ 22 rfl w.heap.size 5 i0 Try.underlying22 HI.out HZ0.out HZ1.out HZ2.out _ m2 rfl (HO1.out.alloc _) ⟨w1.heap.size, 0, none⟩ 1 1 [bitC (edP m1 one).2] rfl rfl (one_new w1 _ _ _ rfl) (by simp; omega) (by simp; omega) ?_; intro v2 w2 hown2 hg2))
      go_roundw
      case rel =>
        refine ⟨k + 1, by omega, by go_num, ?_, ?_, ?_, ?_⟩
        · rw [HS.out]; exact hown2
        · rw [HS.out]; exact (HBX1.out.alloc _).grown hg2 (fun e => by have := (HO1.out.lt x e).1; omega)
        · exact (HB1.out.alloc (by omega) _).grown hg2 (by simp; omega) (fun k hk => by have := (HO1.out.lt k hk).1; omega)
        · have := hg2.size; simp at this; omega
      case measure => simp [intOf]; omega
    · have HE := Lib.hid (take_all s k (by omega))
      go_wp2_with (refine wpList_string_of_OB _ rfl 22 9 5 _ rfl w.heap.size _ _ rfl Try.underlying22 Try.underlying5 Try.underlying9 HO.out ?_)
      go_ret
      rw [HE.out] at HBX
      exact ⟨by rw [HE.out]; rfl, HBX.out, HB.out⟩
theorem implEP_yes (lv : Bool) (s : ByteArray) (w : World) (h : okB s.data.toList = true) :
    Calls Try.prog 22 #[.bool lv, .string s] w fun e w' => e = .returned (.tuple #[.bool (mealy edP lv s.data.toList).1, .string ⟨(mealy edP lv s.data.toList).2.toArray⟩]) ∧ Below w.heap.size w w' := by
  have hmax : s.size ≤ maxLen := by have := ok_size h; unfold maxLen; omega
  have hmf : ∀ (fn : Fn) (first cap : Array Value) (w : World), (Instr.makeFunc fn first cap).run Try.prog w = .ok (.func fn first cap) w := fun _ _ _ _ => rfl
  have H := Lib.hid h
  go_enter Try.func22, Try.ntmps22
  go_wp2_with (go_at_call 24; refine (implOk_any _ _ hmax).mono ?_; rintro e w' ⟨rfl, rfl⟩)
  refine (eachEP_any w.heap.size w.heap.size lv s _ H.out (Nat.le_refl _) (BX.new w lv)).mono ?_
  rintro e w1 ⟨rfl, hbx, hb⟩
  have c0 := hbx.cell
  have HB := Lib.hid (((Below.refl _ w).alloc (Nat.le_refl _) _).trans hb)
  clear hb hbx
  go_wp2
  go_ret2
  exact ⟨rfl, HB.out⟩
theorem implEP_no (lv : Bool) (s : ByteArray) (w : World) (hs : s.size ≤ maxLen) (h : okB s.data.toList = false) :
    Calls Try.prog 22 #[.bool lv, .string s] w fun e w' => e = .returned (.tuple #[.bool false, .string ⟨#[]⟩]) ∧ Below w.heap.size w w' := by
  go_enter Try.func22, Try.ntmps22
  go_wp2_with (go_at_call 24; refine (implOk_any _ _ hs).mono ?_; rintro e w' ⟨rfl, rfl⟩)
  go_ret2
  exact ⟨rfl, (Below.refl _ w).alloc (Nat.le_refl _) _⟩
theorem specEP_no (lv : Bool) (s : ByteArray) (w : World) (hs : s.size ≤ maxLen) (h : okB s.data.toList = false) :
    Calls Try.prog 23 #[.bool lv, .string s] w fun e w' => e = .returned (.tuple #[.bool false, .string ⟨#[]⟩]) ∧ Below w.heap.size w w' := by
  go_enter Try.func23, Try.ntmps23
  go_wp2_with (go_at_call 34; refine (l2Ok_any _ _ hs).mono ?_; rintro e w' ⟨rfl, rfl⟩)
  go_ret2
  exact ⟨rfl, Below.refl _ _⟩
set_option maxRecDepth 100000 in
set_option maxHeartbeats 4000000 in
theorem specEP_yes (lv : Bool) (s : ByteArray) (w : World) (h : okB s.data.toList = true) :
    Calls Try.prog 23 #[.bool lv, .string s] w fun e w' => e = .returned (.tuple #[.bool (mealy edP lv s.data.toList).1, .string ⟨(mealy edP lv s.data.toList).2.toArray⟩]) ∧ Below w.heap.size w w' := by
  have hsz := ok_size h
  have hmax : s.size ≤ maxLen := by unfold maxLen; omega
  obtain ⟨i0, hi, hz0, hz1, hz2⟩ := info_parts info_u8
  have HI := Lib.hid hi
  have HZ0 := Lib.hid hz0
  have HZ1 := Lib.hid hz1
  have HZ2 := Lib.hid hz2
  have H := Lib.hid h
  clear hi hz0 hz1 hz2
  go_enter Try.func23, Try.ntmps23
  go_wp2_with (go_at_call 34; refine (l2Ok_any _ _ hmax).mono ?_; rintro e w' ⟨rfl, rfl⟩)
  clear h
  go_loopw [0, 6, 7, 8] (fun b v i _ wr => ∃ k : Nat, k ≤ s.size ∧ i = .int .i64 k ∧ b = .bool (mealy edP lv (s.data.toList.take k)).1 ∧ OB 5 wr w.heap.size v (mealy edP lv (s.data.toList.take k)).2 ∧ Below w.heap.size w wr) (fun _ _ i _ _ => s.size - (intOf i).toNat)
  case atStart => exact ⟨0, by omega, rfl, rfl, .inr ⟨w.heap.size, 0, #[], (0, 0), rfl, Nat.le_refl _, heap_alloc_new w _, .inl rfl, Nat.le_refl _, by simp [maxLen], rfl, rfl⟩, (Below.refl _ _).alloc (Nat.le_refl _) _⟩
  case round =>
    obtain ⟨k, hk, rfl, rfl, hown, hb⟩ := hrel
    have HO := Lib.hid hown
    have HB := Lib.hid hb
    clear hown hb
    have hl2 := mealy_take_len edP lv s k
    by_cases hlt : k < s.size
    · have HS := Lib.hid (mealy_take edP lv s k hlt)
      generalize mealy edP lv (s.data.toList.take k) = M at HO HS hl2
      obtain ⟨m1, m2⟩ := M
      simp only at hl2
      rcases ok_bit H.out hlt with hb | hb <;> cases m1
      all_goals
        first
          | (have hc : ((s[k].toNat : Int) == 48) = true := by rw [hb]; rfl)
          | (have hc : ((s[k].toNat : Int) == 48) = false := by rw [hb]; rfl)
        have HBt := Lib.hid hb
        clear hb
        go_wp2_with (at_builtin; refine wpList_append_OB _ rfl _ _ 22 rfl w.heap.size 5 i0 Try.underlying22 HI.out HZ0.out HZ1.out HZ2.out _ m2 rfl (HO.out.alloc _) ⟨wr.heap.size, 0, none⟩ 1 1 [_] rfl rfl (one_new wr _ _ _ (by first | exact (rfl : byteV 48 = _) | exact (rfl : byteV 49 = _))) (by simp; omega) (by have := HB.out.size; simp; omega) ?_; intro v2 w2 hown2 hg2)
        go_roundw
        case rel =>
          refine ⟨k + 1, by omega, by go_num, by rw [HS.out, HBt.out]; rfl, by rw [HS.out, HBt.out]; exact hown2, ?_⟩
          exact (HB.out.alloc HB.out.size _).grown hg2 (by have := HB.out.size; simp; omega) (fun k hk => (HO.out.lt k hk).1)
        case measure => simp [intOf]; omega
    · have HE := Lib.hid (take_all s k (by omega))
      have hcv := run_string_of_OB (P := Try.prog) wr.drew 22 9 5 w.heap.size _ _ Try.underlying22 Try.underlying5 Try.underlying9 HO.out.drew
      go_wp2_with fail
      go_region
      go_wp2
      go_ret2
      exact ⟨by rw [HE.out]; rfl, HB.out.drew⟩
/-- bits, one by one, through the closure -/
def EachPostEG (w : World) (B x : Nat) (lv : Bool) (l : List UInt8) (e : Ending) (w' : World) : Prop := e = .returned (.string ⟨(mealy edG lv l).2.toArray⟩) ∧ BX w' x (mealy edG lv l).1 ∧ Below B w w'
set_option maxRecDepth 100000 in
set_option maxHeartbeats 4000000 in
theorem eachEG_any (B x : Nat) (lv : Bool) (s : ByteArray) (w : World) (h : okB s.data.toList = true) (hB : B ≤ x) (hx : BX w x lv) :
    Calls Try.prog 39 #[.string s, .func (.func 41) #[] #[.pointer (some ⟨x, 0, none⟩)]] w (EachPostEG w B x lv s.data.toList) := by
  have hsz := ok_size h
  obtain ⟨i0, hi, hz0, hz1, hz2⟩ := info_parts info_u8
  have HI := Lib.hid hi
  have HZ0 := Lib.hid hz0
  have HZ1 := Lib.hid hz1
  have HZ2 := Lib.hid hz2
  have H := Lib.hid h
  have hxl := hx.lt
  have HX := Lib.hid hx
  clear hi hz0 hz1 hz2 h hx
  go_enter Try.func39, Try.ntmps39
  go_wp2
  go_loopw [5, 6, 9] (fun v _ i wr => ∃ k : Nat, k ≤ s.size ∧ i = .int .i64 k ∧ OB 5 wr w.heap.size v (mealy edG lv (s.data.toList.take k)).2 ∧ BX wr x (mealy edG lv (s.data.toList.take k)).1 ∧ Below B w wr ∧ w.heap.size ≤ wr.heap.size) (fun _ _ i _ => s.size - (intOf i).toNat)
  case atStart => exact ⟨0, by omega, rfl, OB.nil _ _ _, HX.out, Below.refl _ _, Nat.le_refl _⟩
  case round =>
    obtain ⟨k, hk, rfl, hown, hbx, hb, hgr⟩ := hrel
    have HO := Lib.hid hown
    have HB := Lib.hid hb
    have HBX := Lib.hid hbx
    clear hown hb hbx
    have hl2 := mealy_take_len edG lv s k
    by_cases hlt : k < s.size
    · have HS := Lib.hid (mealy_take edG lv s k hlt)
      have hc := not_one s[k] (ok_bit H.out hlt)
      generalize decide (s[k] = 49) = one at hc HS
      generalize mealy edG lv (s.data.toList.take k) = M at HO HBX HS hl2
      obtain ⟨m1, m2⟩ := M
      simp only at hl2
      go_wp2_with fail
      refine (edGet_call x m1 one _ HBX.out).mono ?_
      rintro e w1 ⟨rfl, hw1, hbx1⟩
      have HBX1 := Lib.hid hbx1
      have HO1 := Lib.hid (show OB 5 w1 w.heap.size u5 m2 by
        rcases hw1 with rfl | rfl
        · exact HO.out
        · exact HO.out.far (by exact hxl) _)
      have HB1 := Lib.hid (show Below B w w1 by
        rcases hw1 with rfl | rfl
        · exact HB.out
        · exact HB.out.setCell (p := ⟨x, 0, none⟩) hB _)
      have hgr1 : w.heap.size ≤ w1.heap.size := by
        rcases hw1 with rfl | rfl
        · exact hgr
        · simpa using hgr
      clear hw1 hbx1
      go_wp2_with (first | (go_at_call 33; refine (bitOf_any _ _).mono ?_; rintro e w' ⟨rfl, rfl⟩) | (at_builtin; refine wpList_append_OB _ rfl _ _ 22 rfl w.heap.size 5 i0 Try.underlying22 HI.out HZ0.out HZ1.out HZ2.out _ m2 rfl (HO1.out.alloc _) ⟨w1.heap.size, 0, none⟩ 1 1 [bitC (edG m1 one).2] rfl rfl (one_new w1 _ _ _ rfl) (by simp; omega) (by simp; omega) ?_; intro v2 w2 hown2 hg2))
      go_roundw
      case rel =>
        refine ⟨k + 1, by omega, by go_num, ?_, ?_, ?_, ?_⟩
        · rw [HS.out]; exact hown2
        · rw [HS.out]; exact (HBX1.out.alloc _).grown hg2 (fun e => by have := (HO1.out.lt x e).1; omega)
        · exact (HB1.out.alloc (by omega) _).grown hg2 (by simp; omega) (fun k hk => by have := (HO1.out.lt k hk).1; omega)
        · have := hg2.size; simp at this; omega
      case measure => simp [intOf]; omega
    · have HE := Lib.hid (take_all s k (by omega))
      go_wp2_with (refine wpList_string_of_OB _ rfl 22 9 5 _ rfl w.heap.size _ _ rfl Try.underlying22 Try.underlying5 Try.underlying9 HO.out ?_)
      go_ret
      rw [HE.out] at HBX
      exact ⟨by rw [HE.out]; rfl, HBX.out, HB.out⟩
theorem implEG_yes (lv : Bool) (s : ByteArray) (w : World) (h : okB s.data.toList = true) :
    Calls Try.prog 25 #[.bool lv, .string s] w fun e w' => e = .returned (.tuple #[.bool (mealy edG lv s.data.toList).1, .string ⟨(mealy edG lv s.data.toList).2.toArray⟩]) ∧ Below w.heap.size w w' := by
  have hmax : s.size ≤ maxLen := by have := ok_size h; unfold maxLen; omega
  have hmf : ∀ (fn : Fn) (first cap : Array Value) (w : World), (Instr.makeFunc fn first cap).run Try.prog w = .ok (.func fn first cap) w := fun _ _ _ _ => rfl
  have H := Lib.hid h
  go_enter Try.func25, Try.ntmps25
  go_wp2_with (go_at_call 24; refine (implOk_any _ _ hmax).mono ?_; rintro e w' ⟨rfl, rfl⟩)
  refine (eachEG_any w.heap.size w.heap.size lv s _ H.out (Nat.le_refl _) (BX.new w lv)).mono ?_
  rintro e w1 ⟨rfl, hbx, hb⟩
  have c0 := hbx.cell
  have HB := Lib.hid (((Below.refl _ w).alloc (Nat.le_refl _) _).trans hb)
  clear hb hbx
  go_wp2
  go_ret2
  exact ⟨rfl, HB.out⟩
theorem implEG_no (lv : Bool) (s : ByteArray) (w : World) (hs : s.size ≤ maxLen) (h : okB s.data.toList = false) :
    Calls Try.prog 25 #[.bool lv, .string s] w fun e w' => e = .returned (.tuple #[.bool false, .string ⟨#[]⟩]) ∧ Below w.heap.size w w' := by
  go_enter Try.func25, Try.ntmps25
  go_wp2_with (go_at_call 24; refine (implOk_any _ _ hs).mono ?_; rintro e w' ⟨rfl, rfl⟩)
  go_ret2
  exact ⟨rfl, (Below.refl _ w).alloc (Nat.le_refl _) _⟩
theorem specEG_no (lv : Bool) (s : ByteArray) (w : World) (hs : s.size ≤ maxLen) (h : okB s.data.toList = false) :
    Calls Try.prog 28 #[.bool lv, .string s] w fun e w' => e = .returned (.tuple #[.bool false, .string ⟨#[]⟩]) ∧ Below w.heap.size w w' := by
  go_enter Try.func28, Try.ntmps28
  go_wp2_with (go_at_call 34; refine (l2Ok_any _ _ hs).mono ?_; rintro e w' ⟨rfl, rfl⟩)
  go_ret2
  exact ⟨rfl, Below.refl _ _⟩
set_option maxRecDepth 100000 in
set_option maxHeartbeats 4000000 in
theorem specEG_yes (lv : Bool) (s : ByteArray) (w : World) (h : okB s.data.toList = true) :
    Calls Try.prog 28 #[.bool lv, .string s] w fun e w' => e = .returned (.tuple #[.bool (mealy edG lv s.data.toList).1, .string ⟨(mealy edG lv s.data.toList).2.toArray⟩]) ∧ Below w.heap.size w w' := by
  have hsz := ok_size h
  have hmax : s.size ≤ maxLen := by unfold maxLen; omega
  obtain ⟨i0, hi, hz0, hz1, hz2⟩ := info_parts info_u8
  have HI := Lib.hid hi
  have HZ0 := Lib.hid hz0
  have HZ1 := Lib.hid hz1
  have HZ2 := Lib.hid hz2
  have H := Lib.hid h
  clear hi hz0 hz1 hz2
  go_enter Try.func28, Try.ntmps28
  go_wp2_with (go_at_call 34; refine (l2Ok_any _ _ hmax).mono ?_; rintro e w' ⟨rfl, rfl⟩)
  clear h
  go_loopw [0, 6, 7, 8] (fun b v i _ wr => ∃ k : Nat, k ≤ s.size ∧ i = .int .i64 k ∧ b = .bool (mealy edG lv (s.data.toList.take k)).1 ∧ OB 5 wr w.heap.size v (mealy edG lv (s.data.toList.take k)).2 ∧ Below w.heap.size w wr) (fun _ _ i _ _ => s.size - (intOf i).toNat)
  case atStart => exact ⟨0, by omega, rfl, rfl, .inr ⟨w.heap.size, 0, #[], (0, 0), rfl, Nat.le_refl _, heap_alloc_new w _, .inl rfl, Nat.le_refl _, by simp [maxLen], rfl, rfl⟩, (Below.refl _ _).alloc (Nat.le_refl _) _⟩
  case round =>
    obtain ⟨k, hk, rfl, rfl, hown, hb⟩ := hrel
    have HO := Lib.hid hown
    have HB := Lib.hid hb
    clear hown hb
    have hl2 := mealy_take_len edG lv s k
    by_cases hlt : k < s.size
    · have HS := Lib.hid (mealy_take edG lv s k hlt)
      generalize mealy edG lv (s.data.toList.take k) = M at HO HS hl2
      obtain ⟨m1, m2⟩ := M
      simp only at hl2
      rcases ok_bit H.out hlt with hb | hb <;> cases m1
      all_goals
        first
          | (have hc : ((s[k].toNat : Int) == 49) = true := by rw [hb]; rfl)
          | (have hc : ((s[k].toNat : Int) == 49) = false := by rw [hb]; rfl)
        have HBt := Lib.hid hb
        clear hb
        go_wp2_with (at_builtin; refine wpList_append_OB _ rfl _ _ 22 rfl w.heap.size 5 i0 Try.underlying22 HI.out HZ0.out HZ1.out HZ2.out _ m2 rfl (HO.out.alloc _) ⟨wr.heap.size, 0, none⟩ 1 1 [_] rfl rfl (one_new wr _ _ _ (by first | exact (rfl : byteV 48 = _) | exact (rfl : byteV 49 = _))) (by simp; omega) (by have := HB.out.size; simp; omega) ?_; intro v2 w2 hown2 hg2)
        go_roundw
        case rel =>
          refine ⟨k + 1, by omega, by go_num, by rw [HS.out, HBt.out]; rfl, by rw [HS.out, HBt.out]; exact hown2, ?_⟩
          exact (HB.out.alloc HB.out.size _).grown hg2 (by have := HB.out.size; simp; omega) (fun k hk => (HO.out.lt k hk).1)
        case measure => simp [intOf]; omega
    · have HE := Lib.hid (take_all s k (by omega))
      have hcv := run_string_of_OB (P := Try.prog) wr.drew 22 9 5 w.heap.size _ _ Try.underlying22 Try.underlying5 Try.underlying9 HO.out.drew
      go_wp2_with fail
      go_region
      go_wp2
      go_ret2
      exact ⟨by rw [HE.out]; rfl, HB.out.drew⟩
end Go.Proofs.Ytkeeigaohfillaa
