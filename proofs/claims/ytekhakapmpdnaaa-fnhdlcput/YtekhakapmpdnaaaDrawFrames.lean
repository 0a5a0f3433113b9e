/- The draw of frames. -/
import Derived.Test.YtekhakapmpdnaaaKitDraw
import Derived.Test.YtekhakapmpdnaaaStrs
import Derived.Maps.AppendAt
namespace Go.Proofs.Ytekhakapmpdnaaa
open Go.ChangeShapes Go.WideShapes Go.ChangeAt Go.RowKit
/-- strings, so many at most, none longer than so -/
def Few (ss : List ByteArray) (n m : Nat) : Prop := ss.length ≤ n ∧ ∀ s ∈ ss, s.size ≤ m
theorem Few.app {ss tt : List ByteArray} {n k m : Nat} (h : Few ss n m) (h' : Few tt k m) : Few (ss ++ tt) (n + k) m :=
  ⟨by rw [List.length_append]; have := h.1; have := h'.1; omega, fun s hs => (List.mem_append.1 hs).elim (h.2 s) (h'.2 s)⟩
def OS (w : World) (base : Nat) (v : Value) (ss : List ByteArray) : Prop := w.ownsRow base 9 1 v ss.length (ss.map strV)
theorem strV_one (l : List ByteArray) : ∀ u ∈ l.map strV, u.oneCell' = true := by
  intro u hu
  obtain ⟨b, _, rfl⟩ := List.mem_map.1 hu
  rfl
section
variable {P : Program} (w : World)
/-- append of strings that lie in a new row -/
theorem wpList_append_str {ops : Array Oper} {rest : List Oper} {o : Oper} {a : Act} {Q : Exit → Act → World → Prop} (hgd : o.guard = none) (s x : Operand) (t : TypeId)
    (ho : o.op = .call { callee := .builtin .append, args := #[s, x], argTypes := #[t, t] })
    (base : Nat) (i : TypeInfo) (ht : P.underlying t = some (.slice 9)) (hi : P.info? 9 = some i) (hz : i.zero = some (.string ⟨#[]⟩))
    (hsize : i.size = 1) (hby : i.bytes = 16) (v : Value) (l : List ByteArray) (hs : a.eval s = v) (hown : OS w base v l)
    (ad : Addr) (k c : Nat) (news : List ByteArray) (hx : a.eval x = .slice (some ad) k c) (hk : k = news.length) (hnews : ∀ j u, (news.map strV)[j]? = some u → w.cell? (ad.add j) = some u) (hlen : l.length + news.length ≤ 1000000) (hbase : base ≤ w.heap.size)
    (h : ∀ v' w', OS w' base v' (l ++ news) → w.grownBy w' v.ownBlock → wpList P ops Q rest (a.put o.dst v') w') : wpList P ops Q (o :: rest) a w := by
  subst hk
  refine wpList_plain hgd fun K hK => ?_
  obtain ⟨v', w', hr, h2, h3, _, _⟩ := run_append_own_at (P := P) w base t o.type 9 i _ 1 16 ht hi hz hsize hby rfl (by omega) v l.length (l.map strV) hown ad news.length c (news.map strV) (by simp) hnews (strV_one _) (by unfold maxLen; omega) (by omega) hbase
  unfold Oper.wp execOp
  simp only [ho, resolve, invoke, builtin, Sem.run_bind, Sem.run_pure, Result.andThen_ok, List.map_toArray, List.map_cons, List.map_nil, hs, hx, hr]
  refine hK _ _ (h v' w' ?_ h3)
  unfold OS
  rw [List.length_append, List.map_append]
  exact h2
end
theorem str_new (w : World) (X : ByteArray) : ∀ j u, ([X].map strV)[j]? = some u → (w.alloc (.cells #[.string X] 9)).cell? ((⟨w.heap.size, 0, none⟩ : Addr).add j) = some u := by
  intro j u hu
  match j, hu with
  | 0, hu => simp [strV] at hu; subst hu; simp [Addr.add]
theorem OS.alloc {w : World} {base : Nat} {v : Value} {ss : List ByteArray} (h : OS w base v ss) (o : Obj) : OS (w.alloc o) base v ss := World.ownsRow.alloc h o
theorem OS.grown {w w' : World} {base g : Nat} {v : Value} {ss : List ByteArray} (h : OS w base v ss) (hg : w.grownBy w' (some g)) (hb : g < base) : OS w' base v ss := by
  refine World.ownsRow.kept h hg ?_
  cases hv : v.ownBlock with
  | none => exact .inl rfl
  | some k => right; have := (h.lt k hv).1; simp; omega
def FramesPost (w : World) (B g N : Nat) (e : Ending) (w' : World) : Prop := ∃ v ss, e = .returned v ∧ Few ss 3 24 ∧ OS w' w.heap.size v ss ∧ Rd w' B g N ∧ w.grownBy w' (some g)
set_option maxRecDepth 100000 in
set_option maxHeartbeats 2000000 in
theorem frames_any {w : World} {B g N : Nat} (h : Rd w B g N) (hN : N + 400 ≤ 1000000000) :
    Calls Try.prog 33 #[.pointer (some ⟨g, 0, none⟩)] w (FramesPost w B g (N + 400)) := by
  obtain ⟨i0, hi, hz0, hz1, hz2⟩ := info_parts info_str
  have HI := Lib.hid hi
  have HZ0 := Lib.hid hz0
  have HZ1 := Lib.hid hz1
  have HZ2 := Lib.hid hz2
  have HR := Lib.hid h
  have hgl := h.lt
  clear h hi hz0 hz1 hz2
  have HO0 := Lib.hid (show OS (w.alloc (.cells #[] 9)) w.heap.size (.slice (some ⟨w.heap.size, 0, none⟩) 0 0) [] from ⟨by simp, .inr ⟨_, 0, #[], rfl, Nat.le_refl _, heap_alloc_new w _, by simp, by simp [maxLen], by simp, by simp⟩⟩)
  go_enter Try.func33, Try.ntmps33
  go_wp2_with fail
  refine (pick_any _ (HR.out.alloc _) (by omega)).mono ?_
  rintro e w1 ⟨⟨x, rfl, hx, _⟩, hr1, hg1⟩
  obtain ⟨h0, h1⟩ := hx (by omega)
  obtain ⟨n0, rfl⟩ := Int.eq_ofNat_of_zero_le h0
  have HR1 := Lib.hid hr1
  have HG1 := Lib.hid (grown_trans (World.grownBy_alloc w _ _) hg1)
  have HO1 := Lib.hid (HO0.out.grown hg1 hgl)
  clear hr1 hg1 hx HO0
  go_wp2_with fail
  go_loopw [3, 4] (fun v n wr => ∃ (k : Nat) (ss : List ByteArray), k ≤ 3 ∧ n = .int .i64 k ∧ Few ss (3 - k) 24 ∧ OS wr w.heap.size v ss ∧ Rd wr B g (N + 1 + 80 * (3 - k)) ∧ w.grownBy wr (some g)) (fun _ n _ => (intOf n).toNat)
  case atStart => exact ⟨n0, [], by omega, rfl, ⟨by simp, fun s hs => by simp at hs⟩, HO1.out, HR1.out.mono (by omega), HG1.out⟩
  case round =>
    obtain ⟨k, ss, hk, rfl, hfew, hown, hrd, hgr⟩ := hrel
    have HF := Lib.hid hfew
    have HO := Lib.hid hown
    have HRd := Lib.hid hrd
    have HGr := Lib.hid hgr
    have hsz0 : w.heap.size ≤ wr.heap.size := hgr.size
    have hssl := hfew.1
    clear hfew hown hrd hgr HR1 HG1 HO1
    by_cases hpos : 0 < k
    · go_wp2_with fail
      refine (one_any [0, 3, 10, 24] 3 (HRd.out.alloc _) (by omega) (by simp) (by simp) (by omega) (list_row wr _ _ _ rfl)).mono ?_
      rintro e w2 ⟨q, hq, rfl, hr2, hg2⟩
      have hq2 : 0 ≤ q ∧ q ≤ 24 := by simp at hq; omega
      obtain ⟨hq0, hq9⟩ := hq2
      obtain ⟨m, rfl⟩ := Int.eq_ofNat_of_zero_le hq0
      have HR2 := Lib.hid hr2
      have HG2 := Lib.hid (grown_trans (grown_alloc HGr.out _) hg2)
      have HO2 := Lib.hid ((HO.out.alloc _).grown hg2 hgl)
      clear hr2 hg2 hq
      go_wp2_with fail
      refine (bytes_any m HR2.out (by omega) (by omega)).mono ?_
      rintro e w3 ⟨X, rfl, hX, hr3, hg3⟩
      have HR3 := Lib.hid hr3
      have HG3 := Lib.hid (grown_trans HG2.out hg3)
      have HO3 := Lib.hid (HO2.out.grown hg3 hgl)
      have hsz3 : w.heap.size ≤ w3.heap.size := HG3.out.size
      clear hr3 hg3
      go_wp2_with (at_builtin; refine wpList_append_str _ rfl _ _ 23 rfl w.heap.size i0 Try.underlying23 HI.out HZ0.out HZ1.out HZ2.out _ ss rfl (HO3.out.alloc _) ⟨w3.heap.size, 0, none⟩ 1 1 [X] rfl rfl (str_new w3 X) (by simp; omega) (by simp; omega) ?_; intro v4 w4 hown4 hg4)
      go_roundw
      case rel =>
        have hlt3 := HO3.out.lt
        refine ⟨k - 1, ss ++ [X], by omega, val_int (by omega), ?_, hown4, ?_, ?_⟩
        · have h1 : Few [X] 1 24 := ⟨by simp, fun s hs => by rw [List.mem_singleton.1 hs]; omega⟩
          have h2 := HF.out.app h1
          exact ⟨by have := h2.1; omega, h2.2⟩
        · refine ((HR3.out.alloc _).grow hg4 (fun e => ?_) (fun j e => ?_)).mono (by omega)
          · have := (hlt3 g e).1; omega
          · have := (hlt3 j e).1
            have hB : B ≤ g := by obtain ⟨_, _, _, _, _, _, _, _, _, h5, _⟩ := HR3.out; exact h5
            omega
        · exact grown_own (grown_alloc HG3.out _) hg4 (fun j e => (hlt3 j e).1)
      case measure => simp [intOf]; omega
    · obtain rfl : k = 0 := by omega
      go_wp2
      go_ret
      exact ⟨_, ss, rfl, HF.out, HO.out, HRd.out.mono (by omega), HGr.out⟩
theorem str_news (w : World) (cs : Array Value) (news : List ByteArray) (h : cs = (news.map strV).toArray) : ∀ j u, (news.map strV)[j]? = some u → (w.alloc (.cells cs 9)).cell? ((⟨w.heap.size, 0, none⟩ : Addr).add j) = some u := by
  intro j u hu
  subst h
  rw [slit_add, cell_of_row _ _ j _ _ _ (heap_alloc_new w _)]
  simpa using hu
theorem Few.mono {ss : List ByteArray} {n m n' m' : Nat} (h : Few ss n m) (hn : n ≤ n') (hm : m ≤ m') : Few ss n' m' := ⟨Nat.le_trans h.1 hn, fun s hs => Nat.le_trans (h.2 s hs) hm⟩
def PutDraw (w : World) (e : Ending) (w' : World) : Prop := ∃ (kd : Int) (v : Value) (ss : List ByteArray), e = .returned (.tuple #[.int .i64 kd, v]) ∧ Few ss 7 100 ∧ RS w' w'.heap.size v ss ∧ Below w.heap.size w w'
set_option maxRecDepth 100000 in
set_option maxHeartbeats 2000000 in
theorem drawPut_any {w : World} (a : Option Addr) (len cap : Nat) (zs : List Int) (h : IsRow .u8 w a len cap zs) :
    Calls Try.prog 10 #[.slice a len cap] w (PutDraw w) := by
  obtain ⟨i0, hi, hz0, hz1, hz2⟩ := info_parts info_str
  have HI := Lib.hid hi
  have HZ0 := Lib.hid hz0
  have HZ1 := Lib.hid hz1
  have HZ2 := Lib.hid hz2
  have H := Lib.hid h
  clear h hi hz0 hz1 hz2
  go_enter Try.func10, Try.ntmps10
  go_wp2_with fail
  refine (open_any a len cap zs H.out).mono ?_
  rintro e w1 ⟨rfl, hr1, hb1, hs1⟩
  have HR1 := Lib.hid hr1
  have HB1 := Lib.hid hb1
  clear hr1 hb1 hs1 H
  go_wp2_with fail
  refine (kind_any HR1.out (by omega)).mono ?_
  rintro e w2 ⟨kd, _, rfl, hr2, hg2⟩
  have HR2 := Lib.hid hr2
  have HB2 := Lib.hid (HB1.out.trans (grown_below hg2 HB1.out.size (Nat.le_refl _)))
  clear hr2 hg2 HR1 HB1
  go_wp2_with fail
  refine (frames_any HR2.out (by omega)).mono ?_
  rintro e w3 ⟨v, ss, rfl, hfew, hos, hr3, hg3⟩
  have HR3 := Lib.hid hr3
  have HB3 := Lib.hid (HB2.out.trans (grown_below hg3 HB2.out.size (Nat.le_refl _)))
  have HF := Lib.hid hfew
  have hgl2 := HR2.out.lt
  have HO3 := Lib.hid hos
  have hsz2 := hg3.size
  have hsz0 := HB2.out.size
  have hssl := hfew.1
  clear hr3 hg3 hfew hos HB2
  go_wp2_with fail
  refine (pick_any _ HR3.out (by omega)).mono ?_
  rintro e w4 ⟨⟨x, rfl, hx, _⟩, hr4, hg4⟩
  have HB4 := Lib.hid (HB3.out.trans (grown_below hg4 HB3.out.size (Nat.le_refl _)))
  have HO4 := Lib.hid (HO3.out.grown hg4 hgl2)
  have hsz4 := hg4.size
  clear hr4 hg4 hx HB3 HO3 HR3 HR2
  by_cases hx0 : x = 0
  · subst hx0
    go_wp2_with (at_builtin; refine wpList_append_str _ rfl _ _ 23 rfl w2.heap.size i0 Try.underlying23 HI.out HZ0.out HZ1.out HZ2.out _ ss rfl (HO4.out.alloc _) ⟨w4.heap.size, 0, none⟩ 1 1 [⟨#[97, 32, 102, 114, 97, 109, 101, 32, 116, 104, 97, 116, 32, 105, 115, 32, 109, 117, 99, 104, 32, 116, 111, 111, 32, 108, 111, 110, 103]⟩] rfl rfl (str_news w4 _ _ rfl) (by simp; omega) (by simp; omega) ?_; intro v5 w5 hown5 hg5; have HB5 := Lib.hid ((HB4.out.alloc HB4.out.size _).grown hg5 (by have := HB4.out.size; simp; omega) (fun k hk => by have := (HO4.out.lt k hk).1; omega)); have HO5 := Lib.hid hown5; clear hown5 hg5)
    go_ret2
    exact ⟨kd, v5, _, rfl, ((HF.out.mono (Nat.le_refl _) (by omega)).app (k := 1) ⟨by simp, fun s hs => by rw [List.mem_singleton.1 hs]; decide⟩).mono (by omega) (Nat.le_refl _), RS.of_own HO5.out, HB5.out⟩
  have hb0 : ((x : Int) == 0) = false := beq_eq_false_iff_ne.2 hx0
  by_cases hx1 : x = 1
  · subst hx1
    go_wp2_with (at_builtin; refine wpList_append_str _ rfl _ _ 23 rfl w2.heap.size i0 Try.underlying23 HI.out HZ0.out HZ1.out HZ2.out _ ss rfl (HO4.out.alloc _) ⟨w4.heap.size, 0, none⟩ 4 4 [⟨#[97]⟩, ⟨#[98]⟩, ⟨#[99]⟩, ⟨#[100]⟩] rfl rfl (str_news w4 _ _ rfl) (by simp; omega) (by simp; omega) ?_; intro v5 w5 hown5 hg5; have HB5 := Lib.hid ((HB4.out.alloc HB4.out.size _).grown hg5 (by have := HB4.out.size; simp; omega) (fun k hk => by have := (HO4.out.lt k hk).1; omega)); have HO5 := Lib.hid hown5; clear hown5 hg5)
    go_ret2
    refine ⟨kd, v5, _, rfl, (HF.out.mono (Nat.le_refl _) (by omega)).app (k := 4) ⟨by simp, fun s hs => ?_⟩, RS.of_own HO5.out, HB5.out⟩
    simp only [List.mem_cons, List.not_mem_nil, or_false] at hs
    rcases hs with rfl | rfl | rfl | rfl <;> decide
  have hb1 : ((x : Int) == 1) = false := beq_eq_false_iff_ne.2 hx1
  go_wp2
  go_ret2
  exact ⟨kd, v, ss, rfl, HF.out.mono (by omega) (by omega), RS.of_own HO4.out, HB4.out⟩
end Go.Proofs.Ytekhakapmpdnaaa
