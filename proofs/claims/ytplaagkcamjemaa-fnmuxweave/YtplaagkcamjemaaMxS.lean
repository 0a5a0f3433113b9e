/- MuxTake of the model, where the Mux is ok. -/
import Derived.Test.YtplaagkcamjemaaMxN
import Derived.Test.YtplaagkcamjemaaKitBits
import Derived.Deep.RegionHeld3
import Derived.RegionTactic
namespace Go.Proofs.Ytplaagkcamjemaa
open Go.ChangeShapes Go.WideShapes Go.ChangeAt Go.RowKit
theorem mux_ret2 {k j : Nat} {f : Func} {v u : Value} {W : World} {g : Nat} {A : Act} {Q : Ending → World → Prop} (hf : f.results = #[.cell k 35, .tmp j]) (hq : BK W g #[v] 35)
    (hs : A.tmps.getD k undef = .pointer (some ⟨g, 0, none⟩)) (hj : A.tmps.getD j undef = u) (hd : A.defers = []) (hQ : Q (.returned (.tuple #[.agg #[v], u])) W) : bodyPost Try.prog f Q .ret A W := by
  have z0 := hq.cell (i := 0) rfl
  have hs2 : A.tmps[k]?.getD undef = .pointer (some ⟨g, 0, none⟩) := by rw [← hs]; simp
  have hj2 : A.tmps[j]?.getD undef = u := by rw [← hj]; simp
  refine bodyPost_ret (v := .tuple #[.agg #[v], u]) ?_ hd hQ
  simp [results, hf, go_sem, hs2, hj2, z0]
theorem strs_set (ss : List ByteArray) (c : Nat) (l : List UInt8) : strs ((txts ss).set c l) = ss.set c ⟨l.toArray⟩ := by
  have e : strs ((txts ss).set c l) = (strs (txts ss)).set c ⟨l.toArray⟩ := by unfold strs; rw [List.map_set]
  rw [e, strs_txts]
theorem txts_get {ss : List ByteArray} {c : Nat} (h : c < ss.length) : (txts ss).getD c [] = ss[c].data.toList := by
  unfold txts
  rw [List.getD, List.getElem?_eq_getElem (by rw [List.length_map]; exact h)]
  simp
def TakePost (w : World) (ss : List ByteArray) (T : List UInt8) (e : Ending) (w' : World) : Prop :=
  ∃ v u, e = .returned (.tuple #[.agg #[v], u]) ∧ OS w' w.heap.size v (strs (takeOpen (txts ss) T)) ∧ OE w' w.heap.size u (takeTold (txts ss) T) ∧ Below w.heap.size w w'
theorem bz0 {s : ByteArray} (h : s.size = 0) : s = ⟨#[]⟩ := by
  have : s.data.toList = [] := List.eq_nil_of_length_eq_zero (by rw [size_list]; exact h)
  rw [← Lib.mk_data s, this]
theorem bze (s : ByteArray) : s.toList.isEmpty = decide (s.size = 0) := by
  rw [Lib.toList_data, ← size_list]
  cases s.data.toList <;> rfl
theorem hd0 (s : ByteArray) (h : 0 < s.size) : s.data.toList.headD 0 = s[0] := by
  have hl := size_list s
  have e := List.drop_eq_getElem_cons (l := s.data.toList) (i := 0) (by omega)
  rw [List.drop_zero] at e
  rw [e]; rfl
theorem oe_new (w : World) (base : Nat) (hb : base ≤ w.heap.size) (c : Int) (J : ByteArray) : OE (w.alloc (.cells #[.int .i64 c, .string J] 32)) base (.slice (some ⟨w.heap.size, 0, none⟩) 1 1) [⟨c, J.data.toList⟩] :=
  ⟨rfl, .inr ⟨w.heap.size, 1, _, rfl, hb, heap_alloc_new w _, Nat.le_refl _, by simp [maxLen], rfl, rfl⟩⟩
theorem oe_far {w : World} {base : Nat} {v : Value} {l : List Ev} (h : OE w base v l) {g : Nat} (hne : ¬ v.ownBlock = some g) (o : Nat) (u : Value) : OE (w.setCell ⟨g, o, none⟩ u) base v l :=
  h.kept (grown_set (w := w) (row := some g) ⟨rfl, rfl, rfl, Nat.le_refl _, fun _ _ _ => rfl⟩ rfl o u) (.inr hne)
theorem OS.far {w : World} {base : Nat} {v : Value} {ss : List ByteArray} (h : OS w base v ss) {g : Nat} (hne : ¬ v.ownBlock = some g) (o : Nat) (u : Value) : OS (w.setCell ⟨g, o, none⟩ u) base v ss :=
  h.kept (grown_set (w := w) (row := some g) ⟨rfl, rfl, rfl, Nat.le_refl _, fun _ _ _ => rfl⟩ rfl o u) (.inr hne)
set_option maxRecDepth 100000 in
set_option maxHeartbeats 8000000 in
theorem specTake_none (v : Value) (ss : List ByteArray) (t : ByteArray) (w : World) (B : Nat) (h : RS w B v ss) (hB : B ≤ w.heap.size) (hok : muxSB ss = true) (ht : t.size ≤ 1048576) (h0 : t.size = 0) :
    Calls Try.prog 17 #[.agg #[v], .string t] w (TakePost w ss t.data.toList) := by
  have h3 : ss.length = 3 := by unfold muxSB at hok; rw [Bool.and_eq_true, decide_eq_true_eq] at hok; exact hok.1
  have hsh : ∀ q ∈ ss, q.size ≤ 600 := by
    unfold muxSB shortB at hok
    rw [Bool.and_eq_true, List.all_eq_true] at hok
    intro q hq
    exact of_decide_eq_true (hok.2 q hq)
  have H3 := Lib.hid h3
  clear h3
  have e0 : t = ⟨#[]⟩ := bz0 h0
  subst e0
  have HTO := Lib.hid (show strs (takeOpen (txts ss) []) = ss by
    rw [takeOpen, if_neg (by simp [isPiece]), strs_txts])
  have HTT := Lib.hid (show takeTold (txts ss) [] = [] by
    rw [takeTold, if_neg (by simp [isPiece])])
  obtain ⟨i0, hi, hz0, hz1, hz2⟩ := info_parts info_str
  have HI := Lib.hid hi
  have HZ0 := Lib.hid hz0
  have HZ1 := Lib.hid hz1
  have HZ2 := Lib.hid hz2
  have hzm := zero_mux
  obtain ⟨a, cap, rfl⟩ := h.shape
  have hb2 : Below w.heap.size w ((w.alloc (.cells #[.slice a ss.length cap] 35)).alloc (.cells #[.slice none 0 0] 35)) := ((Below.refl _ w).alloc (Nat.le_refl _) _).alloc (by simp) _
  have k0 := (BK.new w #[.slice a ss.length cap] 35).alloc (.cells #[.slice none 0 0] 35)
  have k1 := BK.new (w.alloc (.cells #[.slice a ss.length cap] 35)) #[.slice none 0 0] 35
  rw [World.size_alloc] at k1
  have c0 := k0.cell (i := 0) rfl
  have HR := Lib.hid (h.below (hb2.mono hB))
  have HB := Lib.hid hb2
  have HK0 := Lib.hid k0
  have HK1 := Lib.hid k1
  have HOK := Lib.hid hok
  have HSH := Lib.hid hsh
  clear hi hz0 hz1 hz2 h k0 k1 hb2 hok hsh
  go_enter Try.func17, Try.ntmps17
  go_wp2_with fail
  refine (l11Ok_any _ ss _ B HR.out (Nat.le_trans hB HB.out.size) (by have := H3.out; omega)).mono ?_
  rintro e w1 ⟨rfl, hb⟩
  rw [HOK.out]
  have HR := Lib.hid (HR.out.below (hb.mono (Nat.le_trans hB HB.out.size)))
  have HK0 := Lib.hid (HK0.out.from hb)
  have HK1 := Lib.hid (HK1.out.from hb)
  have HB := Lib.hid (HB.out.trans (hb.mono HB.out.size))
  have c0 := (HK0.out.alloc (.cells #[] 9)).cell (i := 0) rfl
  have hw1 := HB.out.size
  clear hb
  go_wp2_with (at_builtin; refine wpList_append_os _ rfl _ _ 25 rfl w.heap.size i0 Try.underlying25 HI.out HZ0.out HZ1.out HZ2.out _ _ rfl (OS_made w1 rfl) _ _ ss rfl (HR.out.below ((Below.refl _ _).alloc (Nat.le_trans hB HB.out.size) _)) (by have := H3.out; simp; omega) (by simp; omega) ?_; intro v3 w3 hown3 hg3 _; rw [List.nil_append] at hown3; obtain ⟨g3, c3, hv3, hg31, hg32⟩ := hown3.pos (by have := H3.out; omega); subst hv3; have k13 := ((HK1.out.alloc (.cells #[] 9)).grown hg3 (fun e => (OS_made (base := w.heap.size) w1 rfl).not_box (HK1.out.alloc _) (by decide) e)).alloc (.cells #[.slice (some ⟨g3, 0, none⟩) ss.length c3] 35); have d1 := k13.cell (i := 0) rfl; have f1 := k13.free 0; have k6 := BK.new w3 #[.slice (some ⟨g3, 0, none⟩) ss.length c3] 35; have d6 := k6.cell (i := 0) rfl; have HO := Lib.hid (hown3.alloc (.cells #[.slice (some ⟨g3, 0, none⟩) ss.length c3] 35)); have HB3 := Lib.hid (((HB.out.alloc HB.out.size (.cells #[] 9)).grown hg3 (by simp; omega) (fun k hk => ((OS_made (base := w.heap.size) w1 rfl).low k hk).1)).alloc (by have := hg3.size; simp at this; omega) (.cells #[.slice (some ⟨g3, 0, none⟩) ss.length c3] 35)); have HK13 := Lib.hid k13; have HK6 := Lib.hid k6; clear hown3 hg3 k13 k6)
  have HNB := Lib.hid (HO.out.not_box HK13.out (by decide))
  exact mux_ret2 rfl (HK13.out.set 0 _) rfl rfl rfl ⟨_, _, rfl, by rw [HTO.out]; exact HO.out.far HNB.out _ _, by rw [HTT.out]; exact World.ownsRow_nil _ _ _ _, HB3.out.setCell (p := ⟨w.heap.size + 1, 0, none⟩) (by simp) _⟩
set_option maxRecDepth 100000 in
set_option maxHeartbeats 8000000 in
theorem specTake_other (v : Value) (ss : List ByteArray) (t : ByteArray) (w : World) (B : Nat) (h : RS w B v ss) (hB : B ≤ w.heap.size) (hok : muxSB ss = true) (ht : t.size ≤ 1048576) (h0 : 0 < t.size) (h1 : 3 ≤ t[0].toNat % 128) :
    Calls Try.prog 17 #[.agg #[v], .string t] w (TakePost w ss t.data.toList) := by
  have h3 : ss.length = 3 := by unfold muxSB at hok; rw [Bool.and_eq_true, decide_eq_true_eq] at hok; exact hok.1
  have hsh : ∀ q ∈ ss, q.size ≤ 600 := by
    unfold muxSB shortB at hok
    rw [Bool.and_eq_true, List.all_eq_true] at hok
    intro q hq
    exact of_decide_eq_true (hok.2 q hq)
  have H3 := Lib.hid h3
  clear h3
  have hne : t.toList.isEmpty = false := by rw [bze]; exact decide_eq_false (by omega)
  have HL1 := Lib.hid (show isPiece t.data.toList = false by
    have e : chOf t.data.toList = t[0].toNat % 128 := by unfold chOf headN; rw [hd0 t h0]
    unfold isPiece; rw [e]; exact decide_eq_false (by omega))
  have HTO := Lib.hid (show strs (takeOpen (txts ss) t.data.toList) = ss by rw [takeOpen, HL1.out, if_neg (by decide), strs_txts])
  have HTT := Lib.hid (show takeTold (txts ss) t.data.toList = [] by rw [takeTold, HL1.out, if_neg (by simp)])
  have hb8 := UInt8.toNat_lt t[0]
  have hdec : decide ((3 : Int) ≤ (t[0].toNat : Int) % 128) = true := decide_eq_true (by omega)
  have hdec2 : (3 : Int) ≤ (t[0].toNat : Int) % 128 := by omega
  obtain ⟨i0, hi, hz0, hz1, hz2⟩ := info_parts info_str
  have HI := Lib.hid hi
  have HZ0 := Lib.hid hz0
  have HZ1 := Lib.hid hz1
  have HZ2 := Lib.hid hz2
  have hzm := zero_mux
  obtain ⟨a, cap, rfl⟩ := h.shape
  have hb2 : Below w.heap.size w ((w.alloc (.cells #[.slice a ss.length cap] 35)).alloc (.cells #[.slice none 0 0] 35)) := ((Below.refl _ w).alloc (Nat.le_refl _) _).alloc (by simp) _
  have k0 := (BK.new w #[.slice a ss.length cap] 35).alloc (.cells #[.slice none 0 0] 35)
  have k1 := BK.new (w.alloc (.cells #[.slice a ss.length cap] 35)) #[.slice none 0 0] 35
  rw [World.size_alloc] at k1
  have c0 := k0.cell (i := 0) rfl
  have HR := Lib.hid (h.below (hb2.mono hB))
  have HB := Lib.hid hb2
  have HK0 := Lib.hid k0
  have HK1 := Lib.hid k1
  have HOK := Lib.hid hok
  have HSH := Lib.hid hsh
  clear hi hz0 hz1 hz2 h k0 k1 hb2 hok hsh
  go_enter Try.func17, Try.ntmps17
  go_wp2_with fail
  refine (l11Ok_any _ ss _ B HR.out (Nat.le_trans hB HB.out.size) (by have := H3.out; omega)).mono ?_
  rintro e w1 ⟨rfl, hb⟩
  rw [HOK.out]
  have HR := Lib.hid (HR.out.below (hb.mono (Nat.le_trans hB HB.out.size)))
  have HK0 := Lib.hid (HK0.out.from hb)
  have HK1 := Lib.hid (HK1.out.from hb)
  have HB := Lib.hid (HB.out.trans (hb.mono HB.out.size))
  have c0 := (HK0.out.alloc (.cells #[] 9)).cell (i := 0) rfl
  have hw1 := HB.out.size
  clear hb
  go_wp2_with (at_builtin; refine wpList_append_os _ rfl _ _ 25 rfl w.heap.size i0 Try.underlying25 HI.out HZ0.out HZ1.out HZ2.out _ _ rfl (OS_made w1 rfl) _ _ ss rfl (HR.out.below ((Below.refl _ _).alloc (Nat.le_trans hB HB.out.size) _)) (by have := H3.out; simp; omega) (by simp; omega) ?_; intro v3 w3 hown3 hg3 _; rw [List.nil_append] at hown3; obtain ⟨g3, c3, hv3, hg31, hg32⟩ := hown3.pos (by have := H3.out; omega); subst hv3; have k13 := ((HK1.out.alloc (.cells #[] 9)).grown hg3 (fun e => (OS_made (base := w.heap.size) w1 rfl).not_box (HK1.out.alloc _) (by decide) e)).alloc (.cells #[.slice (some ⟨g3, 0, none⟩) ss.length c3] 35); have d1 := k13.cell (i := 0) rfl; have f1 := k13.free 0; have k6 := BK.new w3 #[.slice (some ⟨g3, 0, none⟩) ss.length c3] 35; have d6 := k6.cell (i := 0) rfl; have HO := Lib.hid (hown3.alloc (.cells #[.slice (some ⟨g3, 0, none⟩) ss.length c3] 35)); have HB3 := Lib.hid (((HB.out.alloc HB.out.size (.cells #[] 9)).grown hg3 (by simp; omega) (fun k hk => ((OS_made (base := w.heap.size) w1 rfl).low k hk).1)).alloc (by have := hg3.size; simp at this; omega) (.cells #[.slice (some ⟨g3, 0, none⟩) ss.length c3] 35)); have HK13 := Lib.hid k13; have HK6 := Lib.hid k6; clear hown3 hg3 k13 k6)
  have HNB := Lib.hid (HO.out.not_box HK13.out (by decide))
  exact mux_ret2 rfl (HK13.out.set 0 _) rfl rfl rfl ⟨_, _, rfl, by rw [HTO.out]; exact HO.out.far HNB.out _ _, by rw [HTT.out]; exact World.ownsRow_nil _ _ _ _, HB3.out.setCell (p := ⟨w.heap.size + 1, 0, none⟩) (by simp) _⟩
set_option maxRecDepth 100000 in
set_option maxHeartbeats 8000000 in
theorem specTake_piece (v : Value) (ss : List ByteArray) (t : ByteArray) (w : World) (B : Nat) (h : RS w B v ss) (hB : B ≤ w.heap.size) (hok : muxSB ss = true) (ht : t.size ≤ 1048576) (h0 : 0 < t.size) (h1 : t[0].toNat % 128 < 3) :
    Calls Try.prog 17 #[.agg #[v], .string t] w (TakePost w ss t.data.toList) := by
  have h3 : ss.length = 3 := by unfold muxSB at hok; rw [Bool.and_eq_true, decide_eq_true_eq] at hok; exact hok.1
  have hsh : ∀ q ∈ ss, q.size ≤ 600 := by
    unfold muxSB shortB at hok
    rw [Bool.and_eq_true, List.all_eq_true] at hok
    intro q hq
    exact of_decide_eq_true (hok.2 q hq)
  have H3 := Lib.hid h3
  clear h3
  have hne : t.toList.isEmpty = false := by rw [bze]; exact decide_eq_false (by omega)
  have hb8 := UInt8.toNat_lt t[0]
  obtain ⟨c, hc⟩ : ∃ c, c = t[0].toNat % 128 := ⟨_, rfl⟩
  have hc3 : c < 3 := by omega
  have hci : (t[0].toNat : Int) % 128 = (c : Int) := by omega
  have hci2 : (t[0].toNat : Int).tmod 128 = (c : Int) := by rw [Int.tmod_eq_emod_of_nonneg (by omega)]; exact hci
  have hdec : decide ((3 : Int) ≤ (c : Int)) = false := decide_eq_false (by omega)
  have hdec2 : ¬ (3 : Int) ≤ (t[0].toNat : Int) % 128 := by omega
  clear hc h1
  obtain ⟨i0, hi, hz0, hz1, hz2⟩ := info_parts info_str
  have HI := Lib.hid hi
  have HZ0 := Lib.hid hz0
  have HZ1 := Lib.hid hz1
  have HZ2 := Lib.hid hz2
  have hzm := zero_mux
  obtain ⟨a, cap, rfl⟩ := h.shape
  have hb2 : Below w.heap.size w ((w.alloc (.cells #[.slice a ss.length cap] 35)).alloc (.cells #[.slice none 0 0] 35)) := ((Below.refl _ w).alloc (Nat.le_refl _) _).alloc (by simp) _
  have k0 := (BK.new w #[.slice a ss.length cap] 35).alloc (.cells #[.slice none 0 0] 35)
  have k1 := BK.new (w.alloc (.cells #[.slice a ss.length cap] 35)) #[.slice none 0 0] 35
  rw [World.size_alloc] at k1
  have c0 := k0.cell (i := 0) rfl
  have HR := Lib.hid (h.below (hb2.mono hB))
  have HB := Lib.hid hb2
  have HK0 := Lib.hid k0
  have HK1 := Lib.hid k1
  have HOK := Lib.hid hok
  have HSH := Lib.hid hsh
  clear hi hz0 hz1 hz2 h k0 k1 hb2 hok hsh
  go_enter Try.func17, Try.ntmps17
  go_wp2_with fail
  refine (l11Ok_any _ ss _ B HR.out (Nat.le_trans hB HB.out.size) (by have := H3.out; omega)).mono ?_
  rintro e w1 ⟨rfl, hb⟩
  rw [HOK.out]
  have HR := Lib.hid (HR.out.below (hb.mono (Nat.le_trans hB HB.out.size)))
  have HK0 := Lib.hid (HK0.out.from hb)
  have HK1 := Lib.hid (HK1.out.from hb)
  have HB := Lib.hid (HB.out.trans (hb.mono HB.out.size))
  have c0 := (HK0.out.alloc (.cells #[] 9)).cell (i := 0) rfl
  have hw1 := HB.out.size
  clear hb
  go_wp2_with (at_builtin; refine wpList_append_os _ rfl _ _ 25 rfl w.heap.size i0 Try.underlying25 HI.out HZ0.out HZ1.out HZ2.out _ _ rfl (OS_made w1 rfl) _ _ ss rfl (HR.out.below ((Below.refl _ _).alloc (Nat.le_trans hB HB.out.size) _)) (by have := H3.out; simp; omega) (by simp; omega) ?_; intro v3 w3 hown3 hg3 _; rw [List.nil_append] at hown3; obtain ⟨g3, c3, hv3, hg31, hg32⟩ := hown3.pos (by have := H3.out; omega); subst hv3; have k13 := ((HK1.out.alloc (.cells #[] 9)).grown hg3 (fun e => (OS_made (base := w.heap.size) w1 rfl).not_box (HK1.out.alloc _) (by decide) e)).alloc (.cells #[.slice (some ⟨g3, 0, none⟩) ss.length c3] 35); have d1 := k13.cell (i := 0) rfl; have f1 := k13.free 0; have k6 := BK.new w3 #[.slice (some ⟨g3, 0, none⟩) ss.length c3] 35; have d6 := k6.cell (i := 0) rfl; have HO := Lib.hid (hown3.alloc (.cells #[.slice (some ⟨g3, 0, none⟩) ss.length c3] 35)); have HB3 := Lib.hid (((HB.out.alloc HB.out.size (.cells #[] 9)).grown hg3 (by simp; omega) (fun k hk => ((OS_made (base := w.heap.size) w1 rfl).low k hk).1)).alloc (by have := hg3.size; simp at this; omega) (.cells #[.slice (some ⟨g3, 0, none⟩) ss.length c3] 35)); have HK13 := Lib.hid k13; have HK6 := Lib.hid k6; clear hown3 hg3 k13 k6)
  have HNB := Lib.hid (HO.out.not_box HK13.out (by decide))
  have HN6 := Lib.hid (HO.out.not_box HK6.out (by decide))
  have HNG1 := Lib.hid (show g3 ≠ w.heap.size + 1 from fun e => HNB.out (by rw [e]; rfl))
  have HNG6 := Lib.hid (show g3 ≠ w3.heap.size from fun e => HN6.out (by rw [e]; rfl))
  have hcl : c < ss.length := by have := H3.out; omega
  have hcli : (c : Int) < (ss.length : Int) := by omega
  have dc := HO.out.cellAt hcl
  have fc := HO.out.freeAt c
  have hXs := HSH.out ss[c] (List.getElem_mem hcl)
  have HGX := Lib.hid (txts_get hcl)
  obtain ⟨X, hX⟩ : ∃ X, X = ss[c] := ⟨_, rfl⟩
  rw [← hX] at dc hXs HGX
  obtain ⟨D, hD⟩ : ∃ D, D = t.extract 1 t.size := ⟨_, rfl⟩
  have HD := Lib.hid (show D.data.toList = t.data.toList.drop 1 by rw [hD]; exact ext_drop t 1)
  have hDs : D.size ≤ 1048576 := by rw [← size_list D, HD.out, List.length_drop, size_list]; omega
  have hs2 : ∀ u : World, (Instr.slice 9 (.string t) (some (.int .i64 1)) none none).run Try.prog u = .ok (.string D) u := fun u => by rw [hD]; exact mslice_from t 1 (by omega) u
  obtain ⟨J, hJ⟩ : ∃ J, J = X ++ D := ⟨_, rfl⟩
  have hadd : ∀ u : World, (Op.stringOp .add X D).run Try.prog u = .ok (.string J) u := fun u => by rw [hJ]; exact run_string_add_sum u _ _ (by omega)
  have HJ := Lib.hid (show joinL ((txts ss).getD c []) t.data.toList = J.data.toList by rw [HGX.out, joinL, ← HD.out, hJ]; simp)
  have HJS := Lib.hid (size_list J)
  have HCH := Lib.hid (show isPiece t.data.toList = true ∧ chOf t.data.toList = c ∧ headN t.data.toList = t[0].toNat by
    have e : headN t.data.toList = t[0].toNat := by unfold headN; rw [hd0 t h0]
    have e2 : chOf t.data.toList = c := by unfold chOf; rw [e]; omega
    refine ⟨?_, e2, e⟩
    unfold isPiece; rw [e2]
    refine decide_eq_true ⟨fun h => ?_, hc3⟩
    have := size_list t; rw [h] at this; simp at this; omega)
  have HTO := Lib.hid (show strs (takeOpen (txts ss) t.data.toList) = ss.set c (if 600 < J.size ∨ 128 ≤ t[0].toNat then ⟨#[]⟩ else J) by
    unfold takeOpen
    rw [if_pos HCH.out.1, HCH.out.2.1, HCH.out.2.2, HJ.out, HJS.out, strs_set]
    congr 1
    split <;> rfl)
  have HTT := Lib.hid (show takeTold (txts ss) t.data.toList = if ¬ 600 < J.size ∧ 128 ≤ t[0].toNat then [⟨(c : Nat), J.data.toList⟩] else [] by
    unfold takeTold
    rw [HCH.out.2.1, HCH.out.2.2, HJ.out, HJS.out]
    simp only [HCH.out.1, true_and])
  have hS := And.intro d6 dc
  clear hX hD hJ
  refine wp_region_held_drew (S := (fun wx => wx.cell? ⟨w3.heap.size, 0, none⟩ = some (.slice (some ⟨g3, 0, none⟩) ss.length c3) ∧ wx.cell? ⟨g3, c, none⟩ = some (.string X))) (by kernel_rfl) hS (fun hHeld => ?_)
  refine wpAnyH_take (i := 0) (v := ?_) rfl (by kernel_rfl) (by kernel_rfl) (by kernel_rfl) (fun _ _ _ h => h) (Or.inl ⟨by rfl, ?_⟩) (by assumption) ?_
  rotate_left
  · intro wq hSw
    (try dsimp only at hSw)
    (try simp only [List.getElem_toArray, List.getElem_cons_zero])
    go_simp
    (try with_reducible rfl)
  simp only [Act.put, List.getElem_toArray, List.getElem_cons_zero, List.setIfInBounds_toArray, List.set_cons_zero, List.set_cons_succ]
  refine wpAnyH_take (i := 1) (v := ?_) rfl (by kernel_rfl) (by kernel_rfl) (by kernel_rfl) (fun _ _ _ h => h) (Or.inl ⟨by rfl, ?_⟩) (by assumption) ?_
  rotate_left
  · intro wq hSw
    (try dsimp only at hSw)
    (try simp only [List.getElem_toArray, List.getElem_cons_succ, List.getElem_cons_zero])
    go_simp
    (try with_reducible rfl)
  simp only [Act.put, List.getElem_toArray, List.getElem_cons_succ, List.getElem_cons_zero, List.setIfInBounds_toArray, List.set_cons_zero, List.set_cons_succ]
  refine wpAnyH_take (i := 2) (v := ?_) rfl (by kernel_rfl) (by kernel_rfl) (by kernel_rfl) (fun _ _ _ h => h) (Or.inl ⟨by rfl, ?_⟩) (by assumption) ?_
  rotate_left
  · intro wq hSw
    (try dsimp only at hSw)
    (try simp only [List.getElem_toArray, List.getElem_cons_succ, List.getElem_cons_zero])
    go_simp
    (try with_reducible rfl)
  simp only [Act.put, List.getElem_toArray, List.getElem_cons_succ, List.getElem_cons_zero, List.setIfInBounds_toArray, List.set_cons_zero, List.set_cons_succ]
  refine wpAnyH_take (i := 3) (v := ?_) rfl (by kernel_rfl) (by kernel_rfl) (by kernel_rfl) (fun _ _ _ h => h) (Or.inl ⟨by rfl, ?_⟩) (by assumption) ?_
  rotate_left
  · intro wq hSw
    (try dsimp only at hSw)
    (try simp only [List.getElem_toArray, List.getElem_cons_succ, List.getElem_cons_zero])
    go_simp
    (try with_reducible rfl)
  simp only [Act.put, List.getElem_toArray, List.getElem_cons_succ, List.getElem_cons_zero, List.setIfInBounds_toArray, List.set_cons_zero, List.set_cons_succ]
  refine wpAnyH_take (i := 4) (v := ?_) rfl (by kernel_rfl) (by kernel_rfl) (by kernel_rfl) (fun _ _ _ h => h) (Or.inl ⟨by rfl, ?_⟩) (by assumption) ?_
  rotate_left
  · intro wq hSw
    (try dsimp only at hSw)
    (try simp only [List.getElem_toArray, List.getElem_cons_succ, List.getElem_cons_zero])
    go_simp
    (try with_reducible rfl)
  simp only [Act.put, List.getElem_toArray, List.getElem_cons_succ, List.getElem_cons_zero, List.setIfInBounds_toArray, List.set_cons_zero, List.set_cons_succ]
  refine wpAnyH_take (i := 5) (v := ?_) rfl (by kernel_rfl) (by kernel_rfl) (by kernel_rfl) (fun _ _ _ h => h) (Or.inl ⟨by rfl, ?_⟩) (by assumption) ?_
  rotate_left
  · intro wq hSw
    (try dsimp only at hSw)
    (try simp only [List.getElem_toArray, List.getElem_cons_succ, List.getElem_cons_zero])
    go_simp
    (try with_reducible rfl)
  simp only [Act.put, List.getElem_toArray, List.getElem_cons_succ, List.getElem_cons_zero, List.setIfInBounds_toArray, List.set_cons_zero, List.set_cons_succ]
  refine wpAnyH_take (i := 6) (v := ?_) rfl (by kernel_rfl) (by kernel_rfl) (by kernel_rfl) (fun _ _ _ h => h) (Or.inl ⟨by rfl, ?_⟩) (by assumption) ?_
  rotate_left
  · intro wq hSw
    (try dsimp only at hSw)
    (try simp only [List.getElem_toArray, List.getElem_cons_succ, List.getElem_cons_zero])
    go_simp
    (try with_reducible rfl)
  simp only [Act.put, List.getElem_toArray, List.getElem_cons_succ, List.getElem_cons_zero, List.setIfInBounds_toArray, List.set_cons_zero, List.set_cons_succ]
  refine wpAnyH_take (i := 7) (v := ?_) rfl (by kernel_rfl) (by kernel_rfl) (by kernel_rfl) (fun _ _ _ h => h) (Or.inl ⟨by rfl, ?_⟩) (by assumption) ?_
  rotate_left
  · intro wq hSw
    (try dsimp only at hSw)
    (try simp only [List.getElem_toArray, List.getElem_cons_succ, List.getElem_cons_zero])
    go_simp
    (try with_reducible rfl)
  simp only [Act.put, List.getElem_toArray, List.getElem_cons_succ, List.getElem_cons_zero, List.setIfInBounds_toArray, List.set_cons_zero, List.set_cons_succ]
  refine wpAnyH_take (i := 8) (v := ?_) rfl (by kernel_rfl) (by kernel_rfl) (by kernel_rfl) (fun _ _ _ h => h) (Or.inl ⟨by rfl, ?_⟩) (by assumption) ?_
  rotate_left
  · intro wq hSw
    (try dsimp only at hSw)
    (try simp only [List.getElem_toArray, List.getElem_cons_succ, List.getElem_cons_zero])
    go_simp
    (try with_reducible rfl)
  simp only [Act.put, List.getElem_toArray, List.getElem_cons_succ, List.getElem_cons_zero, List.setIfInBounds_toArray, List.set_cons_zero, List.set_cons_succ]
  refine wpAnyH_done (by kernel_rfl) ?_ _
  clear hHeld hS hs2 hadd
  have k6 := HK6.out.drew
  have k1 := HK13.out.drew
  have dcd := HO.out.drew.cellAt hcl
  have fcd := HO.out.drew.freeAt c
  have d6d := k6.cell (i := 0) rfl
  have H0 := Lib.hid (show BK ((w3.alloc (.cells #[.slice (some ⟨g3, 0, none⟩) ss.length c3] 35)).drew) w3.heap.size #[.slice (some ⟨g3, 0, none⟩) ss.length c3] 35 from k6)
  generalize ss[c]'hcl = Xo at *
  have HOd := Lib.hid HO.out.drew
  have HBd := Lib.hid HB3.out.drew
  have HWS := Lib.hid (show w.heap.size + 1 < ((w3.alloc (.cells #[.slice (some ⟨g3, 0, none⟩) ss.length c3] 35)).drew).heap.size from k1.lt)
  generalize hW : (w3.alloc (.cells #[.slice (some ⟨g3, 0, none⟩) ss.length c3] 35)).drew = W at *
  clear d1 d6 f1 dc fc HO HB3 HK6 HK13 HK0 HK1 HR HB hW
  have hlong : (600 < J.size) ∨ ¬ (600 < J.size) := Decidable.em _
  rcases hlong with hlong | hlong
  · have e6 := (k6.far (j := g3) (o := c) HNG6.out (.string ⟨#[]⟩)).cell (i := 0) rfl
    have k1s := k1.far (j := g3) (o := c) HNG1.out (.string ⟨#[]⟩)
    have e1 := k1s.cell (i := 0) rfl
    have r1 := k1s.free 0
    have HK := Lib.hid k1s
    have HOS := Lib.hid (HOd.out.stored c ⟨#[]⟩)
    have HNS := Lib.hid (HOS.out.not_box k1s (by decide))
    clear k1 k6 k1s
    go_wp2
    exact mux_ret2 rfl (HK.out.set 0 _) rfl rfl rfl ⟨_, _, rfl, by rw [HTO.out, if_pos (.inl hlong)]; exact HOS.out.far HNS.out _ _, by rw [HTT.out, if_neg (fun h => h.1 hlong)]; exact World.ownsRow_nil _ _ _ _, (HBd.out.setCell (p := ⟨g3, c, none⟩) hg31 _).setCell (p := ⟨w.heap.size + 1, 0, none⟩) (by simp) _⟩
  by_cases hlast : t[0].toNat < 128
  · have e6 := (k6.far (j := g3) (o := c) HNG6.out (.string J)).cell (i := 0) rfl
    have k1s := k1.far (j := g3) (o := c) HNG1.out (.string J)
    have e1 := k1s.cell (i := 0) rfl
    have r1 := k1s.free 0
    have HK := Lib.hid k1s
    have HOS := Lib.hid (HOd.out.stored c J)
    have HNS := Lib.hid (HOS.out.not_box k1s (by decide))
    clear k1 k6 k1s
    go_wp2
    exact mux_ret2 rfl (HK.out.set 0 _) rfl rfl rfl ⟨_, _, rfl, by rw [HTO.out, if_neg (by omega)]; exact HOS.out.far HNS.out _ _, by rw [HTT.out, if_neg (by omega)]; exact World.ownsRow_nil _ _ _ _, (HBd.out.setCell (p := ⟨g3, c, none⟩) hg31 _).setCell (p := ⟨w.heap.size + 1, 0, none⟩) (by simp) _⟩
  · have e6 := (k6.far (j := g3) (o := c) HNG6.out (.string ⟨#[]⟩)).cell (i := 0) rfl
    have k1s := (k1.far (j := g3) (o := c) HNG1.out (.string ⟨#[]⟩)).alloc (.cells #[.int .i64 (c : Int), .string J] 32)
    have e1 := k1s.cell (i := 0) rfl
    have r1 := k1s.free 0
    have HK := Lib.hid k1s
    have HOS := Lib.hid ((HOd.out.stored c ⟨#[]⟩).alloc (.cells #[.int .i64 (c : Int), .string J] 32))
    have HNS := Lib.hid (HOS.out.not_box k1s (by decide))
    clear k1 k6 k1s
    have HE := Lib.hid (oe_new (W.setCell ⟨g3, c, none⟩ (.string ⟨#[]⟩)) w.heap.size (by have := HBd.out.size; simpa using this) (c : Int) J)
    have hWs : W.heap.size ≠ w.heap.size + 1 := by intro e; have h1 := HK.out.lt; have h2 := HWS.out; omega
    go_wp2
    refine mux_ret2 rfl (HK.out.set 0 _) rfl rfl rfl ⟨_, _, rfl, by rw [HTO.out, if_pos (.inr (by omega))]; exact HOS.out.far HNS.out _ _, ?_, ((HBd.out.setCell (p := ⟨g3, c, none⟩) hg31 _).alloc (by have := HBd.out.size; simpa using this) _).setCell (p := ⟨w.heap.size + 1, 0, none⟩) (by simp) _⟩
    rw [HTT.out, if_pos ⟨hlong, by omega⟩]
    have h1 := HE.out
    rw [show (W.setCell ⟨g3, c, none⟩ (.string ⟨#[]⟩)).heap.size = W.heap.size by simp] at h1
    exact oe_far h1 (by simpa [Value.ownBlock] using hWs) _ _
theorem specTake_any (v : Value) (ss : List ByteArray) (t : ByteArray) (w : World) (B : Nat) (h : RS w B v ss) (hB : B ≤ w.heap.size) (hok : muxSB ss = true) (ht : t.size ≤ 1048576) :
    Calls Try.prog 17 #[.agg #[v], .string t] w (TakePost w ss t.data.toList) := by
  by_cases h0 : t.size = 0
  · exact specTake_none v ss t w B h hB hok ht h0
  · by_cases h1 : t[0].toNat % 128 < 3
    · exact specTake_piece v ss t w B h hB hok ht (by omega) h1
    · exact specTake_other v ss t w B h hB hok ht (by omega) (by omega)
end Go.Proofs.Ytplaagkcamjemaa
