/- Parts of a proof, 28: DrawMsgs DrawSt LkCa LkT. -/
import Derived.Test.YtmggoiabcboaiaaGreatZe1
import Derived.Test.YtmggoiabcboaiaaGreatZe2
import Derived.Test.YtmggoiabcboaiaaGreatZe3
import Derived.Test.YtmggoiabcboaiaaGreatZe4
import Derived.Test.YtmggoiabcboaiaaGreatZe5
import Derived.Test.YtmggoiabcboaiaaGreatZe6
import Derived.Test.YtmggoiabcboaiaaGreatZe7
import Derived.Test.YtmggoiabcboaiaaGreatZe8
import Derived.Test.YtmggoiabcboaiaaGreatZe9
import Derived.Test.YtmggoiabcboaiaaGreatZe10
import Derived.Test.YtmggoiabcboaiaaGreatZe11
import Derived.Test.YtmggoiabcboaiaaGreatZe12
import Derived.Test.YtmggoiabcboaiaaGreatZe13
import Derived.Test.YtmggoiabcboaiaaGreatZe14
import Derived.Test.YtmggoiabcboaiaaGreatZe15
import Derived.Test.YtmggoiabcboaiaaGreatZe16
import Derived.Test.YtmggoiabcboaiaaGreatZe17
import Derived.Test.YtmggoiabcboaiaaGreatZe18
import Derived.Test.YtmggoiabcboaiaaGreatZe19
import Derived.Test.YtmggoiabcboaiaaGreatZe20
import Derived.Test.YtmggoiabcboaiaaGreatZe21
import Derived.Test.YtmggoiabcboaiaaGreatZe22
import Derived.Test.YtmggoiabcboaiaaGreatZe23
import Derived.Test.YtmggoiabcboaiaaGreatZe24
import Derived.Test.YtmggoiabcboaiaaGreatZe25
import Derived.Test.YtmggoiabcboaiaaGreatZe26
import Derived.Test.YtmggoiabcboaiaaGreatZe27
namespace Go.Proofs.YtmggoiabcboaiaaGreat
open Go.ChangeShapes Go.WideShapes Go.ChangeAt Go.RowKit
theorem BK.os' {w w' : World} {base g : Nat} {cs : Array Value} {t : TypeId} {v : Value} {ss : List ByteArray} (h : BK w g cs t) (ht : t ≠ 9) (ho : OS w base v ss) (hg : w.grownBy w' v.ownBlock) : BK w' g cs t := by
 refine h.grown hg (fun e => ?_)
 rcases ho.2 with ⟨rfl, _⟩ | ⟨g', cap', cur', rfl, _, hg', _⟩
 ·simp [Value.ownBlock] at e
 ·simp [Value.ownBlock] at e
  subst e
  unfold BK at h
  rw [hg'] at h
  injection h with h
  injection h with _ h2 _
  exact ht h2.symm
def MsgsPost (w : World) (B g N : Nat) (e : Ending) (w' : World) : Prop := ∃ (v : Value) (ms : List ByteArray), e = .returned v ∧ OS w' w.heap.size v ms ∧ ms.length ≤ 6 ∧ (∀ s ∈ ms, s.size ≤ 10) ∧ Rd w' B g (N + 300) ∧ w.grownBy w' (some g)
theorem OS.keptg {w w' : World} {base g : Nat} {v : Value} {ss : List ByteArray} (h : OS w base v ss) (hg : w.grownBy w' (some g)) (hb : g < base) : OS w' base v ss := by
 refine h.kept hg ?_
 cases hv : v.ownBlock with
 | none => exact .inl rfl
 | some k => exact .inr (fun e => by injection e with e; have := (h.low k hv).1; omega)
set_option maxRecDepth 100000 in
set_option maxHeartbeats 4000000 in
theorem msgs_any {w : World} {B g N : Nat} (a b d m : Int) (h : Rd w B g N) (hd : -1 ≤ d ∧ d ≤ 41) (hN : N + 300 ≤ 1000000000) :
  Calls Tryz.prog 36 #[.pointer (some ⟨g, 0, none⟩), cfV a b d m] w (MsgsPost w B g N) := by
 obtain ⟨i0, hi, hz0, hz1, hz2⟩ := info_parts info_str
 have HI := Lib.hid hi
 have HZ0 := Lib.hid hz0
 have HZ1 := Lib.hid hz1
 have HZ2 := Lib.hid hz2
 have hgl := h.lt
 have hd1 := hd.1
 have hd2 := hd.2
 have HR := Lib.hid ((h.alloc (.cells #[.int .i64 a, .int .i64 b, .int .i64 d, .int .i64 m] 24)).alloc (.cells #[] 9))
 have hk := (BK.new w #[.int .i64 a, .int .i64 b, .int .i64 d, .int .i64 m] 24).alloc (.cells #[] 9)
 have HO := Lib.hid (OS_made (w.alloc (.cells #[.int .i64 a, .int .i64 b, .int .i64 d, .int .i64 m] 24)) (base := w.heap.size) (g := w.heap.size + 1) (by simp) (by omega))
 have HG := Lib.hid (grown_alloc (grown_alloc (row := some g) (⟨rfl, rfl, rfl, Nat.le_refl _, fun _ _ _ => rfl⟩ : w.grownBy w (some g)) (.cells #[.int .i64 a, .int .i64 b, .int .i64 d, .int .i64 m] 24)) (.cells #[] 9))
 have HK := Lib.hid hk
 clear h hi hz0 hz1 hz2 hk
 go_enter Tryz.func36, Tryz.ntmps36
 go_wp2_with fail
 refine (pick_any _ HR.out (by omega)).mono ?_
 rintro e w1 ⟨⟨x, rfl, hx, _⟩, hr1, hg1⟩
 obtain ⟨h0, h1⟩ := hx (by omega)
 obtain ⟨n0, rfl⟩ := Int.eq_ofNat_of_zero_le h0
 have hn0 : n0 ≤ 6 := by omega
 have HR := Lib.hid hr1
 have HK := Lib.hid (HK.out.grown hg1 (fun e => by injection e with e; omega))
 have HO := Lib.hid (HO.out.keptg hg1 hgl)
 have HG := Lib.hid (grown_trans HG.out hg1)
 clear hr1 hg1 hx h0 h1
 go_wp2_with fail
 go_loopw [5, 6] (fun v n wr => ∃ (k : Nat) (ms : List ByteArray), k ≤ n0 ∧ n = .int .i64 k ∧ ms.length + k = n0 ∧ (∀ s ∈ ms, s.size ≤ 10) ∧ OS wr w.heap.size v ms ∧ BK wr w.heap.size #[.int .i64 a, .int .i64 b, .int .i64 d, .int .i64 m] 24 ∧ Rd wr B g (N + 1 + 40 * ms.length) ∧ w.grownBy wr (some g)) (fun _ n _ => (intOf n).toNat)
 case atStart => exact ⟨n0, [], Nat.le_refl _, rfl, by simp, fun s hs => by simp at hs, HO.out, HK.out, by simpa using HR.out, HG.out⟩
 case round =>
  obtain ⟨k, ms, hk, rfl, hlk, hsz, hown, hbk, hrd, hgr⟩ := hrel
  have c2 := hbk.cell (i := 2) rfl
  have HOr := Lib.hid hown
  have HKr := Lib.hid hbk
  have HRr := Lib.hid hrd
  have HGr := Lib.hid hgr
  have HLK := Lib.hid hlk
  have HSZ := Lib.hid hsz
  have hll : ms.length + k ≤ n0 := by omega
  have hsz0 : w.heap.size ≤ wr.heap.size := hgr.size
  clear hown hbk hrd hgr hlk hsz
  by_cases hkd : 0 < k ∧ 0 < d
  ·obtain ⟨hk0, hd0⟩ := hkd
   obtain ⟨dn, rfl⟩ := Int.eq_ofNat_of_zero_le (show 0 ≤ d by omega)
   go_wp2_with fail
   refine (one_any (m := wr.heap.size) [0, 3, 10] 3 (HRr.out.alloc _) (by omega) (by simp) (by simp) (by omega) (list_row wr _ _ _ rfl)).mono ?_
   rintro e w2 ⟨x, hx, rfl, hr2, hg2⟩
   obtain ⟨q, hq, hq10⟩ : ∃ q : Nat, x = (q : Int) ∧ q ≤ 10 := by
    simp only [List.mem_cons, List.not_mem_nil, or_false] at hx
    exact ⟨x.toNat, by omega, by omega⟩
   subst hq
   have HR2 := Lib.hid hr2
   have HG2 := Lib.hid (grown_trans (grown_alloc HGr.out _) hg2)
   have HO2 := Lib.hid ((HOr.out.alloc _).keptg hg2 hgl)
   have HK2 := Lib.hid ((HKr.out.alloc _).grown hg2 (fun e => by injection e with e; omega))
   clear hr2 hg2 hx
   go_wp2_with fail
   refine (bytes_any q HR2.out (by omega) (by omega)).mono ?_
   rintro e w3 ⟨s, rfl, hs, hr3, hg3⟩
   have HR3 := Lib.hid hr3
   have HG3 := Lib.hid (grown_trans HG2.out hg3)
   have HO3 := Lib.hid (HO2.out.keptg hg3 hgl)
   have hk3 := HK2.out.grown hg3 (fun e => by injection e with e; omega)
   have c2 := hk3.cell (i := 2) rfl
   have HK3 := Lib.hid hk3
   clear hr3 hg3 hk3
   have hw1 : IntKind.i64.wrap ((dn : Int) - 1) = (dn : Int) - 1 := by rw [IntKind.wrap_i64]; omega
   by_cases hlong : (dn : Int) - 1 < (s.size : Int)
   ·obtain ⟨e1, he1⟩ : ∃ e1 : Nat, (dn : Int) - 1 = (e1 : Int) := ⟨dn - 1, by omega⟩
    have he2 : e1 ≤ s.size := by omega
    have he3 : (0 : Int) ≤ (e1 : Int) := by omega
    have he4 : (e1 : Int) ≤ (s.size : Int) := by omega
    have he5 : IntKind.i64.wrap (e1 : Int) = (e1 : Int) := by rw [IntKind.wrap_i64]; omega
    have hx5 : (s.extract 0 e1).size ≤ 10 := by rw [ByteArray.size_extract]; omega
    go_wp2_with (at_builtin; refine wpList_append_os _ rfl _ _ 25 rfl w.heap.size i0 Tryz.underlying25 HI.out HZ0.out HZ1.out HZ2.out _ ms rfl (HO3.out.alloc _) _ _ [(s.extract 0 e1)] rfl (RS_one w3 (s.extract 0 e1)) (by simp; omega) (by have := HG3.out.size; simp; omega) ?_; intro v4 w4 hown4 hg4 _)
    go_roundw
    case rel =>
     have hlow := HO3.out.low
     have hne : u5.ownBlock ≠ some g := fun e => by have := (hlow g e).1; omega
     refine ⟨k - 1, ms ++ [(s.extract 0 e1)], by omega, val_int (by omega), by simp; have := HLK.out; omega, fun z hz => ?_, hown4, ?_, ?_, ?_⟩
     ·rw [List.mem_append] at hz
      rcases hz with hz | hz
      ·exact HSZ.out z hz
      ·rw [List.mem_singleton.1 hz]; exact hx5
     ·exact (HK3.out.alloc _).os' (by decide) (HO3.out.alloc _) hg4
     ·refine ((HR3.out.alloc _).grow hg4 hne (fun j e => ?_)).mono (by simp; omega)
      have h7 := (hlow j e).1
      have hBg : B ≤ g := by obtain ⟨_, _, _, _, _, _, _, _, _, h5, _⟩ := HR3.out; exact h5
      omega
     ·exact grown_own (grown_alloc HG3.out _) hg4 (fun j e => (hlow j e).1)
    case measure => simp [intOf]; omega
   ·go_wp2_with (at_builtin; refine wpList_append_os _ rfl _ _ 25 rfl w.heap.size i0 Tryz.underlying25 HI.out HZ0.out HZ1.out HZ2.out _ ms rfl (HO3.out.alloc _) _ _ [s] rfl (RS_one w3 s) (by simp; omega) (by have := HG3.out.size; simp; omega) ?_; intro v4 w4 hown4 hg4 _)
    go_roundw
    case rel =>
     have hlow := HO3.out.low
     have hne : u5.ownBlock ≠ some g := fun e => by have := (hlow g e).1; omega
     refine ⟨k - 1, ms ++ [s], by omega, val_int (by omega), by simp; have := HLK.out; omega, fun z hz => ?_, hown4, ?_, ?_, ?_⟩
     ·rw [List.mem_append] at hz
      rcases hz with hz | hz
      ·exact HSZ.out z hz
      ·rw [List.mem_singleton.1 hz]; omega
     ·exact (HK3.out.alloc _).os' (by decide) (HO3.out.alloc _) hg4
     ·refine ((HR3.out.alloc _).grow hg4 hne (fun j e => ?_)).mono (by simp; omega)
      have h7 := (hlow j e).1
      have hBg : B ≤ g := by obtain ⟨_, _, _, _, _, _, _, _, _, h5, _⟩ := HR3.out; exact h5
      omega
     ·exact grown_own (grown_alloc HG3.out _) hg4 (fun j e => (hlow j e).1)
    case measure => simp [intOf]; omega
  ·have hex : ¬ (0 < k) ∨ ¬ (0 < d) := by omega
   rcases hex with hex | hex
   ·go_wp2
    go_ret
    exact ⟨_, ms, rfl, HOr.out, by omega, HSZ.out, HRr.out.mono (by omega), HGr.out⟩
   ·by_cases hk0 : 0 < k
    ·go_wp2
     go_ret
     exact ⟨_, ms, rfl, HOr.out, by omega, HSZ.out, HRr.out.mono (by omega), HGr.out⟩
    ·go_wp2
     go_ret
     exact ⟨_, ms, rfl, HOr.out, by omega, HSZ.out, HRr.out.mono (by omega), HGr.out⟩
end Go.Proofs.YtmggoiabcboaiaaGreat
namespace Go.Proofs.YtmggoiabcboaiaaGreat
open Go.ChangeShapes Go.WideShapes Go.ChangeAt Go.RowKit
set_option linter.unusedVariables false
theorem zzV_one (l : List Int) : ∀ u ∈ l.map zzV, u.oneCell' = true := by
 intro u hu
 obtain ⟨s, _, rfl⟩ := List.mem_map.1 hu
 rfl
section
variable {P : Program} (w : World)
theorem run_append_oz (base : Nat) (t ty : TypeId) (i : TypeInfo) (ht : P.underlying t = some (.slice 3)) (hi : P.info? 3 = some i) (hz : i.zero = some (.int .i64 0))
  (hsize : i.size = 1) (hby : i.bytes = 8) (v : Value) (l : List Int) (hown : OZ w base v l)
  (B : Nat) (v2 : Value) (news : List Int) (hr : RZ w B v2 news) (hlen : l.length + news.length ≤ 1000000000000) (hbase : base ≤ w.heap.size) :
  ∃ v' w', (Builtin.append_ #[t, t] ty #[v, v2]).run P w = .ok v' w' ∧ OZ w' base v' (l ++ news) ∧ w.grownBy w' v.ownBlock ∧ (v'.ownBlock = v.ownBlock ∨ v'.ownBlock = some w.heap.size) := by
 obtain ⟨ad, cap, hv2, _, hr2⟩ := hr
 cases ad with
 | some y =>
  have hc : ∀ j u, (news.map zzV)[j]? = some u → w.cell? (y.add j) = some u := by
   intro j u hu
   have hj : j < news.length := by
    rcases Nat.lt_or_ge j news.length with h | h
    ·exact h
    ·rw [List.getElem?_eq_none (by simpa using h)] at hu; cases hu
   obtain ⟨y', hy, _, hc⟩ := hr2 (by omega)
   injection hy with hy
   subst hy
   rw [List.getElem?_map, List.getElem?_eq_getElem hj] at hu
   injection hu with hu
   rw [← hu]
   exact hc j hj
  obtain ⟨v', w', r1, r2, r3, _, r5⟩ := run_append_own_at (P := P) w base t ty 3 i _ 1 8 ht hi hz hsize hby rfl (by omega) v l.length (l.map zzV) hown y news.length cap (news.map zzV) (by simp) hc (zzV_one _) (by unfold maxLen; omega) (by omega) hbase
  refine ⟨v', w', by rw [hv2]; exact r1, ?_, r3, r5⟩
  unfold OZ
  rw [List.length_append, List.map_append]
  exact r2
 | none =>
  have hn : news = [] := by
   by_cases h0 : 0 < news.length
   ·obtain ⟨y', hy, _⟩ := hr2 h0
    cases hy
   ·exact List.eq_nil_of_length_eq_zero (by omega)
  subst hn
  refine ⟨v, w, ?_, by simpa using hown, ⟨rfl, rfl, rfl, Nat.le_refl _, fun _ _ _ => rfl⟩, .inl rfl⟩
  rw [hv2]
  rcases hown.2 with ⟨rfl, hl⟩ | ⟨g, cp, cur, rfl, _, hg, hnc, _, hcs, _⟩
  ·simp [Builtin.append_, run_underlying ht, sizeOf, typeInfo, hi, Builtin.lenOf, Builtin.firstCells]
  ·simp [Builtin.append_, run_underlying ht, sizeOf, typeInfo, hi, Builtin.lenOf, Builtin.firstCells, hnc, storeCells]
theorem wpList_append_oz {ops : Array Oper} {rest : List Oper} {o : Oper} {a : Act} {Q : Exit → Act → World → Prop} (hgd : o.guard = none) (s x : Operand) (t : TypeId)
  (ho : o.op = .call { callee := .builtin .append, args := #[s, x], argTypes := #[t, t] })
  (base : Nat) (i : TypeInfo) (ht : P.underlying t = some (.slice 3)) (hi : P.info? 3 = some i) (hz : i.zero = some (.int .i64 0))
  (hsize : i.size = 1) (hby : i.bytes = 8) (v : Value) (l : List Int) (hs : a.eval s = v) (hown : OZ w base v l)
  (B : Nat) (v2 : Value) (news : List Int) (hx : a.eval x = v2) (hr : RZ w B v2 news) (hlen : l.length + news.length ≤ 1000000000000) (hbase : base ≤ w.heap.size)
  (h : ∀ v' w', OZ w' base v' (l ++ news) → w.grownBy w' v.ownBlock → (v'.ownBlock = v.ownBlock ∨ v'.ownBlock = some w.heap.size) → wpList P ops Q rest (a.put o.dst v') w') : wpList P ops Q (o :: rest) a w := by
 refine wpList_plain hgd fun K hK => ?_
 obtain ⟨v', w', hr, h2, h3, h4⟩ := run_append_oz (P := P) w base t o.type i ht hi hz hsize hby v l hown B v2 news hr hlen hbase
 unfold Oper.wp execOp
 simp only [ho, resolve, invoke, builtin, Sem.run_bind, Sem.run_pure, Result.andThen_ok, List.map_toArray, List.map_cons, List.map_nil, hs, hx, hr]
 exact hK _ _ (h v' w' h2 h3 h4)
end
theorem OZ.alloc {w : World} {base : Nat} {v : Value} {zs : List Int} (h : OZ w base v zs) (o : Obj) : OZ (w.alloc o) base v zs := h.below ((Below.refl _ _).alloc (Nat.le_refl _) _)
section
variable {w : World} {base : Nat} {v : Value} {ss : List Int}
theorem OZ.put (h : OZ w base v ss) {p : Addr} (hp : p.block < base) (x : Value) : OZ (w.setCell p x) base v ss := by
 refine ⟨h.1, ?_⟩
 rcases h.2 with hn | ⟨g, cap, cur, hv, hbg, hg, rest⟩
 ·exact .inl hn
 ·exact .inr ⟨g, cap, cur, hv, hbg, by rw [Below.heap_setCell _ _ _ _ (by omega)]; exact hg, rest⟩
end
theorem OZ_made (w : World) {base g : Nat} (hg : w.heap.size = g) (hb : base ≤ g := by omega) : OZ (w.alloc (.cells #[] 3)) base (.slice (some ⟨g, 0, none⟩) 0 0) [] := by
 subst hg
 exact ⟨rfl, .inr ⟨w.heap.size, 0, #[], rfl, hb, heap_alloc_new w _, Nat.le_refl _, by simp [maxLen], rfl, rfl⟩⟩
theorem RZ_one (w : World) (s : Int) {g : Nat} (hg : w.heap.size = g := by rfl) : RZ (w.alloc (.cells #[.int .i64 s] 3)) (g + 1) (.slice (some ⟨g, 0, none⟩) 1 1) [s] := by
 subst hg
 refine ⟨_, _, rfl, Nat.le_refl _, fun _ => ⟨_, rfl, by simp, fun j hj => ?_⟩⟩
 have hj0 : j = 0 := by simp at hj; omega
 subst hj0
 rw [slit_add]; simp
theorem OZ.keptg {w w' : World} {base g : Nat} {v : Value} {zs : List Int} (h : OZ w base v zs) (hg : w.grownBy w' (some g)) (hb : g < base) : OZ w' base v zs := by
 refine h.kept hg ?_
 cases hv : v.ownBlock with
 | none => exact .inl rfl
 | some k => exact .inr (fun e => by injection e with e; have := (h.low k hv).1; omega)
def StepsPost (w : World) (B g N : Nat) (e : Ending) (w' : World) : Prop := ∃ (v : Value) (zs : List Int), e = .returned v ∧ OZ w' w.heap.size v zs ∧ zs.length ≤ 90 ∧ (∀ z ∈ zs, 1 ≤ z ∧ z ≤ 7) ∧ Rd w' B g (N + 100) ∧ w.grownBy w' (some g)
set_option maxRecDepth 100000 in
set_option maxHeartbeats 2000000 in
theorem steps_any {w : World} {B g N : Nat} (h : Rd w B g N) (hN : N + 300 ≤ 1000000000) :
  Calls Tryz.prog 37 #[.pointer (some ⟨g, 0, none⟩)] w (StepsPost w B g N) := by
 obtain ⟨i0, hi, hz0, hz1, hz2⟩ := info_parts info_int
 have HI := Lib.hid hi
 have HZ0 := Lib.hid hz0
 have HZ1 := Lib.hid hz1
 have HZ2 := Lib.hid hz2
 have hgl := h.lt
 have HR := Lib.hid (h.alloc (.cells #[] 3))
 have HO := Lib.hid (OZ_made w (base := w.heap.size) (g := w.heap.size) rfl (Nat.le_refl _))
 have HG := Lib.hid (grown_alloc (row := some g) (⟨rfl, rfl, rfl, Nat.le_refl _, fun _ _ _ => rfl⟩ : w.grownBy w (some g)) (.cells #[] 3))
 have hlr := list_row (w.alloc (.cells #[] 3)) #[.int .i64 0, .int .i64 20, .int .i64 60, .int .i64 90] 3 [0, 20, 60, 90] rfl
 rw [World.size_alloc] at hlr
 have HLR := Lib.hid hlr
 clear h hi hz0 hz1 hz2 hlr
 go_enter Tryz.func37, Tryz.ntmps37
 go_wp2_with fail
 refine (one_any (m := w.heap.size + 1) [0, 20, 60, 90] 3 (HR.out.alloc _) (by omega) (by simp) (by simp) (by omega) HLR.out).mono ?_
 rintro e w1 ⟨x, hx, rfl, hr1, hg1⟩
 obtain ⟨n0, hq, hn0⟩ : ∃ q : Nat, x = (q : Int) ∧ q ≤ 90 := by
  simp only [List.mem_cons, List.not_mem_nil, or_false] at hx
  exact ⟨x.toNat, by omega, by omega⟩
 subst hq
 have HR := Lib.hid hr1
 have HO := Lib.hid ((HO.out.alloc _).keptg hg1 hgl)
 have HG := Lib.hid (grown_trans (grown_alloc HG.out _) hg1)
 clear hr1 hg1 hx
 go_wp2_with fail
 go_loopw [3, 4] (fun v n wr => ∃ (k : Nat) (zs : List Int), k ≤ n0 ∧ n = .int .i64 k ∧ zs.length + k = n0 ∧ (∀ z ∈ zs, 1 ≤ z ∧ z ≤ 7) ∧ OZ wr w.heap.size v zs ∧ Rd wr B g (N + 1 + zs.length) ∧ w.grownBy wr (some g)) (fun _ n _ => (intOf n).toNat)
 case atStart => exact ⟨n0, [], Nat.le_refl _, rfl, by simp, fun s hs => by simp at hs, HO.out, by simpa using HR.out, HG.out⟩
 case round =>
  obtain ⟨k, zs, hk, rfl, hlk, hsz, hown, hrd, hgr⟩ := hrel
  have HOr := Lib.hid hown
  have HRr := Lib.hid hrd
  have HGr := Lib.hid hgr
  have HLK := Lib.hid hlk
  have HSZ := Lib.hid hsz
  have hll : zs.length + k ≤ n0 := by omega
  have hsz0 : w.heap.size ≤ wr.heap.size := hgr.size
  clear hown hrd hgr hlk hsz
  by_cases hk0 : 0 < k
  ·go_wp2_with fail
   refine (one_any (m := wr.heap.size) [1, 1, 1, 2, 2, 2, 3, 3, 3, 4, 5, 6, 7] 3 (HRr.out.alloc _) (by omega) (by simp) (by simp) (by omega) (list_row wr _ _ _ rfl)).mono ?_
   rintro e w2 ⟨x, hx, rfl, hr2, hg2⟩
   have hx7 : 1 ≤ x ∧ x ≤ 7 := by
    simp only [List.mem_cons, List.not_mem_nil, or_false] at hx
    omega
   have HX7 := Lib.hid hx7
   have HR2 := Lib.hid hr2
   have HG2 := Lib.hid (grown_trans (grown_alloc HGr.out _) hg2)
   have HO2 := Lib.hid ((HOr.out.alloc _).keptg hg2 hgl)
   clear hr2 hg2 hx hx7
   go_wp2_with (at_builtin; refine wpList_append_oz _ rfl _ _ 26 rfl w.heap.size i0 Tryz.underlying26 HI.out HZ0.out HZ1.out HZ2.out _ zs rfl (HO2.out.alloc _) _ _ [x] rfl (RZ_one w2 x) (by simp; omega) (by have := HG2.out.size; simp; omega) ?_; intro v4 w4 hown4 hg4 _)
   go_roundw
   case rel =>
    have hlow := HO2.out.low
    have hne : u3.ownBlock ≠ some g := fun e => by have := (hlow g e).1; omega
    refine ⟨k - 1, zs ++ [x], by omega, val_int (by omega), by simp; have := HLK.out; omega, fun z hz => ?_, hown4, ?_, ?_⟩
    ·rw [List.mem_append] at hz
     rcases hz with hz | hz
     ·exact HSZ.out z hz
     ·rw [List.mem_singleton.1 hz]; exact HX7.out
    ·refine ((HR2.out.alloc _).grow hg4 hne (fun j e => ?_)).mono (by simp; omega)
     have h7 := (hlow j e).1
     have hBg : B ≤ g := by obtain ⟨_, _, _, _, _, _, _, _, _, h5, _⟩ := HR2.out; exact h5
     omega
    ·exact grown_own (grown_alloc HG2.out _) hg4 (fun j e => (hlow j e).1)
   case measure => simp [intOf]; omega
  ·go_wp2
   go_ret
   exact ⟨_, zs, rfl, HOr.out, by omega, HSZ.out, HRr.out.mono (by omega), HGr.out⟩
end Go.Proofs.YtmggoiabcboaiaaGreat
namespace Go.Proofs.YtmggoiabcboaiaaGreat
open Go.ChangeShapes Go.WideShapes Go.ChangeAt Go.RowKit
set_option linter.unusedVariables false
abbrev lsG (a b d m nx : Int) (T : ByteArray) (tO : Bool) (H : ByteArray) (hO : Bool) (vm vb vg vt : Value) : Array Value := #[.int .i64 a, .int .i64 b, .int .i64 d, .int .i64 m, vm, .int .i64 nx, vg, .string T, .bool tO, .string H, .bool hO, vt, vb]
def GPost (w : World) (a b d m nx : Int) (ms gs : List ByteArray) (T : ByteArray) (tO : Bool) (H : ByteArray) (hO : Bool) (ts bs : List ByteArray) (e : Ending) (w' : World) : Prop := ∃ um ub ug ut, e = .returned (lnV a b d m um nx ug T tO H hO ut ub) ∧ OL w' 0 um ms ug gs ut ts ub bs ∧ Below w.heap.size w w'
set_option maxRecDepth 100000 in
set_option maxHeartbeats 2000000 in
theorem l8CopyA_any (a b d m nx : Int) (ms gs : List ByteArray) (T H : ByteArray) (tO hO : Bool) (ts bs : List ByteArray) (vm vb vg vt : Value) (w : World) (h0 : OL w 0 vm ms vg gs vt ts vb bs) (hls : ms.length ≤ 1000 ∧ gs.length ≤ 1000 ∧ ts.length ≤ 1000 ∧ bs.length ≤ 1000) :
  Calls Tryz.prog 52 #[lnV a b d m vm nx vg T tO H hO vt vb] w (GPost w a b d m nx ms gs T tO H hO ts bs) := by
 obtain ⟨i0, hi0, hz0, hz1, hz2⟩ := info_parts info_str
 have HI := Lib.hid hi0
 have HZ0 := Lib.hid hz0
 have HZ1 := Lib.hid hz1
 have HZ2 := Lib.hid hz2
 have h := h0.reads
 have hB : w.heap.size ≤ w.heap.size := Nat.le_refl _
 obtain ⟨am, cm, rfl⟩ := h.1.shape
 obtain ⟨ag, cg, rfl⟩ := h.2.1.shape
 obtain ⟨at_, ct, rfl⟩ := h.2.2.1.shape
 obtain ⟨ab, cb, rfl⟩ := h.2.2.2.shape
 have hzl := zero_line
 obtain ⟨hml, hgl, htl, hbl⟩ := hls
 have hk := (BK.new w #[.int .i64 a, .int .i64 b, .int .i64 d, .int .i64 m, .slice am ms.length cm, .int .i64 nx, .slice ag gs.length cg, .string T, .bool tO, .string H, .bool hO, .slice at_ ts.length ct, .slice ab bs.length cb] 32).alloc (.cells #[.int .i64 0, .int .i64 0, .int .i64 0, .int .i64 0, .slice none 0 0, .int .i64 0, .slice none 0 0, .string ⟨#[]⟩, .bool false, .string ⟨#[]⟩, .bool false, .slice none 0 0, .slice none 0 0] 32)
 have hq := BK.new (w.alloc (.cells #[.int .i64 a, .int .i64 b, .int .i64 d, .int .i64 m, .slice am ms.length cm, .int .i64 nx, .slice ag gs.length cg, .string T, .bool tO, .string H, .bool hO, .slice at_ ts.length ct, .slice ab bs.length cb] 32)) #[.int .i64 0, .int .i64 0, .int .i64 0, .int .i64 0, .slice none 0 0, .int .i64 0, .slice none 0 0, .string ⟨#[]⟩, .bool false, .string ⟨#[]⟩, .bool false, .slice none 0 0, .slice none 0 0] 32
 rw [World.size_alloc] at hq
 have hb := ((Below.refl w.heap.size w).alloc (Nat.le_refl _) (.cells #[.int .i64 a, .int .i64 b, .int .i64 d, .int .i64 m, .slice am ms.length cm, .int .i64 nx, .slice ag gs.length cg, .string T, .bool tO, .string H, .bool hO, .slice at_ ts.length ct, .slice ab bs.length cb] 32)).alloc (by simp) (.cells #[.int .i64 0, .int .i64 0, .int .i64 0, .int .i64 0, .slice none 0 0, .int .i64 0, .slice none 0 0, .string ⟨#[]⟩, .bool false, .string ⟨#[]⟩, .bool false, .slice none 0 0, .slice none 0 0] 32)
 have HR := Lib.hid ((h.mono hB).below hb)
 have HB := Lib.hid hb
 have HQ := Lib.hid hq
 have HK := Lib.hid hk
 have HH := Lib.hid h
 obtain ⟨w0, hw0⟩ : ∃ w0, w0 = (w.alloc (.cells #[.int .i64 a, .int .i64 b, .int .i64 d, .int .i64 m, .slice am ms.length cm, .int .i64 nx, .slice ag gs.length cg, .string T, .bool tO, .string H, .bool hO, .slice at_ ts.length ct, .slice ab bs.length cb] 32)).alloc (.cells #[.int .i64 0, .int .i64 0, .int .i64 0, .int .i64 0, .slice none 0 0, .int .i64 0, .slice none 0 0, .string ⟨#[]⟩, .bool false, .string ⟨#[]⟩, .bool false, .slice none 0 0, .slice none 0 0] 32) := ⟨_, rfl⟩
 rw [← hw0] at HR HB HQ HK
 have HW := Lib.hid hw0
 have HOm := Lib.hid (h0.1.below HB.out)
 have HOg := Lib.hid (h0.2.1.below HB.out)
 have HOt := Lib.hid (h0.2.2.1.below HB.out)
 have HOb := Lib.hid (h0.2.2.2.below HB.out)
 have HLm := Lib.hid (fun k hk => (h0.1.low k hk).2)
 have HLg := Lib.hid (fun k hk => (h0.2.1.low k hk).2)
 have HLt := Lib.hid (fun k hk => (h0.2.2.1.low k hk).2)
 have HLb := Lib.hid (fun k hk => (h0.2.2.2.low k hk).2)
 have HH0 := Lib.hid h0
 have hk0 := HK.out
 have hq0 := HQ.out
 rw [hw0] at hk0 hq0
 obtain ⟨c0, c1, c2, c3, c4, c5, c6, c7, c8, c9, c10, c11, c12⟩ := cells13 hk0
 obtain ⟨z0, z1, z2, z3, z4, z5, z6, z7, z8, z9, z10, z11, z12⟩ := cells13 hq0
 obtain ⟨f0, f1, f2, f3, f4, f5, f6, f7, f8, f9, f10, f11, f12⟩ := free13 hq0
 have hN : w.heap.size + 2 = w0.heap.size := by rw [hw0]; simp
 clear h h0 hk hq hb hk0 hq0 hi0 hz0 hz1 hz2 hw0
 go_enter Tryz.func52, Tryz.ntmps52
 go_upto_region 1 with fail
 rw [← HW.out]
 have HMk := Lib.hid (show Mid w0 w0 w.heap.size (lsG a b d m nx T tO H hO (.slice am ms.length cm) (.slice ab bs.length cb) (.slice ag gs.length cg) (.slice at_ ts.length ct)) #[.int .i64 0, .int .i64 0, .int .i64 0, .int .i64 0, .slice none 0 0, .int .i64 0, .slice none 0 0, .string ⟨#[]⟩, .bool false, .string ⟨#[]⟩, .bool false, .slice none 0 0, .slice none 0 0] from ⟨HK.out, HQ.out, Below.refl _ _⟩)
 have HLk := Lib.hid (show OL w0 0 (.slice am ms.length cm) ms (.slice ag gs.length cg) gs (.slice at_ ts.length ct) ts (.slice ab bs.length cb) bs from ⟨HOm.out, HOg.out, HOt.out, HOb.out⟩)
 clear c0 c1 c2 c3 c4 c5 c6 c7 c8 c9 c10 c11 c12 z0 z1 z2 z3 z4 z5 z6 z7 z8 z9 z10 z11 z12 f0 f1 f2 f3 f4 f5 f6 f7 f8 f9 f10 f11 f12
 go_cut [] (fun wx => ∃ um ub ug ut, Mid w0 wx w.heap.size (lsG a b d m nx T tO H hO um ub ug ut) #[.int .i64 0, .int .i64 0, .int .i64 0, .int .i64 0, .slice none 0 0, .int .i64 0, .slice none 0 0, .string ⟨#[]⟩, .bool false, .string ⟨#[]⟩, .bool false, .slice none 0 0, .slice none 0 0] ∧ OL wx 0 um ms ug gs ut ts ub bs)
 case first =>
  have hNw : w.heap.size + 2 ≤ w0.heap.size := by rw [hN]; exact HMk.out.bl.size
  have HM1 := Lib.hid (HMk.out.below ((Below.refl _ _).alloc (Nat.le_refl _) (.cells #[] 9)))
  have HL1 := Lib.hid (HLk.out.below ((Below.refl _ _).alloc (Nat.le_refl _) (.cells #[] 9)))
  have HOe := Lib.hid (show OS (w0.alloc (.cells #[] 9)) w0.heap.size (.slice (some ⟨w0.heap.size, 0, none⟩) 0 0) [] from OS_made w0 rfl (Nat.le_refl _))
  have HLW := Lib.hid (show OL w0 0 (.slice am ms.length cm) ms (.slice ag gs.length cg) gs (.slice at_ ts.length ct) ts (.slice ab bs.length cb) bs from HLk.out)
  have k1 : (w0.alloc (.cells #[] 9)).cell? ⟨w.heap.size, 4, none⟩ = some (.slice am ms.length cm) := HM1.out.bk.cell rfl
  go_wp2_with (at_builtin; refine wpList_append_os _ rfl _ _ 25 rfl w0.heap.size i0 Tryz.underlying25 HI.out HZ0.out HZ1.out HZ2.out _ [] rfl HOe.out _ _ ms rfl (RS.below (HL1.out.1.reads) (Below.refl _ _)) (by simp; omega) (by simp) ?_; intro v2 w5 hown hg5 hat5; rw [List.nil_append] at hown; obtain ⟨A2, C2, hsh⟩ := hown.reads.shape; subst hsh; have HM5 := Lib.hid (HM1.out.grown (HOe.out.mono (by omega)) hg5); have hb5 := (Below.refl w0.heap.size w0).alloc (Nat.le_refl _) (.cells #[] 9) |>.grown hg5 (by simp) (fun k hk => (HOe.out.low k hk).1); have HL5 := Lib.hid (OL.under HLW.out hb5 (Nat.le_refl _)); have HOw := Lib.hid (hown.mono (base' := 0) (Nat.zero_le _)); have k2 : w5.cell? ⟨w.heap.size, 4, none⟩ = some (.slice am ms.length cm) := HM5.out.bk.cell rfl; have f2 := HM5.out.bk.free 4; clear hown hg5 hat5 hb5 k1)
  go_meet
  exact ⟨(.slice A2 ms.length C2), (.slice ab bs.length cb), (.slice ag gs.length cg), (.slice at_ ts.length ct), HM5.out.set (i := 4) (.slice A2 ms.length C2), ⟨os_set HOw.out (own_ne HM5.out.bk line_str HOw.out) _, os_set HL5.out.2.1 (own_ne HM5.out.bk line_str HL5.out.2.1) _, os_set HL5.out.2.2.1 (own_ne HM5.out.bk line_str HL5.out.2.2.1) _, os_set HL5.out.2.2.2 (own_ne HM5.out.bk line_str HL5.out.2.2.2) _⟩⟩
 case rest =>
  obtain ⟨um, ub, ug, ut, hm, hl⟩ := hcut
  obtain ⟨wc0, hwc⟩ : ∃ x, x = wc := ⟨_, rfl⟩
  rw [← hwc] at hm hl ⊢
  clear hwc HMk HLk
  have HMk := Lib.hid hm
  have HLk := Lib.hid hl
  clear hm hl
  go_upto_region 2 with fail
  go_cut [] (fun wx => ∃ um ub ug ut, Mid w0 wx w.heap.size (lsG a b d m nx T tO H hO um ub ug ut) #[.int .i64 0, .int .i64 0, .int .i64 0, .int .i64 0, .slice none 0 0, .int .i64 0, .slice none 0 0, .string ⟨#[]⟩, .bool false, .string ⟨#[]⟩, .bool false, .slice none 0 0, .slice none 0 0] ∧ OL wx 0 um ms ug gs ut ts ub bs)
  case first =>
   obtain ⟨xm, ym, rfl⟩ := HLk.out.1.reads.shape
   obtain ⟨xg, yg, rfl⟩ := HLk.out.2.1.reads.shape
   obtain ⟨xt, yt, rfl⟩ := HLk.out.2.2.1.reads.shape
   obtain ⟨xb, yb, rfl⟩ := HLk.out.2.2.2.reads.shape
   have hNw : w.heap.size + 2 ≤ wc0.heap.size := by rw [hN]; exact HMk.out.bl.size
   have HM1 := Lib.hid (HMk.out.below ((Below.refl _ _).alloc (Nat.le_refl _) (.cells #[] 9)))
   have HL1 := Lib.hid (HLk.out.below ((Below.refl _ _).alloc (Nat.le_refl _) (.cells #[] 9)))
   have HOe := Lib.hid (show OS (wc0.alloc (.cells #[] 9)) wc0.heap.size (.slice (some ⟨wc0.heap.size, 0, none⟩) 0 0) [] from OS_made wc0 rfl (Nat.le_refl _))
   have HLW := Lib.hid (show OL wc0 0 (.slice xm ms.length ym) ms (.slice xg gs.length yg) gs (.slice xt ts.length yt) ts (.slice xb bs.length yb) bs from HLk.out)
   have k1 : (wc0.alloc (.cells #[] 9)).cell? ⟨w.heap.size, 6, none⟩ = some (.slice xg gs.length yg) := HM1.out.bk.cell rfl
   go_wp2_with (at_builtin; refine wpList_append_os _ rfl _ _ 25 rfl wc0.heap.size i0 Tryz.underlying25 HI.out HZ0.out HZ1.out HZ2.out _ [] rfl HOe.out _ _ gs rfl (RS.below (HL1.out.2.1.reads) (Below.refl _ _)) (by simp; omega) (by simp) ?_; intro v2 w5 hown hg5 hat5; rw [List.nil_append] at hown; obtain ⟨A2, C2, hsh⟩ := hown.reads.shape; subst hsh; have HM5 := Lib.hid (HM1.out.grown (HOe.out.mono (by omega)) hg5); have hb5 := (Below.refl wc0.heap.size wc0).alloc (Nat.le_refl _) (.cells #[] 9) |>.grown hg5 (by simp) (fun k hk => (HOe.out.low k hk).1); have HL5 := Lib.hid (OL.under HLW.out hb5 (Nat.le_refl _)); have HOw := Lib.hid (hown.mono (base' := 0) (Nat.zero_le _)); have k2 : w5.cell? ⟨w.heap.size, 6, none⟩ = some (.slice xg gs.length yg) := HM5.out.bk.cell rfl; have f2 := HM5.out.bk.free 6; clear hown hg5 hat5 hb5 k1)
   go_meet
   exact ⟨(.slice xm ms.length ym), (.slice xb bs.length yb), (.slice A2 gs.length C2), (.slice xt ts.length yt), HM5.out.set (i := 6) (.slice A2 gs.length C2), ⟨os_set HL5.out.1 (own_ne HM5.out.bk line_str HL5.out.1) _, os_set HOw.out (own_ne HM5.out.bk line_str HOw.out) _, os_set HL5.out.2.2.1 (own_ne HM5.out.bk line_str HL5.out.2.2.1) _, os_set HL5.out.2.2.2 (own_ne HM5.out.bk line_str HL5.out.2.2.2) _⟩⟩
  case rest =>
   obtain ⟨um, ub, ug, ut, hm, hl⟩ := hcut
   obtain ⟨wc1, hwc⟩ : ∃ x, x = wc := ⟨_, rfl⟩
   rw [← hwc] at hm hl ⊢
   clear hwc HMk HLk
   have HMk := Lib.hid hm
   have HLk := Lib.hid hl
   clear hm hl
   go_upto_region 3 with fail
   go_cut [] (fun wx => ∃ um ub ug ut, Mid w0 wx w.heap.size (lsG a b d m nx T tO H hO um ub ug ut) #[.int .i64 0, .int .i64 0, .int .i64 0, .int .i64 0, .slice none 0 0, .int .i64 0, .slice none 0 0, .string ⟨#[]⟩, .bool false, .string ⟨#[]⟩, .bool false, .slice none 0 0, .slice none 0 0] ∧ OL wx 0 um ms ug gs ut ts ub bs)
   case first =>
    obtain ⟨xm, ym, rfl⟩ := HLk.out.1.reads.shape
    obtain ⟨xg, yg, rfl⟩ := HLk.out.2.1.reads.shape
    obtain ⟨xt, yt, rfl⟩ := HLk.out.2.2.1.reads.shape
    obtain ⟨xb, yb, rfl⟩ := HLk.out.2.2.2.reads.shape
    have hNw : w.heap.size + 2 ≤ wc1.heap.size := by rw [hN]; exact HMk.out.bl.size
    have HM1 := Lib.hid (HMk.out.below ((Below.refl _ _).alloc (Nat.le_refl _) (.cells #[] 9)))
    have HL1 := Lib.hid (HLk.out.below ((Below.refl _ _).alloc (Nat.le_refl _) (.cells #[] 9)))
    have HOe := Lib.hid (show OS (wc1.alloc (.cells #[] 9)) wc1.heap.size (.slice (some ⟨wc1.heap.size, 0, none⟩) 0 0) [] from OS_made wc1 rfl (Nat.le_refl _))
    have HLW := Lib.hid (show OL wc1 0 (.slice xm ms.length ym) ms (.slice xg gs.length yg) gs (.slice xt ts.length yt) ts (.slice xb bs.length yb) bs from HLk.out)
    have k1 : (wc1.alloc (.cells #[] 9)).cell? ⟨w.heap.size, 11, none⟩ = some (.slice xt ts.length yt) := HM1.out.bk.cell rfl
    go_wp2_with (at_builtin; refine wpList_append_os _ rfl _ _ 25 rfl wc1.heap.size i0 Tryz.underlying25 HI.out HZ0.out HZ1.out HZ2.out _ [] rfl HOe.out _ _ ts rfl (RS.below (HL1.out.2.2.1.reads) (Below.refl _ _)) (by simp; omega) (by simp) ?_; intro v2 w5 hown hg5 hat5; rw [List.nil_append] at hown; obtain ⟨A2, C2, hsh⟩ := hown.reads.shape; subst hsh; have HM5 := Lib.hid (HM1.out.grown (HOe.out.mono (by omega)) hg5); have hb5 := (Below.refl wc1.heap.size wc1).alloc (Nat.le_refl _) (.cells #[] 9) |>.grown hg5 (by simp) (fun k hk => (HOe.out.low k hk).1); have HL5 := Lib.hid (OL.under HLW.out hb5 (Nat.le_refl _)); have HOw := Lib.hid (hown.mono (base' := 0) (Nat.zero_le _)); have k2 : w5.cell? ⟨w.heap.size, 11, none⟩ = some (.slice xt ts.length yt) := HM5.out.bk.cell rfl; have f2 := HM5.out.bk.free 11; clear hown hg5 hat5 hb5 k1)
    go_meet
    exact ⟨(.slice xm ms.length ym), (.slice xb bs.length yb), (.slice xg gs.length yg), (.slice A2 ts.length C2), HM5.out.set (i := 11) (.slice A2 ts.length C2), ⟨os_set HL5.out.1 (own_ne HM5.out.bk line_str HL5.out.1) _, os_set HL5.out.2.1 (own_ne HM5.out.bk line_str HL5.out.2.1) _, os_set HOw.out (own_ne HM5.out.bk line_str HOw.out) _, os_set HL5.out.2.2.2 (own_ne HM5.out.bk line_str HL5.out.2.2.2) _⟩⟩
   case rest =>
    obtain ⟨um, ub, ug, ut, hm, hl⟩ := hcut
    obtain ⟨wc2, hwc⟩ : ∃ x, x = wc := ⟨_, rfl⟩
    rw [← hwc] at hm hl ⊢
    clear hwc HMk HLk
    have HMk := Lib.hid hm
    have HLk := Lib.hid hl
    clear hm hl
    go_upto_region 4 with fail
    go_cut [] (fun wx => ∃ um ub ug ut, Mid w0 wx w.heap.size (lsG a b d m nx T tO H hO um ub ug ut) #[.int .i64 0, .int .i64 0, .int .i64 0, .int .i64 0, .slice none 0 0, .int .i64 0, .slice none 0 0, .string ⟨#[]⟩, .bool false, .string ⟨#[]⟩, .bool false, .slice none 0 0, .slice none 0 0] ∧ OL wx 0 um ms ug gs ut ts ub bs)
    case first =>
     obtain ⟨xm, ym, rfl⟩ := HLk.out.1.reads.shape
     obtain ⟨xg, yg, rfl⟩ := HLk.out.2.1.reads.shape
     obtain ⟨xt, yt, rfl⟩ := HLk.out.2.2.1.reads.shape
     obtain ⟨xb, yb, rfl⟩ := HLk.out.2.2.2.reads.shape
     have hNw : w.heap.size + 2 ≤ wc2.heap.size := by rw [hN]; exact HMk.out.bl.size
     have HM1 := Lib.hid (HMk.out.below ((Below.refl _ _).alloc (Nat.le_refl _) (.cells #[] 9)))
     have HL1 := Lib.hid (HLk.out.below ((Below.refl _ _).alloc (Nat.le_refl _) (.cells #[] 9)))
     have HOe := Lib.hid (show OS (wc2.alloc (.cells #[] 9)) wc2.heap.size (.slice (some ⟨wc2.heap.size, 0, none⟩) 0 0) [] from OS_made wc2 rfl (Nat.le_refl _))
     have HLW := Lib.hid (show OL wc2 0 (.slice xm ms.length ym) ms (.slice xg gs.length yg) gs (.slice xt ts.length yt) ts (.slice xb bs.length yb) bs from HLk.out)
     have k1 : (wc2.alloc (.cells #[] 9)).cell? ⟨w.heap.size, 12, none⟩ = some (.slice xb bs.length yb) := HM1.out.bk.cell rfl
     go_wp2_with (at_builtin; refine wpList_append_os _ rfl _ _ 25 rfl wc2.heap.size i0 Tryz.underlying25 HI.out HZ0.out HZ1.out HZ2.out _ [] rfl HOe.out _ _ bs rfl (RS.below (HL1.out.2.2.2.reads) (Below.refl _ _)) (by simp; omega) (by simp) ?_; intro v2 w5 hown hg5 hat5; rw [List.nil_append] at hown; obtain ⟨A2, C2, hsh⟩ := hown.reads.shape; subst hsh; have HM5 := Lib.hid (HM1.out.grown (HOe.out.mono (by omega)) hg5); have hb5 := (Below.refl wc2.heap.size wc2).alloc (Nat.le_refl _) (.cells #[] 9) |>.grown hg5 (by simp) (fun k hk => (HOe.out.low k hk).1); have HL5 := Lib.hid (OL.under HLW.out hb5 (Nat.le_refl _)); have HOw := Lib.hid (hown.mono (base' := 0) (Nat.zero_le _)); have k2 : w5.cell? ⟨w.heap.size, 12, none⟩ = some (.slice xb bs.length yb) := HM5.out.bk.cell rfl; have f2 := HM5.out.bk.free 12; clear hown hg5 hat5 hb5 k1)
     go_meet
     exact ⟨(.slice xm ms.length ym), (.slice A2 bs.length C2), (.slice xg gs.length yg), (.slice xt ts.length yt), HM5.out.set (i := 12) (.slice A2 bs.length C2), ⟨os_set HL5.out.1 (own_ne HM5.out.bk line_str HL5.out.1) _, os_set HL5.out.2.1 (own_ne HM5.out.bk line_str HL5.out.2.1) _, os_set HL5.out.2.2.1 (own_ne HM5.out.bk line_str HL5.out.2.2.1) _, os_set HOw.out (own_ne HM5.out.bk line_str HOw.out) _⟩⟩
    case rest =>
     obtain ⟨um, ub, ug, ut, hm, hl⟩ := hcut
     obtain ⟨wc3, hwc⟩ : ∃ x, x = wc := ⟨_, rfl⟩
     rw [← hwc] at hm hl ⊢
     clear hwc HMk HLk
     have HMk := Lib.hid hm
     have HLk := Lib.hid hl
     clear hm hl
     obtain ⟨am2, cm2, rfl⟩ := HLk.out.1.reads.shape
     obtain ⟨ag2, cg2, rfl⟩ := HLk.out.2.1.reads.shape
     obtain ⟨at2, ct2, rfl⟩ := HLk.out.2.2.1.reads.shape
     obtain ⟨ab2, cb2, rfl⟩ := HLk.out.2.2.2.reads.shape
     obtain ⟨c0, c1, c2, c3, c4, c5, c6, c7, c8, c9, c10, c11, c12⟩ := cells13 HMk.out.bk
     obtain ⟨z0, z1, z2, z3, z4, z5, z6, z7, z8, z9, z10, z11, z12⟩ := cells13 HMk.out.bq
     obtain ⟨f0, f1, f2, f3, f4, f5, f6, f7, f8, f9, f10, f11, f12⟩ := free13 HMk.out.bq
     go_wp2
     have hq := set13_bk (v0 := .int .i64 a) (v1 := .int .i64 b) (v2 := .int .i64 d) (v3 := .int .i64 m) (v4 := .slice am2 ms.length cm2) (v5 := .int .i64 nx) (v6 := .slice ag2 gs.length cg2) (v7 := .string T) (v8 := .bool tO) (v9 := .string H) (v10 := .bool hO) (v11 := .slice at2 ts.length ct2) (v12 := .slice ab2 bs.length cb2) HMk.out.bq rfl
     exact line_ret Tryz.results52 hq rfl rfl ⟨_, _, _, _, rfl, OL.whole2 HMk.out HLk.out, set13_below (HB.out.trans HMk.out.bl) (by omega)⟩
end Go.Proofs.YtmggoiabcboaiaaGreat
namespace Go.Proofs.YtmggoiabcboaiaaGreat
open Go.ChangeShapes Go.WideShapes Go.ChangeAt Go.RowKit
set_option linter.unusedVariables false
def loseP (tw : Bool) (ss : List ByteArray) : List ByteArray := if tw = true then twiceL ss else ss.tail
def LosePost (base : Nat) (w : World) (v : Value) (ss : List ByteArray) (tw : Bool) (e : Ending) (w' : World) : Prop := ∃ u b, e = .returned (.tuple #[u, .bool b]) ∧ OS w' base u (loseP tw ss) ∧ Below w.heap.size w w'
set_option maxRecDepth 100000 in
set_option maxHeartbeats 1000000 in
theorem l8Lose_any {base : Nat} (v : Value) (ss : List ByteArray) (tw : Bool) (w : World) (h : OS w base v ss) (hl : ss.length ≤ 5) (hbs : base ≤ w.heap.size) :
  Calls Tryz.prog 75 #[v, .bool tw] w (LosePost base w v ss tw) := by
 obtain ⟨i0, hi0, hz0, hz1, hz2⟩ := info_parts info_str
 have HI := Lib.hid hi0
 have HZ0 := Lib.hid hz0
 have HZ1 := Lib.hid hz1
 have HZ2 := Lib.hid hz2
 clear hi0 hz0 hz1 hz2
 cases hss : ss with
 | nil =>
  obtain ⟨a, c, rfl⟩ := h.reads.shape
  have H := Lib.hid h
  clear h
  subst hss
  go_enter Tryz.func75, Tryz.ntmps75
  go_wp2
  go_ret2
  exact ⟨_, _, rfl, by cases tw <;> exact H.out, Below.refl _ _⟩
 | cons t r =>
  obtain ⟨g, c, rfl, hg0, hg1⟩ := h.pos (by rw [hss]; simp)
  obtain ⟨A27, C27, hsl, hrr⟩ := tail_slice h hss
  have c0 := h.cellAt (k := 0) (by rw [hss]; simp)
  have ht0 : ss[0]'(by rw [hss]; simp) = t := by simp [hss]
  rw [ht0] at c0
  obtain ⟨n, hn⟩ : ∃ n, n = ss.length := ⟨_, rfl⟩
  rw [← hn] at hsl ⊢
  have hn0 : 0 < n := by rw [hn, hss]; simp
  have hn5 : n ≤ 5 := by rw [hn]; exact hl
  have HN := Lib.hid hn
  have H := Lib.hid h
  have HS := Lib.hid hss
  have HR := Lib.hid hrr
  clear h hss hrr hl hn ht0
  cases tw with
  | false =>
   have HRR := Lib.hid (HR.out.below ((Below.refl _ _).alloc (Nat.le_refl _) (.cells #[] 9)))
   have HOe := Lib.hid (show OS (w.alloc (.cells #[] 9)) w.heap.size (.slice (some ⟨w.heap.size, 0, none⟩) 0 0) [] from OS_made w rfl (Nat.le_refl _))
   have hrl : r.length ≤ 5 := by have := HN.out; rw [HS.out] at this; simp at this; omega
   go_enter Tryz.func75, Tryz.ntmps75
   go_wp2_with (at_builtin; refine wpList_append_os _ rfl _ _ 25 rfl w.heap.size i0 Tryz.underlying25 HI.out HZ0.out HZ1.out HZ2.out _ [] rfl HOe.out _ _ r rfl HRR.out (by simp; omega) (by simp) ?_; intro v2 w5 hown hg5 hat5; rw [List.nil_append] at hown; obtain ⟨A2, C2, hsh⟩ := hown.reads.shape; subst hsh; have HO5 := Lib.hid (hown.mono (base' := base) hbs); have HB5 := Lib.hid ((Below.refl w.heap.size w).alloc (Nat.le_refl _) (.cells #[] 9) |>.grown hg5 (by simp) (fun k hk => (HOe.out.low k hk).1)); clear hown hg5 hat5)
   go_ret2
   exact ⟨_, _, rfl, HO5.out, HB5.out⟩
  | true =>
   by_cases h5 : n < 5
   ·have HOe := Lib.hid (show OS (w.alloc (.cells #[.string t] 9)) w.heap.size (.slice (some ⟨w.heap.size, 0, none⟩) 1 1) [t] from OS_new1 w t w.heap.size (Nat.le_refl _))
    have HRR := Lib.hid (H.out.reads.below ((Below.refl _ _).alloc (Nat.le_refl _) (.cells #[.string t] 9)))
    rw [← HN.out] at HRR
    have h5i : decide ((5 : Int) ≤ (n : Int)) = false := by simp; omega
    have hsl5 : 1 + ss.length ≤ 1000000000000 := by have := HN.out; omega
    have HL5 := Lib.hid hsl5
    clear hsl5
    go_enter Tryz.func75, Tryz.ntmps75
    go_wp2_with (at_builtin; refine wpList_append_os _ rfl _ _ 25 rfl w.heap.size i0 Tryz.underlying25 HI.out HZ0.out HZ1.out HZ2.out _ [t] rfl HOe.out _ _ ss rfl HRR.out HL5.out (by simp) ?_; intro v2 w5 hown hg5 hat5; obtain ⟨A2, C2, hsh⟩ := hown.reads.shape; subst hsh; have HO5 := Lib.hid (hown.mono (base' := base) hbs); have HB5 := Lib.hid ((Below.refl w.heap.size w).alloc (Nat.le_refl _) (.cells #[.string t] 9) |>.grown hg5 (by simp) (fun k hk => (HOe.out.low k hk).1)); clear hown hg5 hat5)
    go_ret2
    exact ⟨_, _, rfl, by rw [show loseP true (t :: r) = [t] ++ ss by unfold loseP twiceL; rw [HS.out]; simp only [if_true]; rw [if_pos (by have := HN.out; rw [HS.out] at this; omega)]; rfl]; exact HO5.out, HB5.out⟩
   ·go_enter Tryz.func75, Tryz.ntmps75
    go_wp2
    go_ret2
    exact ⟨_, _, rfl, by rw [show loseP true (t :: r) = ss by unfold loseP twiceL; rw [HS.out]; simp only [if_true]; rw [if_neg (by have := HN.out; rw [HS.out] at this; omega)]]; have h := H.out; rw [← HN.out] at h; exact h, Below.refl _ _⟩
end Go.Proofs.YtmggoiabcboaiaaGreat
