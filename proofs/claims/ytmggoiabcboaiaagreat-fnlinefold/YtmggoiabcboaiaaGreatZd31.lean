/- Parts of a proof, 31: DrawSt DrawPl LkX. -/
import Derived.Test.YtmggoiabcboaiaaGreatZd1
import Derived.Test.YtmggoiabcboaiaaGreatZd2
import Derived.Test.YtmggoiabcboaiaaGreatZd3
import Derived.Test.YtmggoiabcboaiaaGreatZd4
import Derived.Test.YtmggoiabcboaiaaGreatZd5
import Derived.Test.YtmggoiabcboaiaaGreatZd6
import Derived.Test.YtmggoiabcboaiaaGreatZd7
import Derived.Test.YtmggoiabcboaiaaGreatZd8
import Derived.Test.YtmggoiabcboaiaaGreatZd9
import Derived.Test.YtmggoiabcboaiaaGreatZd10
import Derived.Test.YtmggoiabcboaiaaGreatZd11
import Derived.Test.YtmggoiabcboaiaaGreatZd12
import Derived.Test.YtmggoiabcboaiaaGreatZd13
import Derived.Test.YtmggoiabcboaiaaGreatZd14
import Derived.Test.YtmggoiabcboaiaaGreatZd15
import Derived.Test.YtmggoiabcboaiaaGreatZd16
import Derived.Test.YtmggoiabcboaiaaGreatZd17
import Derived.Test.YtmggoiabcboaiaaGreatZd18
import Derived.Test.YtmggoiabcboaiaaGreatZd19
import Derived.Test.YtmggoiabcboaiaaGreatZd20
import Derived.Test.YtmggoiabcboaiaaGreatZd21
import Derived.Test.YtmggoiabcboaiaaGreatZd22
import Derived.Test.YtmggoiabcboaiaaGreatZd24
import Derived.Test.YtmggoiabcboaiaaGreatZd30
namespace Go.Proofs.YtmggoiabcboaiaaGreat
open Go.ChangeShapes Go.WideShapes Go.ChangeAt Go.RowKit
set_option linter.unusedVariables false
theorem zzV_one (l : List Int) : ∀ u ∈ l.map zzV, u.oneCell' = true := by
 intro u hu
 obtain ⟨s, _, rfl⟩ := List.mem_map.1 hu
 rfl
section
variable {P : Program} (w : World)
theorem run_append_oz (base : Nat) (t ty : TypeId) (i : TypeInfo) (ht : P.underlying t = some (.slice 3)) (hi : P.info? 3 = some i) (hz : i.zero = some (.int .i64 0))
  (hsize : i.size = 1) (hby : i.bytes = 8) (v : Value) (l : List Int) (hown : OZ w base v l)
  (B : Nat) (v2 : Value) (news : List Int) (hr : RZ w B v2 news) (hlen : l.length + news.length ≤ 1000000000000) (hbase : base ≤ w.heap.size) :
  ∃ v' w', (Builtin.append_ #[t, t] ty #[v, v2]).run P w = .ok v' w' ∧ OZ w' base v' (l ++ news) ∧ w.grownBy w' v.ownBlock ∧ (v'.ownBlock = v.ownBlock ∨ v'.ownBlock = some w.heap.size) := by
 obtain ⟨ad, cap, hv2, _, hr2⟩ := hr
 cases ad with
 | some y =>
  have hc : ∀ j u, (news.map zzV)[j]? = some u → w.cell? (y.add j) = some u := by
   intro j u hu
   have hj : j < news.length := by
    rcases Nat.lt_or_ge j news.length with h | h
    ·exact h
    ·rw [List.getElem?_eq_none (by simpa using h)] at hu; cases hu
   obtain ⟨y', hy, _, hc⟩ := hr2 (by omega)
   injection hy with hy
   subst hy
   rw [List.getElem?_map, List.getElem?_eq_getElem hj] at hu
   injection hu with hu
   rw [← hu]
   exact hc j hj
  obtain ⟨v', w', r1, r2, r3, _, r5⟩ := run_append_own_at (P := P) w base t ty 3 i _ 1 8 ht hi hz hsize hby rfl (by omega) v l.length (l.map zzV) hown y news.length cap (news.map zzV) (by simp) hc (zzV_one _) (by unfold maxLen; omega) (by omega) hbase
  refine ⟨v', w', by rw [hv2]; exact r1, ?_, r3, r5⟩
  unfold OZ
  rw [List.length_append, List.map_append]
  exact r2
 | none =>
  have hn : news = [] := by
   by_cases h0 : 0 < news.length
   ·obtain ⟨y', hy, _⟩ := hr2 h0
    cases hy
   ·exact List.eq_nil_of_length_eq_zero (by omega)
  subst hn
  refine ⟨v, w, ?_, by simpa using hown, ⟨rfl, rfl, rfl, Nat.le_refl _, fun _ _ _ => rfl⟩, .inl rfl⟩
  rw [hv2]
  rcases hown.2 with ⟨rfl, hl⟩ | ⟨g, cp, cur, rfl, _, hg, hnc, _, hcs, _⟩
  ·simp [Builtin.append_, run_underlying ht, sizeOf, typeInfo, hi, Builtin.lenOf, Builtin.firstCells]
  ·simp [Builtin.append_, run_underlying ht, sizeOf, typeInfo, hi, Builtin.lenOf, Builtin.firstCells, hnc, storeCells]
theorem wpList_append_oz {ops : Array Oper} {rest : List Oper} {o : Oper} {a : Act} {Q : Exit → Act → World → Prop} (hgd : o.guard = none) (s x : Operand) (t : TypeId)
  (ho : o.op = .call { callee := .builtin .append, args := #[s, x], argTypes := #[t, t] })
  (base : Nat) (i : TypeInfo) (ht : P.underlying t = some (.slice 3)) (hi : P.info? 3 = some i) (hz : i.zero = some (.int .i64 0))
  (hsize : i.size = 1) (hby : i.bytes = 8) (v : Value) (l : List Int) (hs : a.eval s = v) (hown : OZ w base v l)
  (B : Nat) (v2 : Value) (news : List Int) (hx : a.eval x = v2) (hr : RZ w B v2 news) (hlen : l.length + news.length ≤ 1000000000000) (hbase : base ≤ w.heap.size)
  (h : ∀ v' w', OZ w' base v' (l ++ news) → w.grownBy w' v.ownBlock → (v'.ownBlock = v.ownBlock ∨ v'.ownBlock = some w.heap.size) → wpList P ops Q rest (a.put o.dst v') w') : wpList P ops Q (o :: rest) a w := by
 refine wpList_plain hgd fun K hK => ?_
 obtain ⟨v', w', hr, h2, h3, h4⟩ := run_append_oz (P := P) w base t o.type i ht hi hz hsize hby v l hown B v2 news hr hlen hbase
 unfold Oper.wp execOp
 simp only [ho, resolve, invoke, builtin, Sem.run_bind, Sem.run_pure, Result.andThen_ok, List.map_toArray, List.map_cons, List.map_nil, hs, hx, hr]
 exact hK _ _ (h v' w' h2 h3 h4)
end
theorem OZ.alloc {w : World} {base : Nat} {v : Value} {zs : List Int} (h : OZ w base v zs) (o : Obj) : OZ (w.alloc o) base v zs := h.below ((Below.refl _ _).alloc (Nat.le_refl _) _)
section
variable {w : World} {base : Nat} {v : Value} {ss : List Int}
theorem OZ.put (h : OZ w base v ss) {p : Addr} (hp : p.block < base) (x : Value) : OZ (w.setCell p x) base v ss := by
 refine ⟨h.1, ?_⟩
 rcases h.2 with hn | ⟨g, cap, cur, hv, hbg, hg, rest⟩
 ·exact .inl hn
 ·exact .inr ⟨g, cap, cur, hv, hbg, by rw [Below.heap_setCell _ _ _ _ (by omega)]; exact hg, rest⟩
end
theorem OZ_made (w : World) {base g : Nat} (hg : w.heap.size = g) (hb : base ≤ g := by omega) : OZ (w.alloc (.cells #[] 3)) base (.slice (some ⟨g, 0, none⟩) 0 0) [] := by
 subst hg
 exact ⟨rfl, .inr ⟨w.heap.size, 0, #[], rfl, hb, heap_alloc_new w _, Nat.le_refl _, by simp [maxLen], rfl, rfl⟩⟩
theorem RZ_one (w : World) (s : Int) {g : Nat} (hg : w.heap.size = g := by rfl) : RZ (w.alloc (.cells #[.int .i64 s] 3)) (g + 1) (.slice (some ⟨g, 0, none⟩) 1 1) [s] := by
 subst hg
 refine ⟨_, _, rfl, Nat.le_refl _, fun _ => ⟨_, rfl, by simp, fun j hj => ?_⟩⟩
 have hj0 : j = 0 := by simp at hj; omega
 subst hj0
 rw [slit_add]; simp
theorem OZ.keptg {w w' : World} {base g : Nat} {v : Value} {zs : List Int} (h : OZ w base v zs) (hg : w.grownBy w' (some g)) (hb : g < base) : OZ w' base v zs := by
 refine h.kept hg ?_
 cases hv : v.ownBlock with
 | none => exact .inl rfl
 | some k => exact .inr (fun e => by injection e with e; have := (h.low k hv).1; omega)
def StepsPost (w : World) (B g N : Nat) (e : Ending) (w' : World) : Prop := ∃ (v : Value) (zs : List Int), e = .returned v ∧ OZ w' w.heap.size v zs ∧ zs.length ≤ 90 ∧ (∀ z ∈ zs, 1 ≤ z ∧ z ≤ 7) ∧ Rd w' B g (N + 100) ∧ w.grownBy w' (some g)
set_option maxRecDepth 100000 in
set_option maxHeartbeats 2000000 in
theorem steps_any {w : World} {B g N : Nat} (h : Rd w B g N) (hN : N + 300 ≤ 1000000000) :
  Calls Tryz.prog 37 #[.pointer (some ⟨g, 0, none⟩)] w (StepsPost w B g N) := by
 obtain ⟨i0, hi, hz0, hz1, hz2⟩ := info_parts info_int
 have HI := Lib.hid hi
 have HZ0 := Lib.hid hz0
 have HZ1 := Lib.hid hz1
 have HZ2 := Lib.hid hz2
 have hgl := h.lt
 have HR := Lib.hid (h.alloc (.cells #[] 3))
 have HO := Lib.hid (OZ_made w (base := w.heap.size) (g := w.heap.size) rfl (Nat.le_refl _))
 have HG := Lib.hid (grown_alloc (row := some g) (⟨rfl, rfl, rfl, Nat.le_refl _, fun _ _ _ => rfl⟩ : w.grownBy w (some g)) (.cells #[] 3))
 have hlr := list_row (w.alloc (.cells #[] 3)) #[.int .i64 0, .int .i64 20, .int .i64 60, .int .i64 90] 3 [0, 20, 60, 90] rfl
 rw [World.size_alloc] at hlr
 have HLR := Lib.hid hlr
 clear h hi hz0 hz1 hz2 hlr
 go_enter Tryz.func37, Tryz.ntmps37
 go_wp2_with fail
 refine (one_any (m := w.heap.size + 1) [0, 20, 60, 90] 3 (HR.out.alloc _) (by omega) (by simp) (by simp) (by omega) HLR.out).mono ?_
 rintro e w1 ⟨x, hx, rfl, hr1, hg1⟩
 obtain ⟨n0, hq, hn0⟩ : ∃ q : Nat, x = (q : Int) ∧ q ≤ 90 := by
  simp only [List.mem_cons, List.not_mem_nil, or_false] at hx
  exact ⟨x.toNat, by omega, by omega⟩
 subst hq
 have HR := Lib.hid hr1
 have HO := Lib.hid ((HO.out.alloc _).keptg hg1 hgl)
 have HG := Lib.hid (grown_trans (grown_alloc HG.out _) hg1)
 clear hr1 hg1 hx
 go_wp2_with fail
 go_loopw [3, 4] (fun v n wr => ∃ (k : Nat) (zs : List Int), k ≤ n0 ∧ n = .int .i64 k ∧ zs.length + k = n0 ∧ (∀ z ∈ zs, 1 ≤ z ∧ z ≤ 7) ∧ OZ wr w.heap.size v zs ∧ Rd wr B g (N + 1 + zs.length) ∧ w.grownBy wr (some g)) (fun _ n _ => (intOf n).toNat)
 case atStart => exact ⟨n0, [], Nat.le_refl _, rfl, by simp, fun s hs => by simp at hs, HO.out, by simpa using HR.out, HG.out⟩
 case round =>
  obtain ⟨k, zs, hk, rfl, hlk, hsz, hown, hrd, hgr⟩ := hrel
  have HOr := Lib.hid hown
  have HRr := Lib.hid hrd
  have HGr := Lib.hid hgr
  have HLK := Lib.hid hlk
  have HSZ := Lib.hid hsz
  have hll : zs.length + k ≤ n0 := by omega
  have hsz0 : w.heap.size ≤ wr.heap.size := hgr.size
  clear hown hrd hgr hlk hsz
  by_cases hk0 : 0 < k
  ·go_wp2_with fail
   refine (one_any (m := wr.heap.size) [1, 1, 1, 2, 2, 2, 3, 3, 3, 4, 5, 6, 7] 3 (HRr.out.alloc _) (by omega) (by simp) (by simp) (by omega) (list_row wr _ _ _ rfl)).mono ?_
   rintro e w2 ⟨x, hx, rfl, hr2, hg2⟩
   have hx7 : 1 ≤ x ∧ x ≤ 7 := by
    simp only [List.mem_cons, List.not_mem_nil, or_false] at hx
    omega
   have HX7 := Lib.hid hx7
   have HR2 := Lib.hid hr2
   have HG2 := Lib.hid (grown_trans (grown_alloc HGr.out _) hg2)
   have HO2 := Lib.hid ((HOr.out.alloc _).keptg hg2 hgl)
   clear hr2 hg2 hx hx7
   go_wp2_with (at_builtin; refine wpList_append_oz _ rfl _ _ 26 rfl w.heap.size i0 Tryz.underlying26 HI.out HZ0.out HZ1.out HZ2.out _ zs rfl (HO2.out.alloc _) _ _ [x] rfl (RZ_one w2 x) (by simp; omega) (by have := HG2.out.size; simp; omega) ?_; intro v4 w4 hown4 hg4 _)
   go_roundw
   case rel =>
    have hlow := HO2.out.low
    have hne : u3.ownBlock ≠ some g := fun e => by have := (hlow g e).1; omega
    refine ⟨k - 1, zs ++ [x], by omega, val_int (by omega), by simp; have := HLK.out; omega, fun z hz => ?_, hown4, ?_, ?_⟩
    ·rw [List.mem_append] at hz
     rcases hz with hz | hz
     ·exact HSZ.out z hz
     ·rw [List.mem_singleton.1 hz]; exact HX7.out
    ·refine ((HR2.out.alloc _).grow hg4 hne (fun j e => ?_)).mono (by simp; omega)
     have h7 := (hlow j e).1
     have hBg : B ≤ g := by obtain ⟨_, _, _, _, _, _, _, _, _, h5, _⟩ := HR2.out; exact h5
     omega
    ·exact grown_own (grown_alloc HG2.out _) hg4 (fun j e => (hlow j e).1)
   case measure => simp [intOf]; omega
  ·go_wp2
   go_ret
   exact ⟨_, zs, rfl, HOr.out, by omega, HSZ.out, HRr.out.mono (by omega), HGr.out⟩
end Go.Proofs.YtmggoiabcboaiaaGreat
namespace Go.Proofs.YtmggoiabcboaiaaGreat
open Go.ChangeShapes Go.WideShapes Go.ChangeAt Go.RowKit
set_option linter.unusedVariables false
def PlayDrawn (w : World) (e : Ending) (w' : World) : Prop := ∃ (a b d m : Int) (v : Value) (ms : List ByteArray) (vz : Value) (zs : List Int), e = .returned (.tuple #[cfV a b d m, v, vz]) ∧ confB ⟨a, b, d, m⟩ = true ∧ (OS w' w.heap.size v ms ∧ ms.length ≤ 6 ∧ ∀ s ∈ ms, s.size ≤ 10) ∧ (OZ w' w.heap.size vz zs ∧ zs.length ≤ 90 ∧ ∀ z ∈ zs, 1 ≤ z ∧ z ≤ 7) ∧ Below w.heap.size w w'
set_option maxRecDepth 100000 in
set_option maxHeartbeats 2000000 in
theorem drawLinePlay_any {w : World} (ad : Option Addr) (len cap : Nat) (zs : List Int) (h : IsRow .u8 w ad len cap zs) :
  Calls Tryz.prog 9 #[.slice ad len cap] w (PlayDrawn w) := by
 have hzc := zero_conf
 have hb0 : Below w.heap.size w (w.alloc (.cells #[.int .i64 0, .int .i64 0, .int .i64 0, .int .i64 0] 24)) := (Below.refl _ w).alloc (Nat.le_refl _) _
 have HQ := Lib.hid (BK.new w #[.int .i64 0, .int .i64 0, .int .i64 0, .int .i64 0] 24)
 have HH := Lib.hid (h.keep hb0)
 have HB := Lib.hid hb0
 clear h hb0
 go_enter Tryz.func9, Tryz.ntmps9
 go_wp2_with fail
 refine (open_any ad len cap zs HH.out).mono ?_
 rintro e w1 ⟨rfl, hr1, hb1, hs1⟩
 rw [World.size_alloc] at hr1 ⊢
 have hs1' : w1.heap.size = w.heap.size + 2 := by rw [hs1]; simp
 have HR := Lib.hid hr1
 have HQ := Lib.hid (HQ.out.from hb1)
 have HB := Lib.hid (HB.out.trans (hb1.mono HB.out.size))
 clear hr1 hb1 hs1
 go_wp2_with fail
 refine (conf_any HR.out (by omega)).mono ?_
 rintro e w2 ⟨a, b, d, m, rfl, hsm, hr2, hg2⟩
 have hsz2 := hg2.size
 have hk := BK.new w2 #[.int .i64 a, .int .i64 b, .int .i64 d, .int .i64 m] 24
 obtain ⟨c0, c1, c2, c3⟩ := cells4 hk
 have HK := Lib.hid hk
 have HQ := Lib.hid ((HQ.out.grown hg2 (fun e => by injection e with e; omega)).alloc (.cells #[.int .i64 a, .int .i64 b, .int .i64 d, .int .i64 m] 24))
 have HB := Lib.hid ((HB.out.trans (grown_below hg2 HB.out.size (by omega))).alloc (Nat.le_trans HB.out.size hg2.size) (.cells #[.int .i64 a, .int .i64 b, .int .i64 d, .int .i64 m] 24))
 have HR := Lib.hid (hr2.alloc (.cells #[.int .i64 a, .int .i64 b, .int .i64 d, .int .i64 m] 24))
 have HSZ := Lib.hid (show w2.heap.size + 1 ≤ (w2.alloc (.cells #[.int .i64 a, .int .i64 b, .int .i64 d, .int .i64 m] 24)).heap.size by simp)
 have HSM := Lib.hid hsm
 have hd := (confB_yes hsm).2.2.1
 have hd2 : -1 ≤ d ∧ d ≤ 41 := by
  have h1 : (0 : Int) ≤ d := hd.1
  have h2 : d ≤ 40 := hd.2
  omega
 clear hr2 hg2 hk hsm hd
 go_wp2_with fail
 refine (msgs_any a b d m HR.out hd2 (by omega)).mono ?_
 rintro e w3 ⟨v, ms, rfl, ho3, hl3, hz3, hr3, hg3⟩
 have HO := Lib.hid (OS.mono (base' := w2.heap.size + 1) ho3 HSZ.out)
 have HZS := Lib.hid hz3
 have HR := Lib.hid hr3
 have HK := Lib.hid (HK.out.grown hg3 (fun e => by injection e with e; omega))
 have HQ := Lib.hid (HQ.out.grown hg3 (fun e => by injection e with e; omega))
 have HB := Lib.hid (HB.out.trans (grown_below hg3 HB.out.size (by omega)))
 have HSZ := Lib.hid (Nat.le_trans HSZ.out hg3.size)
 clear ho3 hz3 hr3 hg3 c0 c1 c2 c3
 go_wp2_with fail
 have hKb := HK.out.drew
 have hQb := HQ.out.drew
 have hOb := HO.out.drew
 have hRb := HR.out.drew
 have hBb := HB.out.drew
 have hSb : w2.heap.size + 1 ≤ w3.drew.heap.size := HSZ.out
 have hS := cells4 hKb
 refine wp_region_held_drew (S := (fun wx => wx.cell? ⟨w2.heap.size, 0, none⟩ = some (.int .i64 a) ∧ wx.cell? ⟨w2.heap.size, 1, none⟩ = some (.int .i64 b) ∧ wx.cell? ⟨w2.heap.size, 2, none⟩ = some (.int .i64 d) ∧ wx.cell? ⟨w2.heap.size, 3, none⟩ = some (.int .i64 m))) (by kernel_rfl) hS (fun hHeld => ?_)
 refine tkH 0 ?_ rfl (Or.inl ⟨by rfl, ?_⟩) ?_; rotate_left
 ·intro wq hSw; (try dsimp only at hSw); (try simp only [gT, gZ]); go_simp; (try with_reducible rfl)
 simp only [Act.put, gT, gZ, sT, sZ, sS]
 refine tkH 1 ?_ rfl (Or.inl ⟨by rfl, ?_⟩) ?_; rotate_left
 ·intro wq hSw; (try dsimp only at hSw); (try simp only [gT, gS, gZ]); go_simp; (try with_reducible rfl)
 simp only [Act.put, gT, gS, gZ, sT, sZ, sS]
 refine tkH 2 ?_ rfl (Or.inl ⟨by rfl, ?_⟩) ?_; rotate_left
 ·intro wq hSw; (try dsimp only at hSw); (try simp only [gT, gS, gZ]); go_simp; (try with_reducible rfl)
 simp only [Act.put, gT, gS, gZ, sT, sZ, sS]
 refine wpAnyH_ready (rs := [3]) (by kernel_rfl) (by simp) ?_
 refine AllReadyH.cons rfl (fun K hK => ?_) AllReadyH.nil
 (try simp only [gT, gS, gZ])
 go_simp
 go_at_call 37
 refine (steps_any hRb (by omega)).mono ?_
 rintro e w4 ⟨vz, zz, rfl, hoz, hzl, hzz, hr4, hg4⟩
 have hKb := hKb.grown hg4 (fun e => by injection e with e; omega)
 have hQb := hQb.grown hg4 (fun e => by injection e with e; omega)
 have hOb := hOb.keptg hg4 (by omega)
 have hBb := hBb.trans (grown_below hg4 hBb.size (by omega))
 have hS := cells4 hKb
 refine hK.out _ _ hS (fun hHeld => ?_)
 clear hK K
 have hozb := OZ.mono (base' := w2.heap.size + 1) hoz hSb
 obtain ⟨z0, z1, z2, z3⟩ := cells4 hQb
 obtain ⟨f0, f1, f2, f3⟩ := free4 hQb
 have hX := hKb.far (j := w.heap.size) (o := 0) (by omega) (.int .i64 a)
 have hX := hX.far (j := w.heap.size) (o := 1) (by omega) (.int .i64 b)
 have hX := hX.far (j := w.heap.size) (o := 2) (by omega) (.int .i64 d)
 have hX := hX.far (j := w.heap.size) (o := 3) (by omega) (.int .i64 m)
 have hS := cells4 hX
 refine wpAnyH_ready (rs := [4]) (by kernel_rfl) (by simp) ?_
 refine AllReadyH.cons rfl (fun K hK => ?_) AllReadyH.nil
 (try simp only [gT, gS, gZ])
 skip
 go_simp
 skip
 refine hK.out _ _ hS (fun hHeld => ?_)
 clear hK K
 refine tkH 5 ?_ rfl (Or.inl ⟨by rfl, ?_⟩) ?_; rotate_left
 ·intro wq hSw; (try dsimp only at hSw); (try simp only [gT, gS, gZ]); go_simp; (try with_reducible rfl)
 simp only [Act.put, gT, gS, gZ, sT, sZ, sS]
 refine tkH 6 ?_ rfl (Or.inl ⟨by rfl, ?_⟩) ?_; rotate_left
 ·intro wq hSw; (try dsimp only at hSw); (try simp only [gT, gS, gZ]); go_simp; (try with_reducible rfl)
 simp only [Act.put, gT, gS, gZ, sT, sZ, sS]
 refine wpAnyH_done (by kernel_rfl) ?_ _
 have hq : BK _ w.heap.size #[.int .i64 a, .int .i64 0, .int .i64 0, .int .i64 0] 24 := hQb.set 0 (.int .i64 a)
 have hq : BK _ w.heap.size #[.int .i64 a, .int .i64 b, .int .i64 0, .int .i64 0] 24 := hq.set 1 (.int .i64 b)
 have hq : BK _ w.heap.size #[.int .i64 a, .int .i64 b, .int .i64 d, .int .i64 0] 24 := hq.set 2 (.int .i64 d)
 have hq : BK _ w.heap.size #[.int .i64 a, .int .i64 b, .int .i64 d, .int .i64 m] 24 := hq.set 3 (.int .i64 m)
 obtain ⟨y0, y1, y2, y3⟩ := cells4 hq
 have HOc := Lib.hid hOb
 have HZc := Lib.hid hozb
 have HZZ := Lib.hid hzz
 have HBc := Lib.hid hBb
 clear hKb hQb hOb hBb hX hS hRb hoz hozb hzz hr4 hg4 hq
 go_wp2
 refine bodyPost_ret (v := .tuple #[cfV a b d m, v, vz]) (by simp [results, Tryz.results9, go_sem, y0, y1, y2, y3]) rfl ⟨a, b, d, m, v, ms, vz, zz, rfl, HSM.out, ⟨?_, hl3, HZS.out⟩, ⟨?_, hzl, HZZ.out⟩, ?_⟩
 ·exact (((((HOc.out.put (p := ⟨w.heap.size, 0, none⟩) (by simp; omega) _).put (p := ⟨w.heap.size, 1, none⟩) (by simp; omega) _).put (p := ⟨w.heap.size, 2, none⟩) (by simp; omega) _).put (p := ⟨w.heap.size, 3, none⟩) (by simp; omega) _).mono (by omega))
 ·exact (((((HZc.out.put (p := ⟨w.heap.size, 0, none⟩) (by simp; omega) _).put (p := ⟨w.heap.size, 1, none⟩) (by simp; omega) _).put (p := ⟨w.heap.size, 2, none⟩) (by simp; omega) _).put (p := ⟨w.heap.size, 3, none⟩) (by simp; omega) _).mono (by omega))
 ·exact (((HBc.out.setCell (p := ⟨w.heap.size, 0, none⟩) (by simp) _).setCell (p := ⟨w.heap.size, 1, none⟩) (by simp) _).setCell (p := ⟨w.heap.size, 2, none⟩) (by simp) _).setCell (p := ⟨w.heap.size, 3, none⟩) (by simp) _
end Go.Proofs.YtmggoiabcboaiaaGreat
namespace Go.Proofs.YtmggoiabcboaiaaGreat
open Go.ChangeShapes Go.WideShapes Go.ChangeAt Go.RowKit
set_option linter.unusedVariables false
def ResD (w : World) (s : Ls) (e : Ending) (w' : World) : Prop := ∃ vm vb vg vt q, e = .returned (.tuple #[lsV s vm vb vg vt, .bool q]) ∧ (OL w' w.heap.size vm s.ms vg s.gs vt s.ts vb s.bs ∧ Ap4 vm vg vt vb) ∧ Below w.heap.size w w'
def doRes (s : Ls) (ok : Bool) (r : Int) : Ls := if ok = true then s.doP r else zeroLs
set_option maxRecDepth 100000 in
set_option maxHeartbeats 2000000 in
theorem implLineDo_any (a b d m nx : Int) (vm : Value) (ms : List ByteArray) (vg : Value) (gs : List ByteArray) (vt : Value) (ts : List ByteArray) (vb : Value) (bs : List ByteArray) (T H : ByteArray) (tO hO : Bool) (r : Int) (w : World) (B : Nat) (h : RL w B vm ms vg gs vt ts vb bs) (hB : B ≤ w.heap.size)
  (wa : (Lit.int .i64 a).wf = true) (wr : (Lit.int .i64 r).wf = true) (hs : fewLn ms gs T H ts bs) :
  Calls Tryz.prog 15 #[lnV a b d m vm nx vg T tO H hO vt vb, .int .i64 r] w (ResD w (doRes (mkLs a b d m ms nx gs T tO H hO ts bs) (okLn a b d m ms nx gs T tO H hO ts bs) r)) := by
 obtain ⟨am, cm, rfl⟩ := h.1.shape
 obtain ⟨ag, cg, rfl⟩ := h.2.1.shape
 obtain ⟨at_, ct, rfl⟩ := h.2.2.1.shape
 obtain ⟨ab, cb, rfl⟩ := h.2.2.2.shape
 have hzl := zero_line
 have hk := (BK.new w #[.int .i64 a, .int .i64 b, .int .i64 d, .int .i64 m, .slice am ms.length cm, .int .i64 nx, .slice ag gs.length cg, .string T, .bool tO, .string H, .bool hO, .slice at_ ts.length ct, .slice ab bs.length cb] 32).alloc (.cells #[.int .i64 0, .int .i64 0, .int .i64 0, .int .i64 0, .slice none 0 0, .int .i64 0, .slice none 0 0, .string ⟨#[]⟩, .bool false, .string ⟨#[]⟩, .bool false, .slice none 0 0, .slice none 0 0] 32)
 have hq := BK.new (w.alloc (.cells #[.int .i64 a, .int .i64 b, .int .i64 d, .int .i64 m, .slice am ms.length cm, .int .i64 nx, .slice ag gs.length cg, .string T, .bool tO, .string H, .bool hO, .slice at_ ts.length ct, .slice ab bs.length cb] 32)) #[.int .i64 0, .int .i64 0, .int .i64 0, .int .i64 0, .slice none 0 0, .int .i64 0, .slice none 0 0, .string ⟨#[]⟩, .bool false, .string ⟨#[]⟩, .bool false, .slice none 0 0, .slice none 0 0] 32
 rw [World.size_alloc] at hq
 have hb := ((Below.refl w.heap.size w).alloc (Nat.le_refl _) (.cells #[.int .i64 a, .int .i64 b, .int .i64 d, .int .i64 m, .slice am ms.length cm, .int .i64 nx, .slice ag gs.length cg, .string T, .bool tO, .string H, .bool hO, .slice at_ ts.length ct, .slice ab bs.length cb] 32)).alloc (by simp) (.cells #[.int .i64 0, .int .i64 0, .int .i64 0, .int .i64 0, .slice none 0 0, .int .i64 0, .slice none 0 0, .string ⟨#[]⟩, .bool false, .string ⟨#[]⟩, .bool false, .slice none 0 0, .slice none 0 0] 32)
 have HR := Lib.hid ((h.mono hB).below hb)
 have HB := Lib.hid hb
 have HQ := Lib.hid hq
 have HK := Lib.hid hk
 have HSM := Lib.hid hs
 obtain ⟨c0, c1, c2, c3, c4, c5, c6, c7, c8, c9, c10, c11, c12⟩ := cells13 hk
 have HLO := Lib.hid (fun (u : World) (hr : RS u w.heap.size (.slice am ms.length cm) ms) (hu : w.heap.size ≤ u.heap.size) => implLineOk_any a b d m nx _ ms ag at_ ab gs.length cg ts.length ct bs.length cb T H tO hO u w.heap.size hr hu wa (by have := HSM.out.1.1; unfold maxLen; omega) (by have := HSM.out.1.2; unfold maxLen; omega) (by have := HSM.out.2.1.1; unfold maxLen; omega) (fun s hs => by have := HSM.out.2.2.1 s hs; unfold maxLen; omega))
 rw [show lineB ⟨a, b, d, m⟩ ms nx gs.length ⟨T.data.toList, tO⟩ ⟨H.data.toList, hO⟩ ts.length bs.length = okLn a b d m ms nx gs T tO H hO ts bs from rfl] at HLO
 have hlens := hs.2.1
 clear h hk hq hb hs
 go_enter Tryz.func15, Tryz.ntmps15
 go_wp2_with fail
 refine (HLO.out _ HR.out.1 HB.out.size).mono ?_
 rintro e w1 ⟨rfl, hb1⟩
 have hk1 := HK.out.from hb1
 have hq1 := HQ.out.from hb1
 have HR1 := Lib.hid (HR.out.below (hb1.mono HB.out.size))
 have HB1 := Lib.hid (HB.out.trans (hb1.mono HB.out.size))
 obtain ⟨c0, c1, c2, c3, c4, c5, c6, c7, c8, c9, c10, c11, c12⟩ := cells13 hk1
 obtain ⟨z0, z1, z2, z3, z4, z5, z6, z7, z8, z9, z10, z11, z12⟩ := cells13 hq1
 obtain ⟨f0, f1, f2, f3, f4, f5, f6, f7, f8, f9, f10, f11, f12⟩ := free13 hq1
 have HQ1 := Lib.hid hq1
 have HK1 := Lib.hid hk1
 clear hb1 hk1 hq1
 by_cases hc : okLn a b d m ms nx gs T tO H hO ts bs = true
 ·have hok := hc
  have HV := Lib.hid (show doRes (mkLs a b d m ms nx gs T tO H hO ts bs) (okLn a b d m ms nx gs T tO H hO ts bs) r = (mkLs a b d m ms nx gs T tO H hO ts bs).doP r by unfold doRes; rw [if_pos hok])
  obtain ⟨hoks, hnx⟩ := okLn_yes hok ⟨HSM.out.2.2.2.1, HSM.out.2.2.2.2.1, HSM.out.2.2.2.2.2⟩
  have HOK := Lib.hid hoks
  have HLK := Lib.hid (fun (u : World) (hr : RL u w.heap.size (.slice am ms.length cm) ms (.slice ag gs.length cg) gs (.slice at_ ts.length ct) ts (.slice ab bs.length cb) bs) (hu : w.heap.size ≤ u.heap.size) => linkOf_any a b d m nx _ hnx _ ms _ gs _ ts _ bs T H tO hO u w.heap.size hr hu HSM.out.1.1 HSM.out.1.2 ⟨HSM.out.2.1.1, HSM.out.2.1.2.1, HSM.out.2.1.2.2.1, HSM.out.2.1.2.2.2⟩ ⟨HSM.out.2.2.1, HSM.out.2.2.2.1, HSM.out.2.2.2.2.1, HSM.out.2.2.2.2.2⟩)
  have HWR := Lib.hid wr
  rw [hok]
  clear hoks hnx hok hc wr
  go_wp2_with fail
  refine (HLK.out _ HR1.out HB1.out.size).mono ?_
  rintro e w2 ⟨g, um, ub, ug, ut, rfl, hlk, hb2⟩
  have HB2 := Lib.hid (HB1.out.trans (hb2.mono HB1.out.size))
  have HQ2 := Lib.hid (HQ1.out.from hb2)
  have HL2 := Lib.hid (show LK w2 w1.heap.size g (mkLs a b d m ms nx gs T tO H hO ts bs) from ⟨_, _, _, _, hlk⟩)
  clear hlk hb2
  go_wp2_with fail
  refine (do_any _ HOK.out r HWR.out _ w1.heap.size g HL2.out).mono ?_
  rintro e w3 ⟨⟨qb, rfl, _, _⟩, hk3, hb3⟩
  have HB3 := Lib.hid (HB2.out.trans (hb3.mono HB1.out.size))
  have HQ3 := Lib.hid (HQ2.out.below hb3 (by have := HQ1.out.lt; omega))
  have HK3 := Lib.hid hk3
  clear hk3 hb3
  generalize (mkLs a b d m ms nx gs T tO H hO ts bs).doP r = q at *
  obtain ⟨xm, xb, xg, xt, hl4⟩ := HK3.out
  obtain ⟨axm, cxm, rfl⟩ := hl4.om.reads.shape
  obtain ⟨axb, cxb, rfl⟩ := hl4.ob.reads.shape
  obtain ⟨axg, cxg, rfl⟩ := hl4.og.reads.shape
  obtain ⟨axt, cxt, rfl⟩ := hl4.ot.reads.shape
  have HL4 := Lib.hid hl4
  clear hl4
  go_wp2_with fail
  refine (shown_any q _ _ _ _ _ w1.heap.size g HL4.out).mono ?_
  rintro e w4 ⟨rfl, hb4⟩
  have HL5 := Lib.hid (HL4.out.below hb4)
  have hq5 := HQ3.out.from hb4
  have HB6 := Lib.hid (HB3.out.trans (hb4.mono HB3.out.size))
  obtain ⟨z0, z1, z2, z3, z4, z5, z6, z7, z8, z9, z10, z11, z12⟩ := cells13 hq5
  obtain ⟨f0, f1, f2, f3, f4, f5, f6, f7, f8, f9, f10, f11, f12⟩ := free13 hq5
  have HQ5 := Lib.hid hq5
  have hbs := HQ1.out.lt
  clear hb4 hq5
  go_wp2
  rw [HV.out]
  have hq := set13_bk (v0 := .int .i64 q.c.codec) (v1 := .int .i64 q.c.sum) (v2 := .int .i64 q.c.most) (v3 := .int .i64 q.c.map) (v4 := .slice axm q.ms.length cxm) (v5 := .int .i64 (q.nx : Int)) (v6 := .slice axg q.gs.length cxg) (v7 := .string (bzL q.f.held)) (v8 := .bool q.f.over) (v9 := .string (bzL q.h.held)) (v10 := .bool q.h.over) (v11 := .slice axt q.ts.length cxt) (v12 := .slice axb q.bs.length cxb) HQ5.out rfl
  refine line_ret2 Tryz.results15 hq rfl rfl rfl ⟨_, _, _, _, _, rfl, ⟨⟨?_, ?_, ?_, ?_⟩, HL5.out.ap⟩, ?_⟩
  ·exact (set13_os HL5.out.om (by omega)).mono (by have := HB1.out.size; omega)
  ·exact (set13_os HL5.out.og (by omega)).mono (by have := HB1.out.size; omega)
  ·exact (set13_os HL5.out.ot (by omega)).mono (by have := HB1.out.size; omega)
  ·exact (set13_os HL5.out.ob (by omega)).mono (by have := HB1.out.size; omega)
  ·exact set13_below HB6.out (by omega)
 ·have HV := Lib.hid (show doRes (mkLs a b d m ms nx gs T tO H hO ts bs) (okLn a b d m ms nx gs T tO H hO ts bs) r = zeroLs by unfold doRes; rw [if_neg hc])
  have hq := set13_bk (v0 := .int .i64 0) (v1 := .int .i64 0) (v2 := .int .i64 0) (v3 := .int .i64 0) (v4 := .slice none 0 0) (v5 := .int .i64 0) (v6 := .slice none 0 0) (v7 := .string ⟨#[]⟩) (v8 := .bool false) (v9 := .string ⟨#[]⟩) (v10 := .bool false) (v11 := .slice none 0 0) (v12 := .slice none 0 0) HQ1.out rfl
  have HQ := Lib.hid hq
  have HBZ := Lib.hid (show Below w.heap.size w _ from set13_below (g := w.heap.size + 1) (v0 := .int .i64 0) (v1 := .int .i64 0) (v2 := .int .i64 0) (v3 := .int .i64 0) (v4 := .slice none 0 0) (v5 := .int .i64 0) (v6 := .slice none 0 0) (v7 := .string ⟨#[]⟩) (v8 := .bool false) (v9 := .string ⟨#[]⟩) (v10 := .bool false) (v11 := .slice none 0 0) (v12 := .slice none 0 0) HB1.out (by omega))
  clear hq
  have h1 := eq_false_of_ne_true hc
  rw [h1]
  clear hc h1
  go_wp2
  rw [HV.out] at *
  exact line_ret2 Tryz.results15 HQ.out rfl rfl rfl ⟨_, _, _, _, _, rfl, ⟨⟨OS_nil _ _, OS_nil _ _, OS_nil _ _, OS_nil _ _⟩, ⟨apart_nil _, apart_nil _, apart_nil _⟩, ⟨apart_nil _, apart_nil _, apart_nil _⟩, ⟨apart_nil _, apart_nil _, apart_nil _⟩, ⟨apart_nil _, apart_nil _, apart_nil _⟩⟩, HBZ.out⟩
end Go.Proofs.YtmggoiabcboaiaaGreat
