/- The cursor over numbers. -/
import Derived.Test.YthbijeicdjpbeaaVarB
import Derived.Test.YthbijeicdjpbeaaSlpC
import Derived.Laws.AppendOwn
import Derived.Maps.AppendAt
namespace Go.Proofs.Ythbijeicdjpbeaa
open Go.ChangeShapes Go.WideShapes Go.ChangeAt Go.RowKit
def natV (n : Nat) : Value := .int .i64 (n : Int)
/-- a slice of numbers of the call's own -/
def OI (w : World) (base : Nat) (v : Value) (l : List Nat) : Prop := w.ownsRow base 3 1 v l.length (l.map natV)
section
variable {w w' : World} {base g : Nat} {v : Value} {l : List Nat}
theorem OI.nil (w : World) (base : Nat) : OI w base (.slice none 0 0) [] := World.ownsRow_nil _ _ _ _
theorem OI.shape (h : OI w base v l) : ∃ a cap, v = .slice a l.length cap ∧ l.length ≤ cap := by
  rcases h.2 with ⟨rfl, h0⟩ | ⟨g, cap, cur, rfl, _, _, h1, _⟩
  · rw [List.eq_nil_of_length_eq_zero h0]; exact ⟨none, 0, rfl, Nat.le_refl _⟩
  · exact ⟨_, cap, rfl, h1⟩
theorem OI.lt (h : OI w base v l) : ∀ k, v.ownBlock = some k → base ≤ k ∧ k < w.heap.size := World.ownsRow.lt h
theorem OI.keptg (h : OI w base v l) (hg : w.grownBy w' (some g)) (hb : g < base) : OI w' base v l := by
  refine World.ownsRow.kept h hg ?_
  cases hv : v.ownBlock with
  | none => exact .inl rfl
  | some k => right; intro e; have := (h.lt k hv).1; injection e with e; omega
theorem OI.alloc (h : OI w base v l) (o : Obj) : (w.alloc o).ownsRow base 3 1 v l.length (l.map natV) := World.ownsRow.kept h (World.grownBy_alloc w o none) (by cases v.ownBlock <;> simp)
theorem oi_snoc {x : Nat} (h : w.ownsRow base 3 1 v (l.length + 1) (l.map natV ++ [natV x])) : OI w base v (l ++ [x]) := by
  unfold OI
  rw [List.length_append, List.map_append]
  exact h
end
theorem one_cell2 (w : World) (e : TypeId) (v : Value) : ∀ j u, [v][j]? = some u → (w.alloc (.cells #[v] e)).cell? ((⟨w.heap.size, 0, none⟩ : Addr).add j) = some u := by
  intro j u hu
  match j, hu with
  | 0, hu => simp at hu; subst hu; simp [Addr.add]
theorem info_int : (Try.prog.info? 3).map (fun i => (i.zero, i.size, i.bytes)) = some (some (.int .i64 0), 1, 8) := by kernel_rfl
def vgRead (t : List UInt8) : Nat × Nat :=
  match t with
  | [] => (0, 0)
  | b :: _ => if 128 ≤ b.toNat then (b.toNat - 128, 1) else (0, 0)
theorem vgRead_lt (t : List UInt8) : (vgRead t).2 ≤ t.length ∧ (vgRead t).2 ≤ 1 := by
  unfold vgRead
  split
  · simp
  · split <;> simp
theorem vgRun : ∀ (n : Nat) (t : List UInt8), curRun vgRead n t = ((t.take (kV n t)).map (fun b => b.toNat - 128), t.drop (kV n t))
  | 0, t => by simp [curRun, kV]
  | n + 1, [] => by rw [curRun_stop vgRead _ [] rfl]; simp [kV]
  | n + 1, b :: r => by
    by_cases h : 128 ≤ b.toNat
    · have e : vgRead (b :: r) = (b.toNat - 128, 1) := if_pos h
      rw [curRun_go vgRead n (b :: r) (by rw [e]; simp), e, kV, if_pos h]
      simp only [List.drop_succ_cons, List.drop_zero]
      rw [vgRun n r, Nat.add_comm 1 (kV n r)]
      simp
    · have e : vgRead (b :: r) = (0, 0) := if_neg h
      rw [curRun_stop vgRead _ (b :: r) (by rw [e]), kV, if_neg h]
      simp
set_option maxRecDepth 100000 in
theorem varGroup_any (s : ByteArray) (w : World) :
    Calls Try.prog 32 #[.string s] w fun e w' => e = .returned (.tuple #[.int .i64 (((vgRead s.data.toList).1 : Nat) : Int), .int .i64 ((vgRead s.data.toList).2 : Nat)]) ∧ Below w.heap.size w w' := by
  by_cases h0 : s.size = 0
  · obtain rfl := bz_zero h0
    go_enter Try.func32, Try.ntmps32
    go_wp2
    go_ret2
    exact ⟨rfl, Below.refl _ _⟩
  have hp : 0 < s.size := by omega
  have hne : s.toList.isEmpty = false := by rw [bz_list]; exact decide_eq_false h0
  have hb := UInt8.toNat_lt s[0]
  have HV := Lib.hid (show vgRead s.data.toList = if 128 ≤ s[0].toNat then (s[0].toNat - 128, 1) else (0, 0) by rw [list_one s hp]; rfl)
  by_cases h1 : 128 ≤ s[0].toNat
  · have HW := Lib.hid (HV.out.trans (if_pos h1))
    go_enter Try.func32, Try.ntmps32
    go_wp2
    go_ret2
    refine ⟨?_, Below.refl _ _⟩
    rw [HW.out]
    show _ = Ending.returned (.tuple #[.int .i64 ((s[0].toNat - 128 : Nat) : Int), .int .i64 1])
    rw [show ((s[0].toNat - 128 : Nat) : Int) = (s[0].toNat : Int) - 128 by omega]
    rfl
  · have HW := Lib.hid (HV.out.trans (if_neg h1))
    go_enter Try.func32, Try.ntmps32
    go_wp2
    go_ret2
    exact ⟨by rw [HW.out]; rfl, Below.refl _ _⟩

def cuFI : Value := .func (.func 32) #[] #[]
/-- a cursor at block g, of which t is left -/
abbrev CuI (w : World) (g : Nat) (t : ByteArray) : Prop := BK w g #[.string t, cuFI] 48
def UpI (w : World) (g most : Nat) (t : ByteArray) (e : Ending) (w' : World) : Prop := (∃ v, e = .returned v ∧ OI w' w.heap.size v (curRun vgRead most t.data.toList).1) ∧ CuI w' g ⟨(curRun vgRead most t.data.toList).2.toArray⟩ ∧ w.grownBy w' (some g)
theorem loI (t : List UInt8) : (vgRead t).2 ≤ t.length := (vgRead_lt t).1
set_option maxRecDepth 100000 in
set_option maxHeartbeats 4000000 in
theorem nextI_any (g : Nat) (t : ByteArray) (w : World) (hg : CuI w g t) :
    Calls Try.prog 39 #[.pointer (some ⟨g, 0, none⟩)] w fun e w' => e = .returned (.tuple #[.int .i64 (((vgRead t.data.toList).1 : Nat) : Int), .bool (decide (0 < (vgRead t.data.toList).2))]) ∧ CuI w' g ⟨(t.data.toList.drop (vgRead t.data.toList).2).toArray⟩ ∧ w.grownBy w' (some g) := by
  have HL := Lib.hid (loI t.data.toList)
  have HSL := Lib.hid (size_list t)
  have HG := Lib.hid hg
  clear hg
  go_enter Try.func39, Try.ntmps39
  go_wp2
  have hS : w.cell? ⟨g, 0, none⟩ = some (.string t) ∧ w.cell? ⟨g, 1, none⟩ = some (.func (.func 32) #[] #[]) := ⟨HG.out.cell rfl, HG.out.cell rfl⟩
  refine wp_region_held_drew (S := (fun wx => wx.cell? ⟨g, 0, none⟩ = some (.string t) ∧ wx.cell? ⟨g, 1, none⟩ = some (.func (.func 32) #[] #[]))) (by kernel_rfl) hS (fun hHeld => ?_)
  refine wpAnyH_take (i := 0) (v := ?_) rfl (by kernel_rfl) (by kernel_rfl) (by kernel_rfl) (fun _ _ _ h => h) (Or.inl ⟨by rfl, ?_⟩) (by assumption) ?_
  rotate_left
  · intro wq hSw
    (try dsimp only at hSw)
    (try simp only [List.getElem_toArray, List.getElem_cons_zero])
    go_simp
    (try with_reducible rfl)
  simp only [Act.put, List.getElem_toArray, List.getElem_cons_zero, List.setIfInBounds_toArray, List.set_cons_zero, List.set_cons_succ]
  refine wpAnyH_take (i := 1) (v := ?_) rfl (by kernel_rfl) (by kernel_rfl) (by kernel_rfl) (fun _ _ _ h => h) (Or.inl ⟨by rfl, ?_⟩) (by assumption) ?_
  rotate_left
  · intro wq hSw
    (try dsimp only at hSw)
    (try simp only [List.getElem_toArray, List.getElem_cons_succ, List.getElem_cons_zero])
    go_simp
    (try with_reducible rfl)
  simp only [Act.put, List.getElem_toArray, List.getElem_cons_succ, List.getElem_cons_zero, List.setIfInBounds_toArray, List.set_cons_zero, List.set_cons_succ]
  refine wpAnyH_take (i := 2) (v := ?_) rfl (by kernel_rfl) (by kernel_rfl) (by kernel_rfl) (fun _ _ _ h => h) (Or.inl ⟨by rfl, ?_⟩) (by assumption) ?_
  rotate_left
  · intro wq hSw
    (try dsimp only at hSw)
    (try simp only [List.getElem_toArray, List.getElem_cons_succ, List.getElem_cons_zero])
    go_simp
    (try with_reducible rfl)
  simp only [Act.put, List.getElem_toArray, List.getElem_cons_succ, List.getElem_cons_zero, List.setIfInBounds_toArray, List.set_cons_zero, List.set_cons_succ]
  refine wpAnyH_take (i := 3) (v := ?_) rfl (by kernel_rfl) (by kernel_rfl) (by kernel_rfl) (fun _ _ _ h => h) (Or.inl ⟨by rfl, ?_⟩) (by assumption) ?_
  rotate_left
  · intro wq hSw
    (try dsimp only at hSw)
    (try simp only [List.getElem_toArray, List.getElem_cons_succ, List.getElem_cons_zero])
    go_simp
    (try with_reducible rfl)
  simp only [Act.put, List.getElem_toArray, List.getElem_cons_succ, List.getElem_cons_zero, List.setIfInBounds_toArray, List.set_cons_zero, List.set_cons_succ]
  refine wpAnyH_take (i := 4) (v := ?_) rfl (by kernel_rfl) (by kernel_rfl) (by kernel_rfl) (fun _ _ _ h => h) (Or.inl ⟨by rfl, ?_⟩) (by assumption) ?_
  rotate_left
  · intro wq hSw
    (try dsimp only at hSw)
    (try simp only [List.getElem_toArray, List.getElem_cons_succ, List.getElem_cons_zero])
    go_simp
    (try with_reducible rfl)
  simp only [Act.put, List.getElem_toArray, List.getElem_cons_succ, List.getElem_cons_zero, List.setIfInBounds_toArray, List.set_cons_zero, List.set_cons_succ]
  refine wpAnyH_take (i := 5) (v := ?_) rfl (by kernel_rfl) (by kernel_rfl) (by kernel_rfl) (fun _ _ _ h => h) (Or.inl ⟨by rfl, ?_⟩) (by assumption) ?_
  rotate_left
  · intro wq hSw
    (try dsimp only at hSw)
    (try simp only [List.getElem_toArray, List.getElem_cons_succ, List.getElem_cons_zero])
    go_simp
    (try with_reducible rfl)
  simp only [Act.put, List.getElem_toArray, List.getElem_cons_succ, List.getElem_cons_zero, List.setIfInBounds_toArray, List.set_cons_zero, List.set_cons_succ]
  refine wpAnyH_take (i := 6) (v := ?_) rfl (by kernel_rfl) (by kernel_rfl) (by kernel_rfl) (fun _ _ _ h => h) (Or.inl ⟨by rfl, ?_⟩) (by assumption) ?_
  rotate_left
  · intro wq hSw
    (try dsimp only at hSw)
    (try simp only [List.getElem_toArray, List.getElem_cons_succ, List.getElem_cons_zero])
    go_simp
    (try with_reducible rfl)
  simp only [Act.put, List.getElem_toArray, List.getElem_cons_succ, List.getElem_cons_zero, List.setIfInBounds_toArray, List.set_cons_zero, List.set_cons_succ]
  refine wpAnyH_take (i := 7) (v := ?_) rfl (by kernel_rfl) (by kernel_rfl) (by kernel_rfl) (fun _ _ _ h => h) (Or.inl ⟨by rfl, ?_⟩) (by assumption) ?_
  rotate_left
  · intro wq hSw
    (try dsimp only at hSw)
    (try simp only [List.getElem_toArray, List.getElem_cons_succ, List.getElem_cons_zero])
    go_simp
    (try with_reducible rfl)
  simp only [Act.put, List.getElem_toArray, List.getElem_cons_succ, List.getElem_cons_zero, List.setIfInBounds_toArray, List.set_cons_zero, List.set_cons_succ]
  refine wpAnyH_ready (rs := [8]) (by kernel_rfl) (by simp) ?_
  refine AllReadyH.cons rfl (fun K hK => ?_) AllReadyH.nil
  (try simp only [List.getElem_toArray, List.getElem_cons_succ, List.getElem_cons_zero])
  go_simp
  go_at_call 32
  refine (varGroup_any t _).mono ?_
  rintro e w1 ⟨rfl, hb⟩
  have HG1 := Lib.hid (HG.out.drew.from hb)
  have HB1 := Lib.hid (below_grown hb (some g))
  have hS := And.intro (HG1.out.cell (i := 0) rfl) (HG1.out.cell (i := 1) rfl)
  refine hK.out _ _ hS (fun hHeld => ?_)
  clear hK K
  refine wpAnyH_take (i := 9) (v := ?_) rfl (by kernel_rfl) (by kernel_rfl) (by kernel_rfl) (fun _ _ _ h => h) (Or.inl ⟨by rfl, ?_⟩) (by assumption) ?_
  rotate_left
  · intro wq hSw
    (try dsimp only at hSw)
    (try simp only [List.getElem_toArray, List.getElem_cons_succ, List.getElem_cons_zero])
    go_simp
    (try with_reducible rfl)
  simp only [Act.put, List.getElem_toArray, List.getElem_cons_succ, List.getElem_cons_zero, List.setIfInBounds_toArray, List.set_cons_zero, List.set_cons_succ]
  refine wpAnyH_take (i := 10) (v := ?_) rfl (by kernel_rfl) (by kernel_rfl) (by kernel_rfl) (fun _ _ _ h => h) (Or.inl ⟨by rfl, ?_⟩) (by assumption) ?_
  rotate_left
  · intro wq hSw
    (try dsimp only at hSw)
    (try simp only [List.getElem_toArray, List.getElem_cons_succ, List.getElem_cons_zero])
    go_simp
    (try with_reducible rfl)
  simp only [Act.put, List.getElem_toArray, List.getElem_cons_succ, List.getElem_cons_zero, List.setIfInBounds_toArray, List.set_cons_zero, List.set_cons_succ]
  refine wpAnyH_take (i := 11) (v := ?_) rfl (by kernel_rfl) (by kernel_rfl) (by kernel_rfl) (fun _ _ _ h => h) (Or.inl ⟨by rfl, ?_⟩) (by assumption) ?_
  rotate_left
  · intro wq hSw
    (try dsimp only at hSw)
    (try simp only [List.getElem_toArray, List.getElem_cons_succ, List.getElem_cons_zero])
    go_simp
    (try with_reducible rfl)
  simp only [Act.put, List.getElem_toArray, List.getElem_cons_succ, List.getElem_cons_zero, List.setIfInBounds_toArray, List.set_cons_zero, List.set_cons_succ]
  refine wpAnyH_take (i := 12) (v := ?_) rfl (by kernel_rfl) (by kernel_rfl) (by kernel_rfl) (fun _ _ _ h => h) (Or.inl ⟨by rfl, ?_⟩) (by assumption) ?_
  rotate_left
  · intro wq hSw
    (try dsimp only at hSw)
    (try simp only [List.getElem_toArray, List.getElem_cons_succ, List.getElem_cons_zero])
    go_simp
    (try with_reducible rfl)
  simp only [Act.put, List.getElem_toArray, List.getElem_cons_succ, List.getElem_cons_zero, List.setIfInBounds_toArray, List.set_cons_zero, List.set_cons_succ]
  refine wpAnyH_take (i := 13) (v := ?_) rfl (by kernel_rfl) (by kernel_rfl) (by kernel_rfl) (fun _ _ _ h => h) (Or.inl ⟨by rfl, ?_⟩) (by assumption) ?_
  rotate_left
  · intro wq hSw
    (try dsimp only at hSw)
    (try simp only [List.getElem_toArray, List.getElem_cons_succ, List.getElem_cons_zero])
    go_simp
    (try with_reducible rfl)
  simp only [Act.put, List.getElem_toArray, List.getElem_cons_succ, List.getElem_cons_zero, List.setIfInBounds_toArray, List.set_cons_zero, List.set_cons_succ]
  refine wpAnyH_done (by kernel_rfl) ?_ _
  clear hHeld
  obtain ⟨c0, c1⟩ := hS
  have f0 := HG1.out.free 0
  obtain ⟨n, hn⟩ : ∃ n, n = (vgRead t.data.toList).2 := ⟨_, rfl⟩
  rw [← hn] at HL ⊢
  have hnl : n ≤ t.size := by have := HL.out; rw [HSL.out] at this; exact this
  have HN := Lib.hid hn
  clear hn
  go_wp2
  go_ret2
  refine ⟨by rw [HN.out]; rfl, ?_, gr_set (grown_trans (grown_drew (grown_self w _)) HB1.out) 0 _⟩
  rw [← HN.out, ← ext_fr t n]
  exact HG1.out.set 0 _
set_option maxRecDepth 100000 in
set_option maxHeartbeats 4000000 in
theorem upToI_any (g : Nat) (t : ByteArray) (most : Nat) (w : World) (hg : CuI w g t) (hm : most ≤ 100000) :
    Calls Try.prog 33 #[.pointer (some ⟨g, 0, none⟩), .int .i64 (most : Nat)] w (UpI w g most t) := by
  obtain ⟨i0, hi, hz0, hz1, hz2⟩ := info_parts info_int
  have HI := Lib.hid hi
  have HZ0 := Lib.hid hz0
  have HZ1 := Lib.hid hz1
  have HZ2 := Lib.hid hz2
  clear hi hz0 hz1 hz2
  have HG := Lib.hid hg
  have HSL := Lib.hid (size_list t)
  have hgl := hg.lt
  clear hg
  go_enter Try.func33, Try.ntmps33
  go_wp2
  go_loopw [5] (fun v wr => ∃ (ys : List Nat) (r : ByteArray), CurAt vgRead most t.data.toList ys r.data.toList ∧ r.size ≤ t.size ∧ OI wr w.heap.size v ys ∧ CuI wr g r ∧ w.grownBy wr (some g)) (fun v _ => most - sliceLen v)
  case atStart => exact ⟨[], t, CurAt.start _ _ _, Nat.le_refl _, OI.nil _ _, HG.out, grown_self w _⟩
  case round =>
    obtain ⟨ys, r, hcur, hr, hown, hcu, hgr⟩ := hrel
    have HC := Lib.hid hcur
    have HO := Lib.hid hown
    have HCU := Lib.hid hcu
    have HGR := Lib.hid hgr
    obtain ⟨va, vc, rfl, hvc⟩ := hown.shape
    have hyl : ys.length ≤ most := hcur.1
    clear hown hcu hgr hcur
    by_cases hlt : ys.length < most
    · have hlti : ((ys.length : Nat) : Int) < ((most : Nat) : Int) := by omega
      go_wp2_with fail
      refine (nextI_any g r _ HCU.out).mono ?_
      rintro e w2 ⟨rfl, hcu2, hgr2⟩
      have HCU2 := Lib.hid hcu2
      have HO2 := Lib.hid (HO.out.keptg hgr2 hgl)
      have HGR2 := Lib.hid (grown_trans HGR.out hgr2)
      clear hcu2 hgr2
      by_cases h0 : (vgRead r.data.toList).2 = 0
      · rw [h0] at HCU2 ⊢
        have HD := Lib.hid (HC.out.done h0)
        go_wp2
        go_ret
        refine ⟨⟨_, rfl, ?_⟩, ?_, HGR2.out⟩
        · rw [HD.out]; exact HO2.out
        · rw [HD.out]; exact HCU2.out
      · have hpos : decide (0 < (vgRead r.data.toList).2) = true := decide_eq_true (by omega)
        rw [hpos]
        have HST := Lib.hid (HC.out.step hlt h0)
        have HRL := Lib.hid (size_list r)
        clear hpos h0
        generalize (vgRead r.data.toList).1 = x at *
        generalize (vgRead r.data.toList).2 = n at *
        go_wp2_with (at_builtin; refine wpList_append_own _ rfl _ _ 46 rfl w.heap.size 3 i0 (.int .i64 0) 1 8 Try.underlying46 HI.out HZ0.out HZ1.out HZ2.out rfl (by decide) _ ys.length _ rfl (HO2.out.alloc _) ⟨w2.heap.size, 0, none⟩ 1 1 [natV x] rfl rfl (one_cell2 w2 _ _) (by simp [natV, Value.oneCell']) (by unfold maxLen; omega) (by omega) (by have := HGR2.out.size; simp; omega) ?_; intro v3 w3 hown3x hg3 _; have hown3 : OI w3 w.heap.size v3 (ys ++ [x]) := oi_snoc hown3x)
        go_roundw
        case rel =>
          have hrow : ∀ j, (Value.slice va ys.length vc).ownBlock = some j → w.heap.size ≤ j := fun j hj => (HO2.out.lt j hj).1
          have hsz := HGR2.out.size
          refine ⟨ys ++ [x], ⟨(r.data.toList.drop n).toArray⟩, HST.out, ?_, hown3, ?_, ?_⟩
          · rw [← size_list, List.length_drop, HRL.out]; omega
          · exact (HCU2.out.alloc _).grown hg3 (fun e => by have := hrow g e; omega)
          · exact grown_own (grown_alloc HGR2.out _) hg3 hrow
        case measure =>
          obtain ⟨a3, c3, e3, _⟩ := hown3.shape
          simp [sliceLen, e3]; omega
    · have HF := Lib.hid (HC.out.full (by omega))
      go_wp2
      go_ret
      refine ⟨⟨_, rfl, ?_⟩, ?_, HGR.out⟩
      · rw [HF.out]; exact HO.out
      · rw [HF.out, Lib.mk_data]; exact HCU.out
end Go.Proofs.Ythbijeicdjpbeaa
