/- The iterator over the bits of bytes: its contract. -/
import Derived.RangeFuncNested
import Derived.RangeFuncBound
import Derived.RangeFuncCalls
import Derived.RangeFuncLeaves
import Derived.Shelf.Abstract
import Derived.Shelf.RegionOpen
import Derived.OwnWalkIn
import Derived.TacticsInMore
import Derived.LoopNIn
import Derived.LoopIn
import Derived.Test.YtcegpcggdcgjbaaGreatDoorKitA
import Derived.Test.YtcegpcggdcgjbaaGreatDoorKitBits
import Derived.RegionTactic
import Derived.RangeFuncBox
import Derived.RangeFuncWrites
namespace Go.Proofs.YtcegpcggdcgjbaaGreatDoor
open Go.ChangeShapes Go.WideShapes Go.ChangeAt Go.RowKit Go.Shelf
attribute [local go_sem] Oper.semAt_some
/-- bit i of bytes, the lowest of each byte first -/
def bitAt (l : List UInt8) (i : Nat) : UInt8 := UInt8.ofNat (48 + (l[i / 8]?.getD 0).toNat / 2 ^ (i % 8) % 2)
def uptoL (l : List UInt8) (k : Nat) : List UInt8 := (List.range k).map (bitAt l)
def ofL (l : List UInt8) : List UInt8 := uptoL l (8 * l.length)
theorem uptoL_succ (l : List UInt8) (k : Nat) : uptoL l (k + 1) = uptoL l k ++ [bitAt l k] := by simp [uptoL, List.range_succ]
theorem uptoL_len (l : List UInt8) (k : Nat) : (uptoL l k).length = k := by simp [uptoL]
theorem and_one (a : Nat) (h : a < 256) : bits .and .u8 (a : Int) 1 = ((a % 2 : Nat) : Int) := by
  have h1 : (BitVec.ofInt 8 (a : Int)).toNat = a := by
    rw [BitVec.ofInt_natCast, BitVec.toNat_ofNat]; exact Nat.mod_eq_of_lt (by omega)
  have h2 : (BitVec.ofInt 8 1).toNat = 1 := rfl
  show IntKind.u8.wrap ((BitVec.ofInt 8 (a : Int) &&& BitVec.ofInt 8 1).toNat : Int) = _
  rw [BitVec.toNat_and, h1, h2, Nat.and_one_is_mod, IntKind.wrap_u8]
  omega
theorem bitAt_of {s : ByteArray} {k q r : Nat} (hq : k / 8 = q) (hr : k % 8 = r) (hqs : q < s.size) : bitAt s.data.toList k = UInt8.ofNat (48 + s[q].toNat / 2 ^ r % 2) := by
  have e : s.data.toList[q]? = some s[q] := by rw [List.getElem?_eq_getElem (by simpa using hqs)]; rfl
  rw [bitAt, hq, hr, e]; rfl
def KpBox (bx : Nat) (s : ByteArray) (W W' : World) : Prop := W.cell? ⟨bx, 0, none⟩ = some (.string s) → W'.cell? ⟨bx, 0, none⟩ = some (.string s)
set_option maxRecDepth 100000 in
set_option maxHeartbeats 2000000 in
theorem bitsIn_stops (n : Nat) (hn : 1 ≤ n) (bx : Nat) (s : ByteArray) (hs : s.size ≤ 150) (w : World) (hbx : w.cell? ⟨bx, 0, none⟩ = some (.string s)) (hbl : bx < w.heap.size) :
    SeqStopsK Fence.wide n Tryz.prog 149 #[.pointer (some ⟨bx, 0, none⟩)] (fun c : UInt8 => #[.int .u8 c.toNat]) (KpBox bx s) (fun xs => xs = ofL s.data.toList) (fun _ => True) (8 * s.size) w := fun l J Jx W hW hJ hJx hY h0 => by
  have hcW : W.cell? ⟨bx, 0, none⟩ = some (.string s) := (hW.cell (p := ⟨bx, 0, none⟩) hbl).trans hbx
  have HSL := Lib.hid (size_list s)
  clear hbx
  refine callsIn_of_wp Tryz.func149 rfl trivial ?_ rfl
  simp only [Tryz.ntmps149, List.size_toArray, List.length_cons, List.length_nil, Nat.reduceAdd, Nat.reduceSub, Array.replicate_succ, Array.replicate_zero, List.push_toArray, List.append_toArray, List.nil_append, List.cons_append]
  gi_wp2
  gi_loopw [3, 7] (fun _ i wr => ∃ k : Nat, k ≤ 8 * s.size ∧ i = .int .i64 k ∧ J (uptoL s.data.toList k) wr ∧ wr.cell? ⟨bx, 0, none⟩ = some (.string s)) (fun _ i _ => 8 * s.size - (intOf i).toNat)
  case atStart => exact ⟨0, by omega, rfl, h0, hcW⟩
  case round =>
    obtain ⟨k, hk, rfl, hJk, hck⟩ := hrel
    by_cases hlt : k < 8 * s.size
    · obtain ⟨q, hq⟩ : ∃ q, k / 8 = q := ⟨_, rfl⟩
      obtain ⟨r, hr⟩ : ∃ r, k % 8 = r := ⟨_, rfl⟩
      have hqs : q < s.size := by omega
      have hr8 : r < 8 := by omega
      have hqi : (k : Int) / 8 = (q : Int) := by omega
      have hqi2 : (k : Int).tdiv 8 = (q : Int) := by rw [Int.tdiv_eq_ediv_of_nonneg (by omega)]; exact hqi
      have hri : (k : Int) % 8 = (r : Int) := by omega
      have hri2 : (k : Int).tmod 8 = (r : Int) := by rw [Int.tmod_eq_emod_of_nonneg (by omega)]; exact hri
      have hba := bitAt_of hq hr hqs
      have hlt2 : (k : Int) < 8 * (s.size : Int) := by omega
      have hub := UInt8.toNat_lt s[q]
      have hdl : s[q].toNat / 2 ^ r < 256 := Nat.lt_of_le_of_lt (Nat.div_le_self _ _) hub
      have hbit : bits .and .u8 ((s[q].toNat : Int) / 2 ^ r) 1 = ((s[q].toNat / 2 ^ r % 2 : Nat) : Int) := by
        rw [← and_one _ hdl]; simp
      clear hq hr
      rcases Nat.mod_two_eq_zero_or_one (s[q].toNat / 2 ^ r) with h01 | h01
      all_goals
        rw [h01] at hba hbit
        obtain ⟨fn, tmps, assign, body, hy, hR⟩ := hY (uptoL s.data.toList k) (bitAt s.data.toList k) wr hJk (by rw [uptoL_len]; omega)
        rw [hba] at hy
        simp only [← uptoL_succ] at hR
        have HR := Lib.hid hR
        simp only [show ((UInt8.ofNat (48 + 0)).toNat : Int) = 48 from rfl, show ((UInt8.ofNat (48 + 1)).toNat : Int) = 49 from rfl] at hy
        clear hR h01 hba
        gi_wp2
        refine HR.out.mono ?_
        rintro e W3 (⟨rfl, hJ3, hk3⟩ | ⟨rfl, hJx3⟩)
        · gi_wp2
          go_roundw
          case rel => exact ⟨k + 1, by omega, by go_num, hJ3, hk3 hck⟩
          case measure => simp [intOf]; omega
        · gi_wp2
          refine bodyPost_ret (results_none rfl _ _ _) rfl ?_
          exact ⟨⟨_, rfl⟩, .inr ⟨_, trivial, hJx3⟩⟩
    · gi_wp2
      go_end0
      have e : k = 8 * s.data.toList.length := by rw [HSL.out]; omega
      exact ⟨⟨_, rfl⟩, .inl ⟨_, by rw [ofL, ← e], hJk⟩⟩
end Go.Proofs.YtcegpcggdcgjbaaGreatDoor
/- The bits of bytes, in the program. -/
namespace Go.Proofs.YtcegpcggdcgjbaaGreatDoor
open Go.ChangeShapes Go.WideShapes Go.ChangeAt Go.RowKit Go.Shelf
theorem NB.freeze {b : Nat} {a w : World} (h : NB b a w) {g : Nat} (hg : ∃ c fz, w.heap[g]? = some (.cells c 5 fz)) (n : Nat) : NB b a (w.freeze ⟨g, 0, none⟩ n) := by
  refine h.trans ?_
  obtain ⟨c, fz, hg⟩ := hg
  unfold World.freeze
  split
  · exact NB.refl _ _
  · refine ⟨by simp, fun i _ _ hi => ?_⟩
    simp only [Array.getElem?_modify]
    rw [if_neg (fun e => hi c fz (by subst e; exact hg))]
set_option maxRecDepth 100000 in
set_option maxHeartbeats 1000000 in
theorem string_kept (B b : Nat) (l : List UInt8) (w : World) (h : BU w B b l) (hl : l.length ≤ 140737488355328) :
    Calls Tryz.prog 19 #[.pointer (some ⟨b, 0, none⟩)] w fun e w' => e = .returned (.string ⟨l.toArray⟩) ∧ Below B w w' ∧ NB b w w' := by
  obtain ⟨hB, p, v, hb, hp, hrb⟩ := h
  have c1 : w.cell? ⟨b, 1, none⟩ = some v := by rw [cell_of_row w b 1 _ _ _ hb]; rfl
  cases l with
  | nil =>
    have hv := hrb.2 rfl
    subst hv
    have h1 : ∀ (ts : Array TypeId) (ty : TypeId) (u : World), (Builtin.unsafeSliceData_ ts ty #[.slice none 0 0]).run Tryz.prog u = .ok (.pointer none) u := fun ts ty u => Lib.run_unsafeSliceData_nil (P := Tryz.prog) u ts ty 0 0
    have h2 : ∀ (ty : TypeId) (u : World), (Builtin.unsafeString_ #[68, 3] ty #[.pointer none, .int .i64 0]).run Tryz.prog u = .ok (.string .empty) u := fun ty u => Lib.run_unsafeString_none (P := Tryz.prog) u _ _ ty none
    clear hb hrb hp
    go_enter Tryz.func19, Tryz.ntmps19
    go_wp2
    go_region
    all_goals go_wp2
    all_goals go_ret
    all_goals exact ⟨rfl, (Below.refl _ _).drew, (NB.refl _ _).drew⟩
  | cons x l =>
    obtain ⟨g, cap, rfl, hcap, hcapm, hbg, hgl⟩ := hrb.ob.pos (by simp)
    have hcap0 : cap ≠ 0 := by simp at hcap; omega
    obtain ⟨cur, hcur, hcs⟩ : ∃ cur, w.heap[g]? = some (.cells cur 5 (0, 0)) ∧ (x :: l).length ≤ cur.size := by
      obtain ⟨⟨_, h2⟩, _⟩ := hrb
      rcases h2 with ⟨h, _⟩ | ⟨g', cap', cur, h, _, hgg, hnc, _, hcs, _⟩
      · simp at h
      · have : g = g' := by injection h with h; injection h with h; injection h
        subst this
        exact ⟨cur, hgg, by omega⟩
    have h1 : ∀ (ts : Array TypeId) (ty : TypeId) (u : World), (Builtin.unsafeSliceData_ ts ty #[.slice (some ⟨g, 0, none⟩) (x :: l).length cap]).run Tryz.prog u = .ok (.pointer (some ⟨g, 0, none⟩)) u := fun ts ty u => Lib.run_unsafeSliceData_row (P := Tryz.prog) u ts ty ⟨g, 0, none⟩ _ cap hcap0
    have h2 : ∀ (ty : TypeId), (Builtin.unsafeString_ #[68, 3] ty #[.pointer (some ⟨g, 0, none⟩), .int .i64 ((x :: l).length : Int)]).run Tryz.prog w.drew = .ok (.string ⟨(x :: l).toArray⟩) (w.drew.freeze ⟨g, 0, none⟩ (x :: l).length) := fun ty =>
      Lib.run_unsafeString_row (P := Tryz.prog) w.drew 68 3 ty 5 Tryz.underlying68 cellsOf_u8 g cur.size (by simp [World.shape?, World.drew, -World.drew_eq, hcur]) (x :: l) (by simp) hcs (by omega)
        (fun j y hy => by
          have hc := hrb.ob.cells (g := g) rfl j (byteV y) (by rw [List.getElem?_map, hy]; rfl)
          exact hc)
    obtain ⟨L, hL⟩ : ∃ L, (x :: l) = L := ⟨_, rfl⟩
    rw [hL] at h1 h2 c1 hl ⊢
    obtain ⟨n, hn⟩ : ∃ n, L.length = n := ⟨_, rfl⟩
    rw [hn] at h1 h2 c1
    have HCur := Lib.hid (show ∃ c fz, w.drew.heap[g]? = some (.cells c 5 fz) from ⟨_, _, hcur⟩)
    clear hb hrb hp hcur hcs hL hn
    go_enter Tryz.func19, Tryz.ntmps19
    go_wp2
    go_region
    all_goals go_wp2
    all_goals go_ret
    all_goals exact ⟨rfl, Lib.below_freeze ((Below.refl _ _).drew) (by simpa using hbg) _, ((NB.refl _ _).drew).freeze HCur.out _⟩

theorem NB.others {b : Nat} {w w' : World} {cs : Array Value} {t : TypeId} {fz : Nat × Nat} (h : NB b w w') (hb : w.heap[b]? = some (.cells cs t fz)) : KeepsOthers w w' :=
  ⟨h.1, fun k o hk ho => by
    rw [h.2 k (Array.getElem?_eq_some_iff.1 hk).1 (fun e => by subst e; rw [hb] at hk; cases hk; simp [Obj.isCells] at ho) (fun cs fz he => by rw [hk] at he; cases he; simp [Obj.isCells] at ho)]
    exact hk⟩
theorem BU.others {w w' : World} {B b : Nat} {l : List UInt8} (h : BU w B b l) (hn : NB b w w') : KeepsOthers w w' := by
  obtain ⟨_, p, v, hb, _⟩ := h
  exact hn.others hb
theorem BU.turned {w w' : World} {B b : Nat} {l : List UInt8} {row : Option Nat} (h : BU w B b l) (hg : w.grownBy w' row) (hr : ∀ r, row = some r → ∃ o : Obj, w.heap[r]? = some o ∧ o.isCells = false) : BU w' B b l := by
  obtain ⟨hB, p, v, hb, hp, hrb⟩ := h
  have ne : ∀ k cs t fz, w.heap[k]? = some (.cells cs t fz) → some k ≠ row := fun k cs t fz hk e => by
    obtain ⟨o, ho, hc⟩ := hr k e.symm
    rw [hk] at ho; cases ho; simp [Obj.isCells] at hc
  refine ⟨hB, p, v, ?_, hp, hrb.1.kept hg ?_, hrb.2⟩
  · rw [hg.block b (Array.getElem?_eq_some_iff.1 hb).1 (ne b _ _ _ hb)]; exact hb
  · rcases hrb.1.2 with ⟨rfl, _⟩ | ⟨g, cap, cur, rfl, _, hgb, _⟩
    · exact .inl rfl
    · exact .inr (ne g _ _ _ hgb)
theorem box_turned {w w' : World} {x : Nat} {v : Value} {row : Option Nat} (h : w.heap[x]? = some (.cells #[v] 9 (0, 0))) (hg : w.grownBy w' row) (hr : ∀ r, row = some r → ∃ o : Obj, w.heap[r]? = some o ∧ o.isCells = false) : w'.heap[x]? = some (.cells #[v] 9 (0, 0)) := by
  rw [hg.block x (Array.getElem?_eq_some_iff.1 h).1 (fun e => by
    obtain ⟨o, ho, hc⟩ := hr x e.symm
    rw [h] at ho; cases ho; simp [Obj.isCells] at hc)]
  exact h
theorem sbox_kept {b x : Nat} {w w' : World} {v : Value} (h : NB b w w') (hx : w.heap[x]? = some (.cells #[v] 9 (0, 0))) (hne : x ≠ b) : w'.heap[x]? = some (.cells #[v] 9 (0, 0)) := by
  rw [h.2 x (Array.getElem?_eq_some_iff.1 hx).1 hne (fun cs fz he => by
    rw [hx] at he
    injection he with he
    injection he with _ ht
    exact absurd ht (by decide))]
  exact hx
theorem bitsIn_any (s : ByteArray) (w : World) :
    Calls Tryz.prog 136 #[.string s] w fun e w' => e = .returned (.func (.func 149) #[] #[.pointer (some ⟨w.heap.size, 0, none⟩)]) ∧ w' = w.alloc (.cells #[.string s] 9) := by
  have hmf : ∀ (fn : Fn) (first cap : Array Value) (w : World), (Instr.makeFunc fn first cap).run Tryz.prog w = .ok (.func fn first cap) w := fun _ _ _ _ => rfl
  go_enter Tryz.func136, Tryz.ntmps136
  go_wp2
  go_ret
  exact ⟨rfl, rfl⟩
end Go.Proofs.YtcegpcggdcgjbaaGreatDoor
/- BitsOf of the program. -/
namespace Go.Proofs.YtcegpcggdcgjbaaGreatDoor
open Go.ChangeShapes Go.WideShapes Go.ChangeAt Go.RowKit Go.Shelf
attribute [local go_sem] Oper.semAt_some
theorem builder_zero (w : World) : (zeroValue 42).run Tryz.prog w = .ok (.agg #[.pointer none, .slice none 0 0]) w := by kernel_rfl
def ofA (l : List UInt8) : List UInt8 := if l.length ≤ 150 then ofL l else []
set_option maxRecDepth 100000 in
set_option maxHeartbeats 4000000 in
theorem implOf_any (s : ByteArray) (w : World) (hs : s.size ≤ 100000000) :
    Calls Tryz.prog 106 #[.string s] w fun e w' => e = .returned (.string ⟨(ofA s.data.toList).toArray⟩) ∧ Below w.heap.size w w' := by
  have HSL := Lib.hid (size_list s)
  have hz := builder_zero
  refine (callsIn_wide (n := 3)).1 ?_
  refine callsIn_of_wp_marks Tryz.func106 rfl trivial ?_ rfl
  simp only [Tryz.ntmps106, List.size_toArray, List.length_cons, List.length_nil, Nat.reduceAdd, Nat.reduceSub, Array.replicate_succ, Array.replicate_zero, List.push_toArray, List.append_toArray, List.nil_append, List.cons_append]
  by_cases hbig : 150 < s.size
  · have HA := Lib.hid (show ofA s.data.toList = [] by unfold ofA; rw [if_neg (by rw [HSL.out]; omega)])
    gi_wp2
    exact ⟨_, results_tmp rfl _ _ _, by rw [HA.out]; rfl, Below.refl _ _⟩
  · have HA := Lib.hid (show ofA s.data.toList = ofL s.data.toList by unfold ofA; rw [if_pos (by rw [HSL.out]; omega)])
    gi_wp2_with (refine ⟨trivial, ?_⟩; gi_at_call 136; refine (callsIn_wide.2 (bitsIn_any s _)).mono ?_; rintro e w' ⟨rfl, rfl⟩)
    clear hz
    have hsz : s.size ≤ 150 := by omega
    have hbox0 : ((w.alloc (.cells #[.pointer none, .slice none 0 0] 42)).alloc (.cells #[.string s] 9)).heap[w.heap.size + 1]? = some (.cells #[.string s] 9 (0, 0)) := by
      have h := heap_alloc_new (w.alloc (.cells #[.pointer none, .slice none 0 0] 42)) (.cells #[.string s] 9)
      rw [World.size_alloc] at h
      exact h
    have hbu0 : BU ((w.alloc (.cells #[.pointer none, .slice none 0 0] 42)).alloc (.cells #[.string s] 9)) w.heap.size w.heap.size [] := by
      obtain ⟨h1, p, v, hb, hp, hrb⟩ := BU.fresh w
      exact ⟨h1, p, v, (Below.heap_alloc _ _ _ (BU.fresh w).lt).trans hb, hp, hrb.alloc _⟩
    have hbe0 : Below w.heap.size w ((w.alloc (.cells #[.pointer none, .slice none 0 0] 42)).alloc (.cells #[.string s] 9)) := ((Below.refl _ w).alloc (Nat.le_refl _) _).alloc (by simp) _
    have hws : ((w.alloc (.cells #[.pointer none, .slice none 0 0] 42)).alloc (.cells #[.string s] 9)).heap.size = w.heap.size + 2 := by simp
    generalize (w.alloc (.cells #[.pointer none, .slice none 0 0] 42)).alloc (.cells #[.string s] 9) = W0 at *
    have hcx : ∀ W : World, W.heap[w.heap.size + 1]? = some (.cells #[.string s] 9 (0, 0)) → W.cell? ⟨w.heap.size + 1, 0, none⟩ = some (.string s) := fun W h => by rw [cell_of_row W _ 0 _ _ _ h]; rfl
    refine wpIn_rangeFunc_ownF rfl (by omega) (gf := 149) (lb := #[.pointer (some ⟨w.heap.size + 1, 0, none⟩)]) rfl trivial (enters_of Tryz.func149 (by kernel_rfl) rfl)
      (bitsIn_stops (3 - 1) (by omega) (w.heap.size + 1) s hsz W0 (hcx W0 hbox0) (by omega)) (fun h k e => k (h e)) (fun W l o o' hl ho hc _ e => cell_kept e (grownBy_putObj' W l o') (fun r er => by cases er; exact ⟨o, ho, hc⟩)) (Below.refl _ _) (fun _ => rfl)
      (fun pre W => (BU W w.heap.size w.heap.size pre ∧ W.heap[w.heap.size + 1]? = some (.cells #[.string s] 9 (0, 0))) ∧ Below w.heap.size w W)
      (fun _ _ _ => False)
      (OwnFrom.and (fun pre A B row hs hg hr => ⟨hs.1.turned hg (fun r e => (hr r e).2), box_turned hs.2 hg (fun r e => (hr r e).2)⟩) (ownFrom_below (Nat.le_refl _) (by omega)))
      (fun _ _ _ _ _ hs _ _ => hs)
      ⟨⟨hbu0, hbox0⟩, hbe0⟩
      (fun x => { tmps := #[.string s, undef, .string ⟨#[]⟩, .pointer (some ⟨w.heap.size, 0, none⟩), .int .u8 x.toNat, .string s, .int .i64 s.size, .bool (decide ((150 : Int) < s.size)), .string s, .func (.func 149) #[] #[.pointer (some ⟨w.heap.size + 1, 0, none⟩)], .int .u8 x.toNat, undef, undef, undef], defers := [] }) ?assign ?body ?done ?stop
    case assign =>
      intro l x W K hK
      gi_wp2
      exact hK
    case body =>
      rintro l pre x W ⟨⟨hbu, hbox⟩, hB⟩ hlen
      have HBU := Lib.hid hbu
      have HBox := Lib.hid hbox
      have HB := Lib.hid hB
      clear hbu hbox hB hbu0 hbox0 hbe0 hcx
      gi_wp2_with (refine ⟨trivial, ?_⟩; gi_at_call 18; refine (CallsIn.inRound l (callsIn_wide.2 (writeByte_any _ _ pre x W HBU.out (by omega) HB.out.size))).mono ?_; rintro e w' ⟨rfl, hbu2, hbel2, hnb2⟩)
      have hbox2 := sbox_kept hnb2 HBox.out (by omega)
      exact ⟨HBU.out.others hnb2, (fun _ => by rw [cell_of_row _ _ 0 _ _ _ hbox2]; rfl), ⟨hbu2, hbox2⟩, HB.out.trans hbel2⟩
    case done =>
      rintro D ys W hD rfl ⟨⟨hbu, hbox⟩, hB⟩ hK
      have HBU := Lib.hid hbu
      have HB := Lib.hid hB
      have HK := Lib.hid hK
      have HLen := Lib.hid (show (ofL s.data.toList).length ≤ 140737488355328 by rw [ofL, uptoL_len, HSL.out]; omega)
      clear hbu hbox hB hbu0 hbox0 hbe0 hcx hK
      gi_wp2_with (refine ⟨trivial, ?_⟩; gi_at_call 19; refine (callsIn_wide.2 (string_kept _ _ _ W HBU.out HLen.out)).mono ?_; rintro e w' ⟨rfl, hbel2, hnb2⟩)
      have hK2 := (HBU.out.others hnb2).same D _ HK.out rfl
      refine ⟨by simp, .inl ⟨_, _, rfl, run_takeDeferred hK2, ?_⟩⟩
      refine ⟨_, results_tmp rfl _ _ _, by rw [HA.out]; rfl, (HB.out.trans hbel2).trans (belowK_b (w := w) (Nat.le_refl _) _ D _ _ (by omega) hK2 rfl rfl)⟩
    case stop =>
      rintro D c pre W _ _ h _
      exact h.elim
end Go.Proofs.YtcegpcggdcgjbaaGreatDoor
/- BitsOf of the model. -/
namespace Go.Proofs.YtcegpcggdcgjbaaGreatDoor
open Go.ChangeShapes Go.WideShapes Go.ChangeAt Go.RowKit
theorem bitAt_at (s : ByteArray) (m j : Nat) (hj : j < 8) (hm : m < s.size) : bitAt s.data.toList (8 * m + j) = UInt8.ofNat (48 + s[m].toNat / 2 ^ j % 2) := bitAt_of (by omega) (by omega) hm
set_option maxRecDepth 100000 in
set_option maxHeartbeats 4000000 in
theorem l2Of_any (s : ByteArray) (w : World) (hs : s.size ≤ 150) :
    Calls Tryz.prog 93 #[.string s] w fun e w' => e = .returned (.string ⟨(ofL s.data.toList).toArray⟩) ∧ Below w.heap.size w w' := by
  obtain ⟨i0, hi, hz0, hz1, hz2⟩ := info_parts info_u8
  have HI := Lib.hid hi
  have HZ0 := Lib.hid hz0
  have HZ1 := Lib.hid hz1
  have HZ2 := Lib.hid hz2
  have HSL := Lib.hid (size_list s)
  clear hi hz0 hz1 hz2
  go_enter Tryz.func93, Tryz.ntmps93
  go_wp2
  go_loopw [3, 4, 5, 6] (fun v i _ _ wr => ∃ m : Nat, m ≤ s.size ∧ i = .int .i64 m ∧ OB 5 wr w.heap.size v (uptoL s.data.toList (8 * m)) ∧ Below w.heap.size w wr) (fun _ i _ _ _ => s.size - (intOf i).toNat)
  case atStart => exact ⟨0, by omega, rfl, .inr ⟨w.heap.size, 0, #[], (0, 0), rfl, Nat.le_refl _, heap_alloc_new w _, .inl rfl, Nat.le_refl _, by simp [maxLen], rfl, rfl⟩, (Below.refl _ _).alloc (Nat.le_refl _) _⟩
  case round =>
    obtain ⟨m, hm, rfl, hown, hb⟩ := hrel
    have HO := Lib.hid hown
    have HB := Lib.hid hb
    clear hown hb
    by_cases hlt : m < s.size
    · go_wp2_with fail
      have hub := UInt8.toNat_lt s[m]
      go_loopw [3, 5, 6] (fun v n k wr => ∃ j : Nat, j ≤ 8 ∧ k = .int .i64 j ∧ n = .int .i64 ((s[m].toNat / 2 ^ j : Nat) : Int) ∧ OB 5 wr w.heap.size v (uptoL s.data.toList (8 * m + j)) ∧ Below w.heap.size w wr) (fun _ _ k _ => (8 - intOf k).toNat)
      case atStart => exact ⟨0, by omega, rfl, by have := hub; simp [wrap64]; omega, HO.out, HB.out⟩
      case round =>
        obtain ⟨j, hj, rfl, rfl, hown, hb⟩ := hrel
        have HO1 := Lib.hid hown
        have HB1 := Lib.hid hb
        clear hown hb
        by_cases hj8 : j < 8
        · have HBA := Lib.hid (bitAt_at s m j hj8 hlt)
          have hdl : s[m].toNat / 2 ^ j < 256 := Nat.lt_of_le_of_lt (Nat.div_le_self _ _) hub
          have HN := Lib.hid (show s[m].toNat / 2 ^ (j + 1) = s[m].toNat / 2 ^ j / 2 by rw [Nat.pow_succ, Nat.div_div_eq_div_mul])
          generalize s[m].toNat / 2 ^ j = n at *
          obtain ⟨h, hh⟩ : ∃ h, n / 2 = h := ⟨_, rfl⟩
          obtain ⟨b, hbb⟩ : ∃ b, n % 2 = b := ⟨_, rfl⟩
          have hb2 : b < 2 := by omega
          have e1 : (n : Int) / 2 = (h : Int) := by omega
          have e2 : (n : Int).tdiv 2 = (h : Int) := by rw [Int.tdiv_eq_ediv_of_nonneg (by omega)]; exact e1
          have e3 : (n : Int) % 2 = (b : Int) := by omega
          have e4 : (n : Int).tmod 2 = (b : Int) := by rw [Int.tmod_eq_emod_of_nonneg (by omega)]; exact e3
          have HH := Lib.hid hh
          have hll : (uptoL s.data.toList (8 * m + j)).length + [bitAt s.data.toList (8 * m + j)].length ≤ 140737488355328 := by rw [uptoL_len]; simp; omega
          have HOA := Lib.hid (show byteV (bitAt s.data.toList (8 * m + j)) = .int .u8 (48 + (b : Int)) by
            rw [HBA.out, hbb]; unfold byteV; rw [UInt8.toNat_ofNat']; exact val_int (by omega))
          clear hh hbb
          go_wp2_with (at_builtin; refine wpList_append_OB _ rfl _ _ 22 rfl w.heap.size 5 i0 Tryz.underlying22 HI.out HZ0.out HZ1.out HZ2.out _ (uptoL s.data.toList (8 * m + j)) rfl (HO1.out.alloc _) ⟨wr.heap.size, 0, none⟩ 1 1 [bitAt s.data.toList (8 * m + j)] rfl rfl (one_new wr _ _ _ HOA.out) hll (by have := HB1.out.size; simp; omega) ?_; intro v2 w2 hown2 hg2)
          go_roundw
          case rel =>
            refine ⟨j + 1, by omega, by go_num, ?_, ?_, ?_⟩
            · rw [HN.out, HH.out]
            · rw [← Nat.add_assoc, uptoL_succ]; exact hown2
            · exact (HB1.out.alloc HB1.out.size _).grown hg2 (by have := HB1.out.size; simp; omega) (fun k hk => (HO1.out.lt k hk).1)
          case measure => simp [intOf]; omega
        · obtain rfl : j = 8 := by omega
          go_wp2
          go_roundw
          case rel => exact ⟨m + 1, by omega, by go_num, by rw [show 8 * (m + 1) = 8 * m + 8 by omega]; exact HO1.out, HB1.out⟩
          case measure => simp [intOf]; omega
    · obtain rfl : m = s.size := by omega
      go_wp2_with (refine wpList_string_of_OB _ rfl 22 9 5 _ rfl w.heap.size _ _ rfl Tryz.underlying22 Tryz.underlying5 Tryz.underlying9 HO.out ?_)
      go_ret
      refine ⟨?_, HB.out⟩
      rw [ofL, HSL.out]
      rfl
end Go.Proofs.YtcegpcggdcgjbaaGreatDoor
/- Plain facts of bytes as bits. -/
namespace Go.Proofs.YtcegpcggdcgjbaaGreatDoor
open Go.ChangeShapes Go.WideShapes Go.ChangeAt Go.RowKit
theorem ofL_len (l : List UInt8) : (ofL l).length = 8 * l.length := uptoL_len _ _
theorem ofA_of {l : List UInt8} (h : l.length ≤ 150) : ofA l = ofL l := if_pos h
theorem bitAt_bit (l : List UInt8) (i : Nat) : bitB (bitAt l i) = true := by
  unfold bitAt
  rcases Nat.mod_two_eq_zero_or_one ((l[i / 8]?.getD 0).toNat / 2 ^ (i % 8)) with h | h <;> rw [h] <;> rfl
theorem ofL_ok {l : List UInt8} (h : l.length ≤ 150) : okB (ofL l) = true := by
  unfold okB
  rw [ofL_len, Bool.and_eq_true, decide_eq_true_iff]
  refine ⟨?_, by omega⟩
  rw [List.all_eq_true]
  intro c hc
  obtain ⟨i, _, rfl⟩ := List.mem_map.1 hc
  exact bitAt_bit l i
theorem ofL_append (a b : List UInt8) : ofL (a ++ b) = ofL a ++ ofL b := by
  unfold ofL uptoL
  rw [List.length_append, Nat.mul_add, List.range_add, List.map_append, List.map_map]
  congr 1
  · apply List.map_congr_left
    intro i hi
    have hi := List.mem_range.1 hi
    unfold bitAt
    rw [List.getElem?_append_left (by omega)]
  · apply List.map_congr_left
    intro i _
    show bitAt (a ++ b) (8 * a.length + i) = bitAt b i
    unfold bitAt
    rw [List.getElem?_append_right (by omega), show (8 * a.length + i) / 8 - a.length = i / 8 by omega, show (8 * a.length + i) % 8 = i % 8 by omega]
theorem bitN_of (b : Nat) (h : b < 2) : bitN (UInt8.ofNat (48 + b)) = b := by
  obtain rfl | rfl : b = 0 ∨ b = 1 := by omega
  · rfl
  · rfl
theorem oct_ofL (c : UInt8) : octN (ofL [c]) = c.toNat := by
  have h : ofL [c] = [bitAt [c] 0, bitAt [c] 1, bitAt [c] 2, bitAt [c] 3, bitAt [c] 4, bitAt [c] 5, bitAt [c] 6, bitAt [c] 7] := rfl
  have hb : ∀ j, j < 8 → bitN (bitAt [c] j) = c.toNat / 2 ^ j % 2 := fun j hj => by
    unfold bitAt
    rw [show j / 8 = 0 by omega, show j % 8 = j by omega]
    exact bitN_of _ (Nat.mod_lt _ (by omega))
  rw [h]
  simp only [octN, hb 0 (by omega), hb 1 (by omega), hb 2 (by omega), hb 3 (by omega), hb 4 (by omega), hb 5 (by omega), hb 6 (by omega), hb 7 (by omega)]
  have := UInt8.toNat_lt c
  omega
theorem toL_ofL (l : List UInt8) : toL (ofL l) = l := by
  apply List.ext_getElem
  · rw [toL, List.length_map, List.length_range, ofL_len]; omega
  · intro m h1 h2
    have e : octAt (ofL l) m = l[m] := by
      unfold octAt
      have hl : l = l.take m ++ ([l[m]] ++ l.drop (m + 1)) := by
        rw [List.singleton_append, List.getElem_cons_drop, List.take_append_drop]
      have h3 : ((ofL l).drop (8 * m)).take 8 = ofL [l[m]] := by
        conv => lhs; rw [hl]
        rw [ofL_append, ofL_append, List.drop_left' (by rw [ofL_len, List.length_take]; omega), List.take_left' (by rw [ofL_len]; rfl)]
      rw [h3, oct_ofL]
      apply UInt8.toNat_inj.1
      rw [UInt8.toNat_ofNat']
      exact Nat.mod_eq_of_lt (UInt8.toNat_lt _)
    simpa [toL] using e
theorem octN_bit (L : List UInt8) : ∀ j (h : j < L.length), octN L / 2 ^ j % 2 = bitN L[j] := by
  have hb : ∀ c, bitN c < 2 := fun c => by unfold bitN; split <;> omega
  induction L with
  | nil => intro j h; simp at h
  | cons c L ih =>
    intro j h
    have hc := hb c
    cases j with
    | zero => simp only [octN, Nat.pow_zero, Nat.div_one, List.getElem_cons_zero]; omega
    | succ j =>
      rw [List.getElem_cons_succ, ← ih j (by simpa using h), Nat.pow_succ, Nat.mul_comm, ← Nat.div_div_eq_div_mul]
      congr 2
      simp only [octN]
      omega
theorem bit_back {c : UInt8} (h : bitB c = true) : UInt8.ofNat (48 + bitN c) = c := by
  have h : c = 48 ∨ c = 49 := by simpa [bitB] using h
  rcases h with rfl | rfl <;> rfl
theorem ok_bits0 {l : List UInt8} (h : okB l = true) : l.all bitB = true := by unfold okB at h; exact (Bool.and_eq_true_iff.1 h).1
theorem toL_len (l : List UInt8) : (toL l).length = l.length / 8 := by simp [toL]
theorem ofL_toL {l : List UInt8} (h : l.all bitB = true) (h8 : l.length % 8 = 0) : ofL (toL l) = l := by
  apply List.ext_getElem
  · rw [ofL_len, toL_len]; omega
  · intro i h1 h2
    have e : bitAt (toL l) i = l[i] := by
      unfold bitAt
      have hm : i / 8 < (toL l).length := by rw [toL_len]; omega
      rw [List.getElem?_eq_getElem hm]
      have h3 : (toL l)[i / 8] = octAt l (i / 8) := by simp [toL]
      show UInt8.ofNat (48 + (toL l)[i / 8].toNat / 2 ^ (i % 8) % 2) = l[i]
      rw [h3, octAt, UInt8.toNat_ofNat']
      have hlen : ((l.drop (8 * (i / 8))).take 8).length = 8 := by rw [List.length_take, List.length_drop]; omega
      have hlt := octN_lt ((l.drop (8 * (i / 8))).take 8)
      rw [hlen] at hlt
      rw [Nat.mod_eq_of_lt hlt, octN_bit _ (i % 8) (by rw [hlen]; omega)]
      have h4 : ((l.drop (8 * (i / 8))).take 8)[i % 8]'(by rw [hlen]; omega) = l[i] := by
        rw [List.getElem_take, List.getElem_drop]
        congr 1
        omega
      rw [h4]
      exact bit_back (List.all_eq_true.1 h _ (List.getElem_mem _))
    simpa [ofL, uptoL] using e
end Go.Proofs.YtcegpcggdcgjbaaGreatDoor
