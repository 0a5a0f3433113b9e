/- Numbers told from behind: the iterator. -/
import Derived.RangeFuncNested
import Derived.RangeFuncBound
import Derived.RangeFuncBox
import Derived.RangeFuncCalls
import Derived.RangeFuncLeaves
import Derived.Shelf.Abstract
import Derived.Shelf.RegionOpen
import Derived.OwnWalkIn
import Derived.TacticsInMore
import Derived.LoopNIn
import Derived.LoopIn
import Derived.Laws.EntriesVeiled
import Derived.Test.YthbijeicdjpbeaaVarD
namespace Go.Proofs.Ythbijeicdjpbeaa
open Go.ChangeShapes Go.WideShapes Go.ChangeAt Go.RowKit Go.Shelf
attribute [local go_sem] Oper.semAt_some
/-- a group of seven bits -/
abbrev Gp := { x : Nat // x < 128 }
def gp0 : Gp := ⟨0, by decide⟩
/-- the last so many, from behind, each with its place -/
def backs (l : List Gp) (k : Nat) : List (Nat × Gp) := (List.range k).map fun j => (l.length - 1 - j, l.getD (l.length - 1 - j) gp0)
theorem backs_len (l : List Gp) (k : Nat) : (backs l k).length = k := by simp [backs]
theorem backs_next (l : List Gp) (m : Nat) (h : m < l.length) : backs l (l.length - m) = backs l (l.length - (m + 1)) ++ [(m, l[m])] := by
  have e : l.length - m = (l.length - (m + 1)) + 1 := by omega
  have e2 : l.length - 1 - (l.length - (m + 1)) = m := by omega
  rw [e]
  simp only [backs, List.range_succ, List.map_append, List.map_cons, List.map_nil, e2, List.getD, List.getElem?_eq_getElem h, Option.getD_some]
theorem backs_vals (l : List Gp) : (backs l l.length).map (fun x => x.2.1) = (l.map (·.1)).reverse := by
  apply List.ext_getElem
  · simp [backs]
  · intro i h1 h2
    have hi : i < l.length := by simpa [backs] using h1
    simp only [backs, List.getElem_map, List.getElem_range, List.getElem_reverse, List.length_map, List.getD, List.getElem?_eq_getElem (show l.length - 1 - i < l.length by omega), Option.getD_some]
def fv (b : Nat) (pre : List (Nat × Gp)) : Nat := pre.foldl (fun n x => n * 128 + x.2.1) b
theorem fv_snoc (b : Nat) (pre : List (Nat × Gp)) (x : Nat × Gp) : fv b (pre ++ [x]) = fv b pre * 128 + x.2.1 := by simp [fv]
theorem fv_lt' : ∀ (pre : List (Nat × Gp)) (b k : Nat), b < 128 ^ k → fv b pre < 128 ^ (k + pre.length)
  | [], b, k, h => by simpa [fv] using h
  | x :: pre, b, k, h => by
    have hx := x.2.2
    have h2 : b * 128 + x.2.1 < 128 ^ (k + 1) := by rw [Nat.pow_succ]; omega
    have ih := fv_lt' pre (b * 128 + x.2.1) (k + 1) h2
    rw [List.length_cons, show k + (pre.length + 1) = k + 1 + pre.length by omega]
    exact ih
theorem fv_lt {b : Nat} (hb : b < 128) (pre : List (Nat × Gp)) : fv b pre < 128 ^ (1 + pre.length) := fv_lt' pre b 1 (by simpa using hb)
theorem fv_vals (b : Nat) (pre : List (Nat × Gp)) : fv b pre = (pre.map (fun x => x.2.1)).foldl (fun n g => n * 128 + g) b := by
  unfold fv; rw [List.foldl_map]
theorem foldr_val (b : UInt8) (hb : b.toNat < 128) : ∀ xs : List UInt8, (∀ x ∈ xs, 128 ≤ x.toNat) → (xs.map (fun c => c.toNat - 128)).foldr (fun g n => n * 128 + g) b.toNat = valL (xs ++ [b])
  | [], _ => by simp [valL]; omega
  | x :: xs, h => by
    have h1 := h x (by simp)
    have h2 := UInt8.toNat_lt x
    rw [List.map_cons, List.foldr_cons, foldr_val b hb xs (fun y hy => h y (by simp [hy])), List.cons_append, valL]
    omega
theorem fv_all (b : UInt8) (hb : b.toNat < 128) (xs : List UInt8) (h : ∀ x ∈ xs, 128 ≤ x.toNat) (l : List Gp) (hl : l.map (·.1) = xs.map (fun c => c.toNat - 128)) : fv b.toNat (backs l l.length) = valL (xs ++ [b]) := by
  rw [fv_vals, backs_vals, hl, List.foldl_reverse]
  exact foldr_val b hb xs h
/-- the cells of a slice of groups -/
def CI (W : World) (a : Option Addr) (l : List Gp) : Prop := ∀ k (h : k < l.length), ∃ g, a = some ⟨g, 0, none⟩ ∧ W.cell? ⟨g, k, none⟩ = some (.int .i64 ((l[k].1 : Nat) : Int))
def KpB (bx : Nat) (a : Option Addr) (cap : Nat) (l : List Gp) (W W' : World) : Prop := (W.cell? ⟨bx, 0, none⟩ = some (.slice a l.length cap) ∧ CI W a l) → (W'.cell? ⟨bx, 0, none⟩ = some (.slice a l.length cap) ∧ CI W' a l)
theorem backOf_any (a : Option Addr) (n c : Nat) (w : World) :
    Calls Try.prog 34 #[.slice a n c] w fun e w' => e = .returned (.func (.func 40) #[] #[.pointer (some ⟨w.heap.size, 0, none⟩)]) ∧ w' = w.alloc (.cells #[.slice a n c] 46) := by
  have hmf : ∀ (fn : Fn) (first cap : Array Value) (w : World), (Instr.makeFunc fn first cap).run Try.prog w = .ok (.func fn first cap) w := fun _ _ _ _ => rfl
  go_enter Try.func34, Try.ntmps34
  go_wp2
  go_ret
  exact ⟨rfl, rfl⟩
set_option maxRecDepth 100000 in
set_option maxHeartbeats 2000000 in
theorem back_stops (n : Nat) (hn : 1 ≤ n) (bx : Nat) (a : Option Addr) (cap : Nat) (l : List Gp) (hl : l.length ≤ 8) (w : World) (hbx : w.cell? ⟨bx, 0, none⟩ = some (.slice a l.length cap)) (hci : CI w a l) (hbl : bx < w.heap.size) :
    SeqStopsK Fence.wide n Try.prog 40 #[.pointer (some ⟨bx, 0, none⟩)] (fun x : Nat × Gp => #[.int .i64 (x.1 : Nat), .int .i64 ((x.2.1 : Nat) : Int)]) (KpB bx a cap l) (fun xs => xs = backs l l.length) (fun _ => True) 8 w := fun q J Jx W hW hJ hJx hY h0 => by
  have hcW : W.cell? ⟨bx, 0, none⟩ = some (.slice a l.length cap) := (hW.cell (p := ⟨bx, 0, none⟩) hbl).trans hbx
  have hciW : CI W a l := fun k hk => by
    obtain ⟨g, e, hc⟩ := hci k hk
    exact ⟨g, e, (hW.cell (p := ⟨g, k, none⟩) (block_lt_of_cell (a := ⟨g, k, none⟩) hc)).trans hc⟩
  clear hbx hci
  refine callsIn_of_wp Try.func40 rfl trivial ?_ rfl
  simp only [Try.ntmps40, List.size_toArray, List.length_cons, List.length_nil, Nat.reduceAdd, Nat.reduceSub, Array.replicate_succ, Array.replicate_zero, List.push_toArray, List.append_toArray, List.nil_append, List.cons_append]
  gi_wp2
  gi_loopw [3] (fun i wr => ∃ m : Nat, m ≤ l.length ∧ i = .int .i64 ((m : Int) - 1) ∧ J (backs l (l.length - m)) wr ∧ wr.cell? ⟨bx, 0, none⟩ = some (.slice a l.length cap) ∧ CI wr a l) (fun i _ => (intOf i + 1).toNat)
  case atStart => exact ⟨l.length, Nat.le_refl _, rfl, by rw [Nat.sub_self]; exact h0, hcW, hciW⟩
  case round =>
    obtain ⟨m, hm, rfl, hJk, hck, hcik⟩ := hrel
    cases m with
    | zero =>
      gi_wp2
      go_end0
      exact ⟨⟨_, rfl⟩, .inl ⟨_, by rw [Nat.sub_zero], hJk⟩⟩
    | succ m =>
      rw [show ((m + 1 : Nat) : Int) - 1 = (m : Int) by omega]
      obtain ⟨g, rfl, hcm⟩ := hcik m (by omega)
      have HN := Lib.hid (backs_next l m (by omega))
      obtain ⟨fn, tmps, assign, body, hy, hR⟩ := hY (backs l (l.length - (m + 1))) (m, l[m]) wr hJk (by rw [backs_len]; omega)
      rw [← HN.out] at hR
      have HR := Lib.hid hR
      have HCI := Lib.hid hcik
      simp only at hy
      have hml : m < l.length := by omega
      have hmi : (m : Int) < (l.length : Int) := by omega
      have hge : (0 : Int) ≤ (m : Int) := by omega
      clear hR hcik
      gi_wp2
      refine HR.out.mono ?_
      rintro e W3 (⟨rfl, hJ3, hk3⟩ | ⟨rfl, hJx3⟩)
      · gi_wp2
        go_roundw
        case rel => exact ⟨m, by omega, rfl, hJ3, hk3 ⟨hck, HCI.out⟩⟩
        case measure => simp [intOf]
      · gi_wp2
        refine bodyPost_ret (results_none rfl _ _ _) rfl ?_
        exact ⟨⟨_, rfl⟩, .inr ⟨_, trivial, hJx3⟩⟩
end Go.Proofs.Ythbijeicdjpbeaa
