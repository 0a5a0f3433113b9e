/- The draw of a configuration and messages. -/
import Derived.Test.YtdnedoafgfpnfaaDrawMsgs
import Derived.Test.YtdnedoafgfpnfaaLnF
namespace Go.Proofs.Ytdnedoafgfpnfaa
open Go.ChangeShapes Go.WideShapes Go.ChangeAt Go.RowKit
def NewDrawn (w : World) (e : Ending) (w' : World) : Prop := ∃ (a b d m : Int) (v : Value) (ms : List ByteArray), e = .returned (.tuple #[cfV a b d m, v]) ∧ smallC a b d m ∧ OS w' w.heap.size v ms ∧ ms.length ≤ 7 ∧ (∀ s ∈ ms, s.size ≤ 45) ∧ Below w.heap.size w w'
def longM : ByteArray := ⟨#[97, 32, 109, 101, 115, 115, 97, 103, 101, 32, 116, 104, 97, 116, 32, 105, 115, 32, 108, 111, 110, 103, 101, 114, 32, 116, 104, 97, 110, 32, 102, 111, 114, 116, 121, 32, 98, 121, 116, 101, 115, 32, 97, 114, 101]⟩
theorem longM_size : longM.size = 45 := rfl
set_option maxRecDepth 100000 in
set_option maxHeartbeats 4000000 in
theorem drawLineNew_any {w : World} (ad : Option Addr) (len cap : Nat) (zs : List Int) (h : IsRow .u8 w ad len cap zs) :
    Calls Try.prog 7 #[.slice ad len cap] w (NewDrawn w) := by
  obtain ⟨i0, hi, hz0, hz1, hz2⟩ := info_parts info_str
  have HI := Lib.hid hi
  have HZ0 := Lib.hid hz0
  have HZ1 := Lib.hid hz1
  have HZ2 := Lib.hid hz2
  have hzc := zero_conf
  have hb0 : Below w.heap.size w (w.alloc (.cells #[.int .i64 0, .int .i64 0, .int .i64 0, .int .i64 0] 24)) := (Below.refl _ w).alloc (Nat.le_refl _) _
  have HQ := Lib.hid (BK.new w #[.int .i64 0, .int .i64 0, .int .i64 0, .int .i64 0] 24)
  have HH := Lib.hid (h.keep hb0)
  have HB := Lib.hid hb0
  clear h hi hz0 hz1 hz2 hb0
  go_enter Try.func7, Try.ntmps7
  go_wp2_with fail
  refine (open_any ad len cap zs HH.out).mono ?_
  rintro e w1 ⟨rfl, hr1, hb1, hs1⟩
  rw [World.size_alloc] at hr1 ⊢
  have hs1' : w1.heap.size = w.heap.size + 2 := by rw [hs1]; simp
  have HR := Lib.hid hr1
  have HQ := Lib.hid (HQ.out.from hb1)
  have HB := Lib.hid (HB.out.trans (hb1.mono HB.out.size))
  clear hr1 hb1 hs1
  go_wp2_with fail
  refine (anyConf_any HR.out (by omega)).mono ?_
  rintro e w2 ⟨a, b, d, m, rfl, hsm, hr2, hg2⟩
  have hsz2 := hg2.size
  have hk := BK.new w2 #[.int .i64 a, .int .i64 b, .int .i64 d, .int .i64 m] 24
  obtain ⟨c0, c1, c2, c3⟩ := cells4 hk
  have HK := Lib.hid hk
  have HQ := Lib.hid ((HQ.out.grown hg2 (fun e => by injection e with e; omega)).alloc (.cells #[.int .i64 a, .int .i64 b, .int .i64 d, .int .i64 m] 24))
  have HB := Lib.hid ((HB.out.trans (grown_below hg2 HB.out.size (by omega))).alloc (Nat.le_trans HB.out.size hg2.size) (.cells #[.int .i64 a, .int .i64 b, .int .i64 d, .int .i64 m] 24))
  have HR := Lib.hid (hr2.alloc (.cells #[.int .i64 a, .int .i64 b, .int .i64 d, .int .i64 m] 24))
  have HSZ := Lib.hid (show w2.heap.size + 1 ≤ (w2.alloc (.cells #[.int .i64 a, .int .i64 b, .int .i64 d, .int .i64 m] 24)).heap.size by simp)
  have HSM := Lib.hid hsm
  clear hr2 hg2 hk hsm
  go_wp2_with fail
  refine (msgs_any a b d m HR.out HSM.out.2.2.1 (by omega)).mono ?_
  rintro e w3 ⟨v, ms, rfl, ho3, hl3, hz3, hr3, hg3⟩
  have HO := Lib.hid (OS.mono (base' := w2.heap.size + 1) ho3 HSZ.out)
  have HZS := Lib.hid hz3
  have HR := Lib.hid hr3
  have HK := Lib.hid (HK.out.grown hg3 (fun e => by injection e with e; omega))
  have HQ := Lib.hid (HQ.out.grown hg3 (fun e => by injection e with e; omega))
  have HB := Lib.hid (HB.out.trans (grown_below hg3 HB.out.size (by omega)))
  have HSZ := Lib.hid (Nat.le_trans HSZ.out hg3.size)
  clear ho3 hz3 hr3 hg3
  go_wp2_with fail
  refine (pick_any _ HR.out (by omega)).mono ?_
  rintro e w4 ⟨⟨x, rfl, _, _⟩, hr4, hg4⟩
  have HO := Lib.hid (HO.out.keptg hg4 (by omega))
  have hk := HK.out.grown hg4 (fun e => by injection e with e; omega)
  have hq := HQ.out.grown hg4 (fun e => by injection e with e; omega)
  obtain ⟨c0, c1, c2, c3⟩ := cells4 hk
  obtain ⟨z0, z1, z2, z3⟩ := cells4 hq
  obtain ⟨f0, f1, f2, f3⟩ := free4 hq
  have HB := Lib.hid (HB.out.trans (grown_below hg4 HB.out.size (by omega)))
  have HSZ := Lib.hid (Nat.le_trans HSZ.out hg4.size)
  have HK := Lib.hid hk
  have HQ := Lib.hid hq
  clear hr4 hg4 hk hq
  by_cases hx0 : x = 0
  · subst hx0
    go_wp2_with fail
    have hKb := HK.out.drew
    have hQb := HQ.out.drew
    have hOb := HO.out.drew
    have hBb := HB.out.drew
    have hSb : w2.heap.size + 1 ≤ w4.drew.heap.size := HSZ.out
    have hS := cells4 hKb
    refine wp_region_held_drew (S := (fun wx => wx.cell? ⟨w2.heap.size, 0, none⟩ = some (.int .i64 a) ∧ wx.cell? ⟨w2.heap.size, 1, none⟩ = some (.int .i64 b) ∧ wx.cell? ⟨w2.heap.size, 2, none⟩ = some (.int .i64 d) ∧ wx.cell? ⟨w2.heap.size, 3, none⟩ = some (.int .i64 m))) (by kernel_rfl) hS (fun hHeld => ?_)
    refine wpAnyH_take (i := 0) (v := ?_) rfl (by kernel_rfl) (by kernel_rfl) (by kernel_rfl) (fun _ _ _ h => h) (Or.inl ⟨by rfl, ?_⟩) (by assumption) ?_
    rotate_left
    · intro wq hSw
      (try dsimp only at hSw)
      (try simp only [List.getElem_toArray, List.getElem_cons_zero])
      go_simp
      (try with_reducible rfl)
    simp only [Act.put, List.getElem_toArray, List.getElem_cons_zero, List.setIfInBounds_toArray, List.set_cons_zero, List.set_cons_succ]
    refine wpAnyH_take (i := 1) (v := ?_) rfl (by kernel_rfl) (by kernel_rfl) (by kernel_rfl) (fun _ _ _ h => h) (Or.inl ⟨by rfl, ?_⟩) (by assumption) ?_
    rotate_left
    · intro wq hSw
      (try dsimp only at hSw)
      (try simp only [List.getElem_toArray, List.getElem_cons_succ, List.getElem_cons_zero])
      go_simp
      (try with_reducible rfl)
    simp only [Act.put, List.getElem_toArray, List.getElem_cons_succ, List.getElem_cons_zero, List.setIfInBounds_toArray, List.set_cons_zero, List.set_cons_succ]
    have hA := RS_one w4.drew longM
    have hKb := hKb.alloc (.cells #[.string longM] 9)
    have hQb := hQb.alloc (.cells #[.string longM] 9)
    have hOb := hOb.alloc (.cells #[.string longM] 9)
    have hBb := hBb.alloc hBb.size (.cells #[.string longM] 9)
    have hS := cells4 hKb
    refine wpAnyH_ready (rs := [2]) (by kernel_rfl) (by simp) ?_
    refine AllReadyH.cons rfl (fun K hK => ?_) AllReadyH.nil
    (try simp only [List.getElem_toArray, List.getElem_cons_succ, List.getElem_cons_zero])
    skip
    go_simp
    skip
    refine hK.out _ _ hS (fun hHeld => ?_)
    clear hK K
    refine wpAnyH_ready (rs := [3]) (by kernel_rfl) (by simp) ?_
    refine AllReadyH.cons rfl (fun K hK => ?_) AllReadyH.nil
    (try simp only [List.getElem_toArray, List.getElem_cons_succ, List.getElem_cons_zero])
    rw [if_pos (by rfl)]
    refine opwp_append_os _ _ 25 rfl (w2.heap.size + 1) i0 Try.underlying25 HI.out HZ0.out HZ1.out HZ2.out _ ms rfl hOb _ _ [longM] rfl hA (by simp; omega) (by have h8 : w2.heap.size + 1 ≤ w4.heap.size := hSb; simp; omega) ?_
    intro u w5 hown hg5
    have hKb := hKb.os' (by decide) hOb hg5
    have hQb := hQb.os' (by decide) hOb hg5
    have hBb := hBb.grown hg5 (by have := hBb.size; exact this) (fun k hk => by have := (hOb.low k hk).1; omega)
    have hS := cells4 hKb
    refine hK.out _ _ hS (fun hHeld => ?_)
    clear hK K
    simp only [Act.put, List.setIfInBounds_toArray, List.set_cons_zero, List.set_cons_succ]
    obtain ⟨z0, z1, z2, z3⟩ := cells4 hQb
    obtain ⟨f0, f1, f2, f3⟩ := free4 hQb
    have hX := hKb.far (j := w.heap.size) (o := 0) (by omega) (.int .i64 a)
    have hX := hX.far (j := w.heap.size) (o := 1) (by omega) (.int .i64 b)
    have hX := hX.far (j := w.heap.size) (o := 2) (by omega) (.int .i64 d)
    have hX := hX.far (j := w.heap.size) (o := 3) (by omega) (.int .i64 m)
    have hS := cells4 hX
    refine wpAnyH_ready (rs := [4]) (by kernel_rfl) (by simp) ?_
    refine AllReadyH.cons rfl (fun K hK => ?_) AllReadyH.nil
    (try simp only [List.getElem_toArray, List.getElem_cons_succ, List.getElem_cons_zero])
    skip
    go_simp
    skip
    refine hK.out _ _ hS (fun hHeld => ?_)
    clear hK K
    refine wpAnyH_take (i := 5) (v := ?_) rfl (by kernel_rfl) (by kernel_rfl) (by kernel_rfl) (fun _ _ _ h => h) (Or.inl ⟨by rfl, ?_⟩) (by assumption) ?_
    rotate_left
    · intro wq hSw
      (try dsimp only at hSw)
      (try simp only [List.getElem_toArray, List.getElem_cons_succ, List.getElem_cons_zero])
      go_simp
      (try with_reducible rfl)
    simp only [Act.put, List.getElem_toArray, List.getElem_cons_succ, List.getElem_cons_zero, List.setIfInBounds_toArray, List.set_cons_zero, List.set_cons_succ]
    refine wpAnyH_done (by kernel_rfl) ?_ _
    have hq : BK _ w.heap.size #[.int .i64 a, .int .i64 0, .int .i64 0, .int .i64 0] 24 := hQb.set 0 (.int .i64 a)
    have hq : BK _ w.heap.size #[.int .i64 a, .int .i64 b, .int .i64 0, .int .i64 0] 24 := hq.set 1 (.int .i64 b)
    have hq : BK _ w.heap.size #[.int .i64 a, .int .i64 b, .int .i64 d, .int .i64 0] 24 := hq.set 2 (.int .i64 d)
    have hq : BK _ w.heap.size #[.int .i64 a, .int .i64 b, .int .i64 d, .int .i64 m] 24 := hq.set 3 (.int .i64 m)
    obtain ⟨y0, y1, y2, y3⟩ := cells4 hq
    have HOc := Lib.hid hown
    have HBc := Lib.hid hBb
    clear hKb hQb hOb hBb hX hS hA hown hg5 hq
    go_wp2
    refine bodyPost_ret (v := .tuple #[cfV a b d m, u]) (by simp [results, Try.results7, go_sem, y0, y1, y2, y3]) rfl ⟨a, b, d, m, u, ms ++ [longM], rfl, HSM.out, ?_, by simp; omega, fun s hs => ?_, ?_⟩
    · exact (((((HOc.out.put (p := ⟨w.heap.size, 0, none⟩) (by simp; omega) _).put (p := ⟨w.heap.size, 1, none⟩) (by simp; omega) _).put (p := ⟨w.heap.size, 2, none⟩) (by simp; omega) _).put (p := ⟨w.heap.size, 3, none⟩) (by simp; omega) _).mono (by omega))
    · rw [List.mem_append] at hs
      rcases hs with hs | hs
      · have := HZS.out s hs; omega
      · rw [List.mem_singleton.1 hs, longM_size]; omega
    · exact (((HBc.out.setCell (p := ⟨w.heap.size, 0, none⟩) (by simp) _).setCell (p := ⟨w.heap.size, 1, none⟩) (by simp) _).setCell (p := ⟨w.heap.size, 2, none⟩) (by simp) _).setCell (p := ⟨w.heap.size, 3, none⟩) (by simp) _
  · have hxb : ((x : Int) == 0) = false := beq_eq_false_iff_ne.2 hx0
    go_wp2
    have hq : BK _ w.heap.size #[.int .i64 a, .int .i64 0, .int .i64 0, .int .i64 0] 24 := HQ.out.set 0 (.int .i64 a)
    have hq : BK _ w.heap.size #[.int .i64 a, .int .i64 b, .int .i64 0, .int .i64 0] 24 := hq.set 1 (.int .i64 b)
    have hq : BK _ w.heap.size #[.int .i64 a, .int .i64 b, .int .i64 d, .int .i64 0] 24 := hq.set 2 (.int .i64 d)
    have hq : BK _ w.heap.size #[.int .i64 a, .int .i64 b, .int .i64 d, .int .i64 m] 24 := hq.set 3 (.int .i64 m)
    obtain ⟨y0, y1, y2, y3⟩ := cells4 hq
    refine bodyPost_ret (v := .tuple #[cfV a b d m, v]) (by simp [results, Try.results7, go_sem, y0, y1, y2, y3]) rfl ⟨a, b, d, m, v, ms, rfl, HSM.out, ?_, by omega, fun s hs => by have := HZS.out s hs; omega, ?_⟩
    · exact (((((HO.out.put (p := ⟨w.heap.size, 0, none⟩) (by simp; omega) _).put (p := ⟨w.heap.size, 1, none⟩) (by simp; omega) _).put (p := ⟨w.heap.size, 2, none⟩) (by simp; omega) _).put (p := ⟨w.heap.size, 3, none⟩) (by simp; omega) _).mono (by omega))
    · exact (((HB.out.setCell (p := ⟨w.heap.size, 0, none⟩) (by simp) _).setCell (p := ⟨w.heap.size, 1, none⟩) (by simp) _).setCell (p := ⟨w.heap.size, 2, none⟩) (by simp) _).setCell (p := ⟨w.heap.size, 3, none⟩) (by simp) _
end Go.Proofs.Ytdnedoafgfpnfaa
