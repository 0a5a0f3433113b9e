/- FnMuxWeave: Channels that are apart don't meddle with each other. For every code (the law draws two lists of pieces and the turns from it). No condition. -/
import Derived.Test.YtplaagkcamjemaaKitA
import Derived.Test.YtplaagkcamjemaaMxZ
import Derived.Test.YtplaagkcamjemaaMxL2
import Derived.Test.YtplaagkcamjemaaMxW
import Derived.Test.YtplaagkcamjemaaMxV2
import Derived.Test.YtplaagkcamjemaaMxO
namespace Go.Proofs.Ytplaagkcamjemaa.fnMuxWeave
open Go.ChangeShapes Go.WideShapes Go.ChangeAt Go.RowKit
open Go.ChangeMaps (open_string shut_string)
set_option linter.unusedVariables false
theorem strs_mem {ls : List (List UInt8)} {m : Nat} (h : ∀ p ∈ ls, p.length ≤ m) : ∀ q ∈ strs ls, q.size ≤ m := by
  intro q hq
  unfold strs at hq
  obtain ⟨l, hl, rfl⟩ := List.mem_map.1 hq
  exact h l hl
theorem strs_at {ls : List (List UInt8)} {k : Nat} (h : k < ls.length) (h' : k < (strs ls).length) : (strs ls)[k] = ⟨ls[k].toArray⟩ := by
  simp [strs]
theorem filter_take {ls : List (List UInt8)} {k : Nat} (h : k < ls.length) (P : List UInt8 → Bool) : (ls.take (k + 1)).filter P = (ls.take k).filter P ++ (if P ls[k] = true then [ls[k]] else []) := by
  rw [List.take_succ_eq_append_getElem h, List.filter_append]
  cases hp : P ls[k] <;> simp [hp]
theorem weave_mem {α : Type} {x : α} {a b : List α} {ts : List Bool} {i : Nat} (h : x ∈ weaveL a b ts i) : x ∈ a ∨ x ∈ b := by
  fun_induction weaveL a b ts i with
  | case1 => exact .inr h
  | case2 => exact .inl h
  | case3 i x0 a y b hh ih =>
    rcases List.mem_cons.1 h with h | h
    · exact .inl (by rw [h]; exact List.mem_cons_self)
    · rcases ih h with h | h
      · exact .inl (List.mem_cons_of_mem _ h)
      · exact .inr h
  | case4 i x0 a y b hh ih =>
    rcases List.mem_cons.1 h with h | h
    · exact .inr (by rw [h]; exact List.mem_cons_self)
    · rcases ih h with h | h
      · exact .inl h
      · exact .inr (List.mem_cons_of_mem _ h)
set_option maxRecDepth 100000 in
set_option maxHeartbeats 800000 in
theorem walk (a0 : Option Addr) (len0 cap0 : Nat) (z0 : List Int) (w : World) (w0 : IsRow .u8 w a0 len0 cap0 z0) :
    Calls Try.prog 6 #[.slice a0 len0 cap0] w fun e w' => e = .returned (.bool true) ∧ Below w.heap.size w w' := by
  by_cases hbig : 1048576 < len0
  · go_enter Try.func6, Try.ntmps6
    go_wp2
    go_ret
    exact ⟨rfl, Below.refl _ _⟩
  obtain ⟨i0, hi, hz0, hz1, hz2⟩ := info_parts info_str
  have HI := Lib.hid hi
  have HZ0 := Lib.hid hz0
  have HZ1 := Lib.hid hz1
  have HZ2 := Lib.hid hz2
  have HH := Lib.hid w0
  clear w0 hi hz0 hz1 hz2
  go_enter Try.func6, Try.ntmps6
  go_wp2_with fail
  refine (drawMuxWeave_any a0 len0 cap0 z0 HH.out).mono ?_
  rintro e w1 ⟨va, vb, vt, la, lb, ts, rfl, hoa, hob, hot, hla, hlb, hlt, hpa, hpb, hb⟩
  have HPA := Lib.hid hpa
  have HPB := Lib.hid hpb
  have HB := Lib.hid hb
  have HAa := Lib.hid (RC.of_own hoa)
  have HAb := Lib.hid (RC.of_own hob)
  have HAt := Lib.hid hot.reads
  have HLA := Lib.hid (strs_len la)
  have HLB := Lib.hid (strs_len lb)
  obtain ⟨SA, hSA⟩ : ∃ SA, SA = strs la := ⟨_, rfl⟩
  obtain ⟨SB, hSB⟩ : ∃ SB, SB = strs lb := ⟨_, rfl⟩
  have HSA := Lib.hid hSA
  have HSB := Lib.hid hSB
  rw [← hSA] at HAa HLA
  rw [← hSB] at HAb HLB
  have hSAl : SA.length ≤ 200 := by have := HLA.out; omega
  have hSBl : SB.length ≤ 200 := by have := HLB.out; omega
  have HALL := Lib.hid (show ∀ q ∈ SA ++ SB, q.size ≤ 1048576 from fun q hq => by
    rcases List.mem_append.1 hq with h | h
    · exact strs_mem (fun p hp => by have := (HPA.out p hp).2; omega) q (by rw [hSA] at h; exact h)
    · exact strs_mem (fun p hp => by have := (HPB.out p hp).2; omega) q (by rw [hSB] at h; exact h))
  obtain ⟨aa, ca, rfl, hca⟩ := HAa.out.shape
  obtain ⟨ab, cb, rfl, hcb⟩ := HAb.out.shape
  obtain ⟨at0, ct, rfl⟩ := HAt.out.shape
  clear hoa hob hot hpa hpb hb hSA hSB
  have hw1 : w1.heap.size ≤ w1.heap.size := Nat.le_refl _
  obtain ⟨SS, hSS⟩ : ∃ SS, SS = weaveL SA SB ts 0 := ⟨_, rfl⟩
  have hSSl : SS.length = SA.length + SB.length := by rw [hSS, weaveL_len]
  have HSSL := Lib.hid hSSl
  have HIM := Lib.hid (show ∀ (W : World), RC W w1.heap.size (.slice aa SA.length ca) SA → RC W w1.heap.size (.slice ab SB.length cb) SB → RO W w1.heap.size (.slice at0 ts.length ct) ts → w1.heap.size ≤ W.heap.size → Calls Try.prog 26 #[.slice aa SA.length ca, .slice ab SB.length cb, .slice at0 ts.length ct] W (fun e w' => (∃ v, e = .returned v ∧ OS w' W.heap.size v SS) ∧ Below W.heap.size W w') from fun W h1 h2 h3 h4 => by rw [hSS]; exact implWeave_any _ _ _ SA SB ts W _ h1 h2 h3 h4 (by omega) (by omega) (by omega) HALL.out)
  have HSP := Lib.hid (show ∀ (W : World), RC W w1.heap.size (.slice aa SA.length ca) SA → RC W w1.heap.size (.slice ab SB.length cb) SB → RO W w1.heap.size (.slice at0 ts.length ct) ts → w1.heap.size ≤ W.heap.size → Calls Try.prog 27 #[.slice aa SA.length ca, .slice ab SB.length cb, .slice at0 ts.length ct] W (fun e w' => (∃ v, e = .returned v ∧ OS w' W.heap.size v SS) ∧ Below W.heap.size W w') from fun W h1 h2 h3 h4 => by rw [hSS]; exact specWeave_any _ _ _ SA SB ts W _ h1 h2 h3 h4 (by omega) (by omega) (by omega) HALL.out)
  clear hSSl hSS
  go_wp2_with fail
  refine (HIM.out _ HAa.out HAb.out HAt.out (Nat.le_refl _)).mono ?_
  rintro e w2 ⟨⟨v6, rfl, ho6⟩, hb⟩
  obtain ⟨a6, c6, rfl⟩ := ho6.reads.shape
  have HO6 := Lib.hid ho6
  have hw2 : w1.heap.size ≤ w2.heap.size := hb.size
  have HAa := Lib.hid (HAa.out.below hb)
  have HAb := Lib.hid (HAb.out.below hb)
  have HAt := Lib.hid (HAt.out.below hb)
  have HB := Lib.hid (HB.out.trans (hb.mono HB.out.size))
  clear ho6 hb
  go_wp2_with fail
  refine (HSP.out _ HAa.out HAb.out HAt.out hw2).mono ?_
  rintro e w3 ⟨⟨v7, rfl, ho7⟩, hb⟩
  obtain ⟨a7, c7, rfl⟩ := ho7.reads.shape
  have HO7 := Lib.hid ho7
  have HO6 := Lib.hid (HO6.out.below hb)
  have hw3 : w1.heap.size ≤ w3.heap.size := Nat.le_trans hw2 hb.size
  have HAa := Lib.hid (HAa.out.below (hb.mono hw2))
  have HAt := Lib.hid (HAt.out.below (hb.mono hw2))
  have HB := Lib.hid (HB.out.trans (hb.mono HB.out.size))
  clear ho7 hb
  go_wp2_with fail
  refine (ctTexts_same _ _ SS _ _ _ HO6.out.reads HO7.out.reads (Nat.le_refl _) (Nat.le_refl _) (by have := HSSL.out; omega)).mono ?_
  rintro e w4 ⟨rfl, hb⟩
  have hw4 : w1.heap.size ≤ w4.heap.size := Nat.le_trans hw3 hb.size
  have HAa := Lib.hid (HAa.out.below (hb.mono hw3))
  have HAt := Lib.hid (HAt.out.below (hb.mono hw3))
  have HB := Lib.hid (HB.out.trans (hb.mono HB.out.size))
  clear hb HO6 HO7 HIM HSP
  go_upto_region 9 with fail
  go_loopw [7, 8] (fun u i wr => ∃ k : Nat, k ≤ SA.length ∧ i = .int .i64 k ∧ OS wr w4.heap.size u (strs ((la.take k).filter not2)) ∧ Below w4.heap.size w4 wr) (fun _ i _ => SA.length - (intOf i).toNat)
  case atStart => exact ⟨0, Nat.zero_le _, rfl, OS_made w4 rfl, (Below.refl _ _).alloc (Nat.le_refl _) _⟩
  case round =>
    obtain ⟨k, hk, rfl, hown, hb⟩ := hrel
    have HO := Lib.hid hown
    have HBb := Lib.hid hb
    have HPL := Lib.hid (show ((la.take k).filter not2).length ≤ 200 from Nat.le_trans (List.length_filter_le _ _) (by rw [List.length_take]; omega))
    have HPS := Lib.hid (strs_len ((la.take k).filter not2))
    by_cases hlt : k < SA.length
    · have hkl : k < la.length := by have := HLA.out; omega
      have hrs : RS wr w1.heap.size (.slice aa SA.length ca) SA := (HAa.out.below (hb.mono hw4)).reads
      obtain ⟨x, hx, hxb, hc⟩ := hrs.at_ hlt
      have hsk : SA[k] = (⟨la[k].toArray⟩ : ByteArray) := by have h := HSA.out; subst h; exact strs_at hkl _
      have hok := HPA.out la[k] (List.getElem_mem _)
      have HFT := Lib.hid (filter_take hkl not2)
      have HRS := Lib.hid hrs
      subst hx
      rw [hsk] at hc
      obtain ⟨p, hp⟩ : ∃ p, p = la[k] := ⟨_, rfl⟩
      rw [← hp] at hc hok HFT
      obtain ⟨T, hT⟩ : ∃ T : ByteArray, T = ⟨p.toArray⟩ := ⟨_, rfl⟩
      have hTd : T.data.toList = p := by rw [hT]
      have hTs : T.size = p.length := by rw [hT]; rfl
      have hT0 : 0 < T.size := by rw [hTs]; exact hok.1
      rw [← hT] at hc
      have hch : chOf p = T[0].toNat % 128 := by rw [← hTd]; unfold chOf headN; rw [hd0 T hT0]
      have hb8 := UInt8.toNat_lt T[0]
      have hTe : strs [p] = [T] := by rw [hT]; rfl
      have HTE := Lib.hid hTe
      obtain ⟨c, hcc⟩ : ∃ c, c = T[0].toNat % 128 := ⟨_, rfl⟩
      have hci : (T[0].toNat : Int) % 128 = (c : Int) := by omega
      have hci2 : (T[0].toNat : Int).tmod 128 = (c : Int) := by rw [Int.tmod_eq_emod_of_nonneg (by omega)]; exact hci
      rw [← hcc] at hch
      have hcb : c < 128 := by omega
      have hgb : (T[0].toNat : Int) < 256 := by omega
      have HNP := Lib.hid (show not2 p = !decide (c = 2) by unfold not2; rw [hch])
      clear hown hb hrs hsk hok hp hT hTd hTs hch hcc hTe
      by_cases h2 : c = 2
      · have HN := Lib.hid (show strs ((la.take (k + 1)).filter not2) = strs ((la.take k).filter not2) by
          rw [HFT.out, HNP.out, if_neg (by rw [h2]; decide), List.append_nil])
        have hcb2 : ((c : Int) == 2) = true := by rw [beq_iff_eq]; omega
        clear h2
        go_wp2
        go_roundw
        case rel => exact ⟨k + 1, by omega, by go_num, by rw [HN.out]; exact HO.out, HBb.out⟩
        case measure => simp [intOf]; omega
      · have HN := Lib.hid (show strs ((la.take (k + 1)).filter not2) = strs ((la.take k).filter not2) ++ [T] by
          rw [HFT.out, HNP.out, if_pos (by simp [h2]), strs_append, HTE.out])
        have hcb2 : ((c : Int) == 2) = false := beq_eq_false_iff_ne.2 (by omega)
        clear h2
        go_wp2_with (at_builtin; refine wpList_append_os _ rfl _ _ 25 rfl w4.heap.size i0 Try.underlying25 HI.out HZ0.out HZ1.out HZ2.out _ _ rfl (HO.out.alloc _) _ _ [T] rfl (RS_one wr T) (by have := HPL.out; have := HPS.out; simp only [List.length_singleton]; omega) (by have := HBb.out.size; simp; omega) ?_; intro v3 w3' hown3 hg3 _)
        go_roundw
        case rel => exact ⟨k + 1, by omega, by go_num, by rw [HN.out]; exact hown3, (HBb.out.alloc HBb.out.size _).grown hg3 (by have := HBb.out.size; simp; omega) (fun j hj => (HO.out.low j hj).1)⟩
        case measure => simp [intOf]; omega
    · have hke : k = la.length := by have := HLA.out; omega
      have hone0 := hown
      rw [List.take_of_length_le (l := la) (Nat.le_of_eq hke.symm)] at hone0
      have HONE := Lib.hid hone0
      clear hone0
      have hwr : w1.heap.size ≤ wr.heap.size := Nat.le_trans hw4 hb.size
      have HAt := Lib.hid (HAt.out.below (hb.mono hw4))
      have HB := Lib.hid (HB.out.trans (hb.mono HB.out.size))
      obtain ⟨one, hone⟩ : ∃ one, one = la.filter not2 := ⟨_, rfl⟩
      have h1n : ∀ p ∈ one, not2 p = true := by rw [hone]; exact fun p hp => (List.mem_filter.1 hp).2
      have h1p : ∀ p ∈ one, pieceOk p := by rw [hone]; exact fun p hp => HPA.out p (List.mem_filter.1 hp).1
      have h1l : one.length ≤ 200 := by rw [hone]; exact Nat.le_trans (List.length_filter_le _ _) hla
      rw [← hone] at HONE
      obtain ⟨CUT, hCUT⟩ : ∃ CUT, CUT = cutL 2 3 (⟨#[98, 111, 116, 104, 32, 97, 114, 101, 32, 119, 104, 111, 108, 101]⟩ : ByteArray).data.toList := ⟨_, rfl⟩
      have hcl : CUT.length ≤ 41 := by rw [hCUT]; exact Nat.le_trans (cutL_len 2 3 _) (by decide)
      have hcp : ∀ p ∈ CUT, pieceOk p := by rw [hCUT]; exact cutL_ok 2 3 _ (by decide)
      have HCUT := Lib.hid (show ∀ W, Calls Try.prog 10 #[.int .i64 2, .string ⟨#[98, 111, 116, 104, 32, 97, 114, 101, 32, 119, 104, 111, 108, 101]⟩, .int .i64 3] W (fun e w' => (∃ v, e = .returned v ∧ OS w' W.heap.size v (strs CUT)) ∧ Below W.heap.size W w') from fun W => by
        have h := implMuxCut_any 2 ⟨#[98, 111, 116, 104, 32, 97, 114, 101, 32, 119, 104, 111, 108, 101]⟩ 3 W
        rw [cut_size _ (by decide)] at h
        rw [hCUT]; exact h)
      obtain ⟨WW, hWW⟩ : ∃ WW, WW = weaveL one CUT ts 0 := ⟨_, rfl⟩
      have hWl : WW.length = one.length + CUT.length := by rw [hWW, weaveL_len]
      have htells := weave_tells one h1n (⟨#[98, 111, 116, 104, 32, 97, 114, 101, 32, 119, 104, 111, 108, 101]⟩ : ByteArray).data.toList (by decide) ts
      rw [← hCUT, ← hWW] at htells
      obtain ⟨L, hL⟩ : ∃ L, L = allTold mux0 WW := ⟨_, rfl⟩
      rw [← hL] at htells
      obtain ⟨L1, hL1⟩ : ∃ L1, L1 = allTold mux0 one := ⟨_, rfl⟩
      rw [← hL1] at htells
      have hLl : L.length ≤ 300 := by rw [hL]; have := allTold_len mux0 WW; omega
      have hL1l : L1.length ≤ 300 := by rw [hL1]; have := allTold_len mux0 one; omega
      have hLz : ∀ e ∈ L, e.text.length ≤ 1048576 := by rw [hL]; exact fun e he => by have := (allTold_ok _ _ e he).2.2; omega
      have hL1z : ∀ e ∈ L1, e.text.length ≤ 1048576 := by rw [hL1]; exact fun e he => by have := (allTold_ok _ _ e he).2.2; omega
      have HT2 := Lib.hid (show strs (ofL L 2) = [(⟨#[98, 111, 116, 104, 32, 97, 114, 101, 32, 119, 104, 111, 108, 101]⟩ : ByteArray)] by have := htells.1; rw [show (2 : Int) = ((2 : Nat) : Int) from rfl, this]; rfl)
      have HT0 := Lib.hid (show ofL L 0 = ofL L1 0 from htells.2 0 (by omega))
      have HT1 := Lib.hid (show ofL L 1 = ofL L1 1 from htells.2 1 (by omega))
      have h1s : ∀ q ∈ strs one, q.size ≤ 1048576 := strs_mem (fun p hp => by have := (h1p p hp).2; omega)
      have hcs : ∀ q ∈ strs CUT, q.size ≤ 1048576 := strs_mem (fun p hp => by have := (hcp p hp).2; omega)
      have HALL2 := Lib.hid (show ∀ q ∈ strs one ++ strs CUT, q.size ≤ 1048576 from fun q hq => by
        rcases List.mem_append.1 hq with h | h
        · exact h1s q h
        · exact hcs q h)
      have HWS := Lib.hid (show ∀ q ∈ strs WW, q.size ≤ 1048576 from fun q hq => by
        refine strs_mem (ls := WW) (m := 1048576) (fun p hp => ?_) q hq
        rw [hWW] at hp
        rcases weave_mem hp with h | h
        · have := (h1p p h).2; omega
        · have := (hcp p h).2; omega)
      obtain ⟨S1, hS1⟩ : ∃ S1, S1 = strs one := ⟨_, rfl⟩
      obtain ⟨SC, hSC⟩ : ∃ SC, SC = strs CUT := ⟨_, rfl⟩
      obtain ⟨SW, hSW⟩ : ∃ SW, SW = strs WW := ⟨_, rfl⟩
      have hS1l : S1.length ≤ 200 := by rw [hS1, strs_len]; exact h1l
      have hSCl : SC.length ≤ 41 := by rw [hSC, strs_len]; exact hcl
      have hSWl : SW.length = S1.length + SC.length := by rw [hS1, hSC, hSW, strs_len, strs_len, strs_len]; exact hWl
      rw [← hS1] at HONE h1s HALL2
      rw [← hSC] at HCUT HALL2
      rw [← hSW] at HWS
      have HSWL := Lib.hid hSWl
      have HIM := Lib.hid (show ∀ (W : World) (v1 v2 : Value), RC W W.heap.size v1 S1 → RC W W.heap.size v2 SC → RO W w1.heap.size (.slice at0 ts.length ct) ts → w1.heap.size ≤ W.heap.size → Calls Try.prog 26 #[v1, v2, .slice at0 ts.length ct] W (fun e w' => (∃ v, e = .returned v ∧ OS w' W.heap.size v SW) ∧ Below W.heap.size W w') from fun W v1 v2 h1 h2 h3 h4 => by
        have h3' : RO W W.heap.size (.slice at0 ts.length ct) ts := by
          obtain ⟨a, c, e1, h5⟩ := h3
          exact ⟨a, c, e1, fun h0 => by obtain ⟨x, e2, h6, h7⟩ := h5 h0; exact ⟨x, e2, by omega, h7⟩⟩
        have e : weaveL S1 SC ts 0 = SW := by rw [hS1, hSC, hSW, hWW]; exact strs_weave one CUT ts
        rw [← e]; exact implWeave_any v1 v2 _ S1 SC ts W _ h1 h2 h3' (Nat.le_refl _) (by omega) (by omega) (by omega) HALL2.out)
      have HAW := Lib.hid (show ∀ (W : World) (v : Value), RS W W.heap.size v SW → Calls Try.prog 14 #[v] W (fun e w' => (∃ u, e = .returned u ∧ OE w' W.heap.size u L) ∧ Below W.heap.size W w') from fun W v h => by
        have := implMxAll_any v SW W _ h (Nat.le_refl _) (by omega) HWS.out
        rw [hSW, txts_strs, ← hL] at this; exact this)
      have HA1 := Lib.hid (show ∀ (W : World) (v : Value), RS W W.heap.size v S1 → Calls Try.prog 14 #[v] W (fun e w' => (∃ u, e = .returned u ∧ OE w' W.heap.size u L1) ∧ Below W.heap.size W w') from fun W v h => by
        have := implMxAll_any v S1 W _ h (Nat.le_refl _) (by omega) h1s
        rw [hS1, txts_strs, ← hL1] at this; exact this)
      have HOF := Lib.hid (fun (W : World) (v : Value) (ch : Int) (base : Nat) (h : OE W base v L) => implMuxOf_any v L ch W _ _ h.reads (Nat.le_refl _) (by omega) hLz)
      have HOF1 := Lib.hid (fun (W : World) (v : Value) (ch : Int) (base : Nat) (h : OE W base v L1) => implMuxOf_any v L1 ch W _ _ h.reads (Nat.le_refl _) (by omega) hL1z)
      have hofl := fun ch => ofL_len L ch
      obtain ⟨X0, hX0⟩ : ∃ X, X = strs (ofL L1 0) := ⟨_, rfl⟩
      obtain ⟨X1, hX1⟩ : ∃ X, X = strs (ofL L1 1) := ⟨_, rfl⟩
      have HX0 := Lib.hid (show X0.length ≤ 300 by rw [hX0, strs_len]; exact Nat.le_trans (ofL_len L1 0) hL1l)
      have HX1 := Lib.hid (show X1.length ≤ 300 by rw [hX1, strs_len]; exact Nat.le_trans (ofL_len L1 1) hL1l)
      have HXE0 := Lib.hid hX0
      have HXE1 := Lib.hid hX1
      unfold StrsPost at HOF HOF1
      clear hown hb hone h1n h1p h1l hCUT hcl hcp hWW hWl htells hL hL1 h1s hcs hS1 hSC hSW hSWl hLz hL1z hofl hX0 hX1 hke HPL HPS HPA HPB HALL HALL2 HWS
      go_wp2_with fail
      refine (HCUT.out _).mono ?_
      rintro e w5 ⟨⟨v9, rfl, ho9⟩, hb⟩
      obtain ⟨a9, c9, rfl⟩ := ho9.reads.shape
      have hw5 : w1.heap.size ≤ w5.heap.size := Nat.le_trans hwr hb.size
      have HO9 := Lib.hid ho9
      have HONE := Lib.hid (HONE.out.below hb)
      have HAt := Lib.hid (HAt.out.below (hb.mono hwr))
      have HB := Lib.hid (HB.out.trans (hb.mono HB.out.size))
      clear ho9 hb
      obtain ⟨a1, c1, rfl⟩ := HONE.out.reads.shape
      go_wp2_with fail
      refine (HIM.out _ _ _ (RC.of_own HONE.out) (RC.of_own HO9.out) HAt.out hw5).mono ?_
      rintro e w6 ⟨⟨v10, rfl, ho⟩, hb⟩
      obtain ⟨a10, c10, rfl⟩ := ho.reads.shape
      have hw6 : w1.heap.size ≤ w6.heap.size := Nat.le_trans hw5 hb.size
      have HO10 := Lib.hid ho
      have HONE := Lib.hid (HONE.out.below hb)
      have HB := Lib.hid (HB.out.trans (hb.mono HB.out.size))
      clear ho hb
      go_wp2_with fail
      refine (HAW.out _ _ HO10.out.reads).mono ?_
      rintro e w7 ⟨⟨v11, rfl, ho⟩, hb⟩
      obtain ⟨a11, c11, rfl⟩ := ho.reads.shape
      have HE := Lib.hid ho
      have HONE := Lib.hid (HONE.out.below hb)
      have HB := Lib.hid (HB.out.trans (hb.mono HB.out.size))
      clear ho hb
      have hq1 : ((SS.length : Int) == (SA.length : Int) + (SB.length : Int)) = true := by rw [beq_iff_eq]; have := HSSL.out; omega
      have hq2 : ((SW.length : Int) == (S1.length : Int) + (SC.length : Int)) = true := by rw [beq_iff_eq]; have := HSWL.out; omega
      go_wp2_with fail
      refine (HOF.out _ _ 2 _ HE.out).mono ?_
      rintro e w8 ⟨⟨v12, rfl, ho⟩, hb⟩
      rw [HT2.out] at ho
      obtain ⟨a12, c12, rfl⟩ := ho.reads.shape
      have HO12 := Lib.hid (ho.alloc (.cells #[.string ⟨#[98, 111, 116, 104, 32, 97, 114, 101, 32, 119, 104, 111, 108, 101]⟩] 9))
      have HE := Lib.hid ((HE.out.below hb).below ((Below.refl _ _).alloc (Nat.le_refl _) (.cells #[.string ⟨#[98, 111, 116, 104, 32, 97, 114, 101, 32, 119, 104, 111, 108, 101]⟩] 9)))
      have HONE := Lib.hid ((HONE.out.below hb).alloc (.cells #[.string ⟨#[98, 111, 116, 104, 32, 97, 114, 101, 32, 119, 104, 111, 108, 101]⟩] 9))
      have HB := Lib.hid ((HB.out.trans (hb.mono HB.out.size)).alloc (Nat.le_trans HB.out.size hb.size) (.cells #[.string ⟨#[98, 111, 116, 104, 32, 97, 114, 101, 32, 119, 104, 111, 108, 101]⟩] 9))
      clear ho hb
      go_wp2_with fail
      refine (ctTexts_same _ _ [(⟨#[98, 111, 116, 104, 32, 97, 114, 101, 32, 119, 104, 111, 108, 101]⟩ : ByteArray)] _ _ _ HO12.out.reads (RS_one w8 ⟨#[98, 111, 116, 104, 32, 97, 114, 101, 32, 119, 104, 111, 108, 101]⟩) (Nat.le_refl _) (by simp) (by simp)).mono ?_
      rintro e w9 ⟨rfl, hb⟩
      have HE := Lib.hid (HE.out.below hb)
      have HONE := Lib.hid (HONE.out.below hb)
      have HB := Lib.hid (HB.out.trans (hb.mono HB.out.size))
      clear hb HO12
      go_wp2_with fail
      refine (HOF.out _ _ 0 _ HE.out).mono ?_
      rintro e x00 ⟨⟨u0, rfl, ho⟩, hb⟩
      rw [HT0.out, ← HXE0.out] at ho
      obtain ⟨au0, cu0, rfl⟩ := ho.reads.shape
      have HU := Lib.hid ho
      have HE := Lib.hid (HE.out.below hb)
      have HONE := Lib.hid (HONE.out.below hb)
      have HB := Lib.hid (HB.out.trans (hb.mono HB.out.size))
      clear ho hb
      go_wp2_with fail
      refine (HA1.out _ _ HONE.out.reads).mono ?_
      rintro e x01 ⟨⟨t0, rfl, ho⟩, hb⟩
      obtain ⟨at0, ct0, rfl⟩ := ho.reads.shape
      have HT := Lib.hid ho
      have HU := Lib.hid (HU.out.below hb)
      have HE := Lib.hid (HE.out.below hb)
      have HONE := Lib.hid (HONE.out.below hb)
      have HB := Lib.hid (HB.out.trans (hb.mono HB.out.size))
      clear ho hb
      go_wp2_with fail
      refine (HOF1.out _ _ 0 _ HT.out).mono ?_
      rintro e x02 ⟨⟨s0, rfl, ho⟩, hb⟩
      rw [← HXE0.out] at ho
      obtain ⟨as0, cs0, rfl⟩ := ho.reads.shape
      have HS := Lib.hid ho
      have HU := Lib.hid (HU.out.below hb)
      have HE := Lib.hid (HE.out.below hb)
      have HONE := Lib.hid (HONE.out.below hb)
      have HB := Lib.hid (HB.out.trans (hb.mono HB.out.size))
      clear ho hb
      go_wp2_with fail
      refine (ctTexts_same _ _ X0 _ _ _ HU.out.reads HS.out.reads (Nat.le_refl _) (Nat.le_refl _) (by have := HX0.out; omega)).mono ?_
      rintro e x03 ⟨rfl, hb⟩
      have HE := Lib.hid (HE.out.below hb)
      have HONE := Lib.hid (HONE.out.below hb)
      have HB := Lib.hid (HB.out.trans (hb.mono HB.out.size))
      clear hb HU HS HT
      go_wp2_with fail
      refine (HOF.out _ _ 1 _ HE.out).mono ?_
      rintro e x10 ⟨⟨u1, rfl, ho⟩, hb⟩
      rw [HT1.out, ← HXE1.out] at ho
      obtain ⟨au1, cu1, rfl⟩ := ho.reads.shape
      have HU := Lib.hid ho
      have HE := Lib.hid (HE.out.below hb)
      have HONE := Lib.hid (HONE.out.below hb)
      have HB := Lib.hid (HB.out.trans (hb.mono HB.out.size))
      clear ho hb
      go_wp2_with fail
      refine (HA1.out _ _ HONE.out.reads).mono ?_
      rintro e x11 ⟨⟨t1, rfl, ho⟩, hb⟩
      obtain ⟨at1, ct1, rfl⟩ := ho.reads.shape
      have HT := Lib.hid ho
      have HU := Lib.hid (HU.out.below hb)
      have HE := Lib.hid (HE.out.below hb)
      have HONE := Lib.hid (HONE.out.below hb)
      have HB := Lib.hid (HB.out.trans (hb.mono HB.out.size))
      clear ho hb
      go_wp2_with fail
      refine (HOF1.out _ _ 1 _ HT.out).mono ?_
      rintro e x12 ⟨⟨s1, rfl, ho⟩, hb⟩
      rw [← HXE1.out] at ho
      obtain ⟨as1, cs1, rfl⟩ := ho.reads.shape
      have HS := Lib.hid ho
      have HU := Lib.hid (HU.out.below hb)
      have HE := Lib.hid (HE.out.below hb)
      have HONE := Lib.hid (HONE.out.below hb)
      have HB := Lib.hid (HB.out.trans (hb.mono HB.out.size))
      clear ho hb
      go_wp2_with fail
      refine (ctTexts_same _ _ X1 _ _ _ HU.out.reads HS.out.reads (Nat.le_refl _) (Nat.le_refl _) (by have := HX1.out; omega)).mono ?_
      rintro e x13 ⟨rfl, hb⟩
      have HE := Lib.hid (HE.out.below hb)
      have HONE := Lib.hid (HONE.out.below hb)
      have HB := Lib.hid (HB.out.trans (hb.mono HB.out.size))
      clear hb HU HS HT
      go_wp2
      go_ret
      exact ⟨rfl, HB.out⟩
theorem own : ownKnob Try.prog.godebug = none := by kernel_rfl
theorem laidOut : laidOutB Try.prog = true := by kernel_rfl
set_option maxRecDepth 100000 in
theorem lifted (os : Os) (started : os.Started) (H : Type) (enc : TypeId × Value → H) :
    ReturnsInHanded {} Try.checked os 6 .any (Rows.fnMuxWeaveSpec.pre6 enc Try.prog Try.f6 Rows.fnMuxWeaveRow.domain false) (Rows.fnMuxWeaveSpec.post enc Try.prog Try.f6 false true false false) := by
  refine returnsInHanded_of_change (C := Try.checked) own started (by kernel_rfl) Try.func6
    (ChangeSpec.witness6 (enc := enc) (C := Try.checked) false ⟨#[], #[.slice none 0 0], []⟩ 8 (by kernel_rfl) (by kernel_rfl) (by kernel_rfl) (by kernel_rfl)) ?_
  intro W base args ds gs before hval0 hW hcnd _
  have hval : ∀ (j : Nat) t v, Try.f6.params[j]? = some t → args[j]? = some v → Value.okWide Try.prog W .any base t v := hval0
  have hW' := hW
  obtain ⟨p, q, hA0, hV, rfl, hfz, hnd⟩ := hW
  have hA : DataW.TrodAll enc Try.prog W 0 (fun _ => true) true Try.f6.params.toList args.toList ds p := hA0
  rw [Try.params6] at hA hval
  obtain ⟨v0, vs0, d0, ds0, p0, q0, hargs, rfl, rfl, h0, r0⟩ := trodAll_cons hA
  obtain ⟨rfl, rfl, rfl⟩ := trodAll_nil r0
  obtain rfl : args = #[v0] := by cases args; simp_all
  obtain ⟨rfl, rfl⟩ := trodVars_none hV
  obtain ⟨a0, len0, cap0, rfl⟩ := okWide_slice Try.underlying22 (hval 0 22 v0 rfl rfl)
  have k0 := h0
  have lt0 : ∀ x ∈ p0, x.block < W.heap.size := by obtain ⟨m, hm⟩ := k0; exact DataW.trod_lt m _ _ _ hm
  obtain ⟨z0, w0⟩ : ∃ zs, IsRow .u8 W a0 len0 cap0 zs := by
    obtain ⟨fuel, hf⟩ := h0
    rcases open_ints Try.underlying22 Try.underlying5 (by kernel_rfl) hf with ⟨hcs, _⟩ | ⟨x, l, c, zs, hcs, _, hl, hm, hz, _, hcell, hwz⟩
    · simp [Value.cells] at hcs
      obtain ⟨rfl, rfl, rfl⟩ := hcs
      exact ⟨[], .inl ⟨rfl, rfl, rfl, rfl⟩⟩
    · simp [Value.cells] at hcs
      obtain ⟨rfl, rfl, rfl⟩ := hcs
      exact ⟨zs, .inr ⟨_, rfl, hl, hm, by simpa using hz, hcell, hwz⟩⟩
  clear hA0 hval0
  refine (walk a0 len0 cap0 z0 W w0).mono fun e W' ⟨he, bel⟩ => ?_
  subst he
  exact ⟨_, rfl, _, _, _, [], _, [], hW', trodAll_mk1 (shut_bool Try.underlying4 _), (trodAll_cons_mk (Below.trod laidOut (by kernel_rfl) (of_decide_eq_true (by kernel_rfl)) k0 bel lt0) trodAll_mk0), rfl, bel.frame _, fun h => by cases h⟩
theorem over : Rows.fnMuxWeaveRow.holds Try.pinned (OpenSpec.ofChange Rows.fnMuxWeaveSpec) :=
  OpenClaim.holds_of_wide 6 Try.f6 rfl rfl rfl rfl rfl rfl rfl ⟨rfl, rfl, rfl, rfl, rfl⟩ rfl rfl rfl rfl rfl (by kernel_rfl) Try.func6 (by kernel_rfl)
    (of_decide_eq_true (by kernel_rfl)) (by unfold Func.isWrapper; first | (rw [if_pos (by decide +kernel)]; kernel_rfl) | (rw [if_neg (by decide +kernel)]; exact ⟨rfl, rfl⟩))
    (fun os started H enc _ => lifted os started H enc)
theorem proved : Rows.FnMuxWeaveSaid := over
end Go.Proofs.Ytplaagkcamjemaa.fnMuxWeave
