/- Nets in the model: figures, a text cut once, a number. -/
import Derived.Test.YtiknnebeaigkfaaDoorNetP
import Derived.Test.YtiknnebeaigkfaaDoorOs
import Derived.Test.YtiknnebeaigkfaaDoorKitA
import Derived.Test.YtiknnebeaigkfaaDoorKitBits
import Derived.Test.YtiknnebeaigkfaaDoorKitDraw
import Derived.Test.YtiknnebeaigkfaaDoorDrawD
import Derived.Deep.RegionWith
namespace Go.Proofs.YtiknnebeaigkfaaDoor
open Go.ChangeShapes Go.WideShapes Go.ChangeAt Go.RowKit
open Go.Lib (decDigits itoa)
theorem nx_to (s : ByteArray) (k : Nat) : s.extract 0 k = ⟨(s.data.toList.take k).toArray⟩ := by
  rw [← Lib.mk_data (s.extract 0 k)]; congr 2; simp
theorem nx_from (s : ByteArray) (k : Nat) : s.extract k s.size = ⟨(s.data.toList.drop k).toArray⟩ := by
  rw [← Lib.mk_data (s.extract k s.size)]; congr 2; simp [List.take_of_length_le]
theorem nsl_to (s : ByteArray) (k : Nat) (hk : k ≤ s.size) (u : World) : (Instr.slice 9 (.string s) none (some (.int .i64 (k : Int))) none).run Tryd.prog u = .ok (.string (s.extract 0 k)) u := by
  rw [run_slice_string_to_if u 9 s .i64 (k : Int) Tryd.underlying9]
  simp [hk]
theorem nsl_from (s : ByteArray) (k : Nat) (hk : k ≤ s.size) (u : World) : (Instr.slice 9 (.string s) (some (.int .i64 (k : Int))) none none).run Tryd.prog u = .ok (.string (s.extract k s.size)) u := by
  rw [run_slice_string_from_if u 9 s .i64 (k : Int) Tryd.underlying9]
  simp [hk]
theorem conv_kept {X w3 : World} {g : Nat} {b : UInt8} (hX : X.heap[g]? = some (.cells #[.int .u8 (b.toNat : Int)] 5 (0, 0))) (h : Below X.heap.size X w3) :
    (convert 22 9 (.slice (some ⟨g, 0, none⟩) 1 1)).run Tryd.prog w3 = .ok (.string ⟨#[b]⟩) w3 := by
  have hg := (Array.getElem?_eq_some_iff.1 hX).1
  exact run_string_of_OB (P := Tryd.prog) _ 22 9 5 g _ [b] Tryd.underlying22 Tryd.underlying5 Tryd.underlying9
    (.inr ⟨g, 1, #[.int .u8 (b.toNat : Int)], (0, 0), rfl, Nat.le_refl _, (h.block g hg).trans hX, .inl rfl, Nat.le_refl _, by unfold maxLen; omega, rfl, rfl⟩)
set_option maxRecDepth 100000 in
set_option maxHeartbeats 800000 in
theorem l1Dec_any (n : Nat) : ∀ (_ : n ≤ 1000000) (w : World), Calls Tryd.prog 25 #[.int .i64 (n : Int)] w fun e w' => e = .returned (.string ⟨(decDigits n).toArray⟩) ∧ Below w.heap.size w w' := by
  induction n using Nat.strongRecOn with
  | ind n ih =>
    intro hn w
    have IH := Lib.hid ih
    clear ih
    have hcv := run_string_one
    by_cases h : n < 10
    · obtain ⟨b, hb⟩ : ∃ b : UInt8, b = UInt8.ofNat (48 + n) := ⟨_, rfl⟩
      have hbn : b.toNat = 48 + n := by rw [hb, fig_toNat h]
      have hbw : ∀ u : World, (convert 22 9 (.slice (some ⟨u.heap.size, 0, none⟩) 1 1)).run Tryd.prog (u.alloc (.cells #[.int .u8 (48 + (n : Int))] 5)) = .ok (.string ⟨#[b]⟩) (u.alloc (.cells #[.int .u8 (48 + (n : Int))] 5)) := fun u => by
        have := hcv u b
        rw [show (b.toNat : Int) = 48 + (n : Int) by omega] at this
        exact this
      have HD := Lib.hid (show decDigits n = [b] by rw [dec_small h, hb])
      clear hb hbn hcv
      go_enter Tryd.func25, Tryd.ntmps25
      go_wp2
      go_ret
      exact ⟨by rw [HD.out]; rfl, (Below.refl _ _).alloc (Nat.le_refl _) _⟩
    · obtain ⟨d, hd⟩ : ∃ d, d = n % 10 := ⟨_, rfl⟩
      obtain ⟨q, hq⟩ : ∃ q, q = n / 10 := ⟨_, rfl⟩
      obtain ⟨b, hb⟩ : ∃ b : UInt8, b = UInt8.ofNat (48 + d) := ⟨_, rfl⟩
      have hbn : b.toNat = 48 + d := by rw [hb, fig_toNat (by omega)]
      have hw1 : IntKind.i64.wrap (q : Int) = (q : Int) := wrap_in _ (by omega) (by omega)
      have hw2 : IntKind.i64.wrap (48 + (d : Int)) = 48 + (d : Int) := wrap_in _ (by omega) (by omega)
      have hw3 : IntKind.u8.wrap (48 + (d : Int)) = (b.toNat : Int) := by rw [hbn]; rw [show IntKind.u8.wrap (48 + (d : Int)) = (48 + (d : Int)) % 256 from rfl]; omega
      have HD := Lib.hid (show decDigits n = decDigits q ++ [b] by rw [dec_big h, hb, hd, hq])
      have hd1 : (n : Int) % 10 = (d : Int) := by omega
      have hd2 : (n : Int).tmod 10 = (d : Int) := by rw [Int.tmod_eq_emod_of_nonneg (by omega)]; exact hd1
      have hq1 : (n : Int) / 10 = (q : Int) := by omega
      have hq2 : (n : Int).tdiv 10 = (q : Int) := by rw [Int.tdiv_eq_ediv_of_nonneg (by omega)]; exact hq1
      have hdb : d < 10 := by omega
      have hqn : q < n := by omega
      have hn10 : ¬ ((n : Int) < 10) := by omega
      clear hb hbn hd hq
      obtain ⟨Q, hQ⟩ : ∃ Q : ByteArray, Q = ⟨(decDigits q).toArray⟩ := ⟨_, rfl⟩
      have hQs : Q.size ≤ 7 := by rw [hQ, size_of_list]; exact dec_len 6 q (by omega)
      have IQ := Lib.hid (fun W => IH.out q hqn (by omega) W)
      rw [← hQ] at IQ
      have HV := Lib.hid (show Q ++ ⟨#[b]⟩ = ⟨(decDigits n).toArray⟩ by rw [HD.out, hQ]; exact (Lib.mk_data _).symm.trans (by congr 1))
      clear hQ
      have hcvd := conv_kept (X := (w.alloc (.cells #[.int .u8 (b.toNat : Int)] 5)).drew) (b := b) (g := w.heap.size) (heap_alloc_new w _) (Below.refl _ _)
      go_enter Tryd.func25, Tryd.ntmps25
      go_wp2_with fail
      go_region_with (first | (go_at_call 25; refine (IQ.out _).mono ?_; rintro e w3 ⟨rfl, hb3⟩; have HB3 := Lib.hid hb3; (first | (have hcv3 := conv_kept (X := (w.alloc (.cells #[.int .u8 (b.toNat : Int)] 5)).drew) (b := b) (g := w.heap.size) (heap_alloc_new w _) hb3) | skip); clear hb3))
      all_goals go_wp2
      all_goals go_ret
      all_goals refine ⟨by rw [← HV.out]; rfl, ?_⟩
      all_goals first
        | exact (Below.refl _ _).drew.trans HB3.out
        | exact (((Below.refl _ _).drew.trans HB3.out).alloc HB3.out.size _)
        | exact (((Below.refl w.heap.size w).alloc (Nat.le_refl _) _).drew).trans (HB3.out.mono (by simp))
theorem word_at {t : List UInt8} {k : Nat} (hk : k < t.length) (h : t[k] = 58) (hno : ∀ j (hj : j < k), t[j]'(by omega) ≠ 58) : 58 ∈ t ∧ wordL t = t.take k ∧ restL t = t.drop (k + 1) := by
  have e : t = t.take k ++ 58 :: t.drop (k + 1) := by
    conv => lhs; rw [← List.take_append_drop k t]
    rw [List.drop_eq_getElem_cons hk, h]
  have hw := word_of (d := t.take k) (r := t.drop (k + 1)) (fun c hc => by
    obtain ⟨i, hi, rfl⟩ := List.mem_iff_getElem.1 hc
    rw [List.getElem_take]
    exact hno i (by rw [List.length_take] at hi; omega))
  rw [← e] at hw
  refine ⟨by rw [← h]; exact List.getElem_mem hk, hw.1, hw.2⟩
theorem word_all {t : List UInt8} (hno : ∀ j (hj : j < t.length), t[j] ≠ 58) : 58 ∉ t := by
  intro h
  obtain ⟨i, hi, e⟩ := List.mem_iff_getElem.1 h
  exact hno i hi e
/-- a text cut once at a colon -/
def cutN (s : ByteArray) : List ByteArray := if 58 ∈ s.data.toList then [⟨(wordL s.data.toList).toArray⟩, ⟨(restL s.data.toList).toArray⟩] else [s]
def CutNPost (w : World) (s : ByteArray) (e : Ending) (w' : World) : Prop := (∃ v, e = .returned v ∧ OS w' w.heap.size v (cutN s)) ∧ Below w.heap.size w w'
set_option maxRecDepth 100000 in
set_option maxHeartbeats 800000 in
theorem l1CutN_any (s : ByteArray) (w : World) (hs : s.size ≤ 1048576) :
    Calls Tryd.prog 31 #[.string s, .int .u8 58, .int .i64 1] w (CutNPost w s) := by
  obtain ⟨i0, hi, hz0, hz1, hz2⟩ := info_parts info_str
  have HI := Lib.hid hi
  have HZ0 := Lib.hid hz0
  have HZ1 := Lib.hid hz1
  have HZ2 := Lib.hid hz2
  have HSL := Lib.hid (size_list s)
  clear hi hz0 hz1 hz2
  go_enter Tryd.func31, Tryd.ntmps31
  go_wp2
  go_loopw [7, 8, 9] (fun v f i wr => ∃ (k : Nat) (ss : List ByteArray) (n : Nat), i = .int .i64 k ∧ f = .int .i64 n ∧ OS wr w.heap.size v ss ∧ Below w.heap.size w wr ∧ k ≤ s.size ∧ ((ss = [] ∧ n = 0 ∧ ∀ j (hj : j < k) (hs : j < s.size), s[j].toNat ≠ 58) ∨ (n = k ∧ ∃ (m : Nat) (hm : m < s.size), k = m + 1 ∧ ss = [s.extract 0 m] ∧ s[m].toNat = 58 ∧ ∀ j (hj : j < m), s[j].toNat ≠ 58))) (fun _ _ i _ => s.size - (intOf i).toNat)
  case atStart => exact ⟨0, [], 0, rfl, rfl, OS_made w rfl, (Below.refl _ _).alloc (Nat.le_refl _) _, Nat.zero_le _, .inl ⟨rfl, rfl, fun j hj => absurd hj (by omega)⟩⟩
  case round =>
    obtain ⟨k, ss, n, rfl, rfl, hown, hb, hk, hcase⟩ := hrel
    have HO := Lib.hid hown
    have HB := Lib.hid hb
    obtain ⟨va, vc, rfl⟩ := hown.reads.shape
    clear hown hb
    rcases hcase with ⟨rfl, rfl, hno⟩ | ⟨rfl, m, hm, rfl, rfl, h58, hno⟩
    · have HNO := Lib.hid hno
      clear hno
      by_cases hlt : k < s.size
      · by_cases hc : s[k].toNat = 58
        · have hcb : ((s[k].toNat : Int) == 58) = true := by rw [beq_iff_eq]; omega
          have hsm : ∀ u : World, (Instr.slice 9 (.string s) (some (.int .i64 0)) (some (.int .i64 (k : Int))) none).run Tryd.prog u = .ok (.string (s.extract 0 k)) u := fun u => by
            rw [run_slice_string u 9 s .i64 .i64 0 (k : Int) Tryd.underlying9 (by omega) (by omega) (by omega)]
            simp
          obtain ⟨P, hP⟩ : ∃ P : ByteArray, P = s.extract 0 k := ⟨_, rfl⟩
          rw [← hP] at hsm
          have HP := Lib.hid hP
          have HC := Lib.hid hc
          clear hc hP
          go_wp2_with (at_builtin; refine wpList_append_os _ rfl _ _ 29 rfl w.heap.size i0 Tryd.underlying29 HI.out HZ0.out HZ1.out HZ2.out _ [] rfl (HO.out.alloc _) _ _ [P] rfl (RS_one wr P) (by simp) (by have := HB.out.size; simp; omega) ?_; intro v2 w2 hos2 hg2 hat2)
          go_roundw
          case rel =>
            exact ⟨k + 1, [P], k + 1, by go_num, by go_num, hos2, (HB.out.alloc HB.out.size _).grown hg2 (by have := HB.out.size; simp; omega) (fun j hj => (HO.out.low j hj).1), by omega, .inr ⟨rfl, k, hlt, rfl, by rw [HP.out], HC.out, fun j hj => HNO.out j hj (by omega)⟩⟩
          case measure => simp [intOf]; omega
        · have hcb : ((s[k].toNat : Int) == 58) = false := beq_eq_false_iff_ne.2 (by omega)
          have HC := Lib.hid hc
          clear hc
          go_wp2
          go_roundw
          case rel =>
            exact ⟨k + 1, [], 0, by go_num, rfl, HO.out, HB.out, by omega, .inl ⟨rfl, rfl, fun j hj hs => by
              by_cases e : j = k
              · subst e; exact HC.out
              · exact HNO.out j (by omega) hs⟩⟩
          case measure => simp [intOf]; omega
      · have HN := Lib.hid (show cutN s = [s] by
          unfold cutN
          rw [if_neg]
          refine word_all fun j hj e => HNO.out j (by rw [HSL.out] at hj; omega) (by rw [HSL.out] at hj; omega) ?_
          have : s[j]'(by rw [HSL.out] at hj; omega) = 58 := e
          rw [this]; rfl)
        have hsm : ∀ u : World, (Instr.slice 9 (.string s) (some (.int .i64 0)) none none).run Tryd.prog u = .ok (.string s) u := fun u => by
          have := nsl_from s 0 (by omega) u
          rw [nx_from, List.drop_zero, Lib.mk_data] at this
          exact this
        go_wp2_with (at_builtin; refine wpList_append_os _ rfl _ _ 29 rfl w.heap.size i0 Tryd.underlying29 HI.out HZ0.out HZ1.out HZ2.out _ [] rfl (HO.out.alloc _) _ _ [s] rfl (RS_one wr s) (by simp) (by have := HB.out.size; simp; omega) ?_; intro v2 w2 hos2 hg2 hat2)
        go_ret
        exact ⟨⟨_, rfl, by rw [HN.out]; exact hos2⟩, (HB.out.alloc HB.out.size _).grown hg2 (by have := HB.out.size; simp; omega) (fun j hj => (HO.out.low j hj).1)⟩
    · have hml : m < s.data.toList.length := by rw [HSL.out]; exact hm
      obtain ⟨n1, n2, n3⟩ := word_at hml (show s.data.toList[m] = 58 from UInt8.toNat_inj.1 h58) (fun j hj e => hno j hj (by have : s[j]'(by omega) = 58 := e; rw [this]; rfl))
      have hsm := nsl_from s (m + 1) (by omega)
      obtain ⟨P, hP⟩ : ∃ P : ByteArray, P = s.extract (m + 1) s.size := ⟨_, rfl⟩
      rw [← hP] at hsm
      have HN := Lib.hid (show cutN s = [s.extract 0 m] ++ [P] by
        unfold cutN
        rw [if_pos n1, n2, n3, hP, nx_to, nx_from]
        rfl)
      clear hP h58 hno n1 n2 n3 hml
      obtain ⟨k, hkk⟩ : ∃ k, k = m + 1 := ⟨_, rfl⟩
      rw [← hkk] at hsm hk ⊢
      generalize s.extract 0 m = S0 at *
      clear hkk
      by_cases hlt : k < s.size <;>
      · go_wp2_with (at_builtin; refine wpList_append_os _ rfl _ _ 29 rfl w.heap.size i0 Tryd.underlying29 HI.out HZ0.out HZ1.out HZ2.out _ [S0] rfl (HO.out.alloc _) _ _ [P] rfl (RS_one wr P) (by simp) (by have := HB.out.size; simp; omega) ?_; intro v2 w2 hos2 hg2 hat2)
        go_ret
        exact ⟨⟨_, rfl, by rw [HN.out]; exact hos2⟩, (HB.out.alloc HB.out.size _).grown hg2 (by have := HB.out.size; simp; omega) (fun j hj => (HO.out.low j hj).1)⟩
set_option maxRecDepth 100000 in
set_option maxHeartbeats 800000 in
theorem l1Num_any (s : ByteArray) (w : World) :
    Calls Tryd.prog 32 #[.string s] w fun e w' => e = .returned (.int .i64 (numL s.data.toList)) ∧ w = w' := by
  have HSL := Lib.hid (size_list s)
  go_enter Tryd.func32, Tryd.ntmps32
  go_wp2
  go_loop [3, 4] (fun n i => ∃ (k : Nat), i = .int .i64 k ∧ n = .int .i64 (numV (s.data.toList.take k)) ∧ k ≤ s.size ∧ k ≤ 6 ∧ (s.data.toList.take k).all digB = true) (fun _ i => s.size - (intOf i).toNat)
  case atStart => exact ⟨0, rfl, rfl, Nat.zero_le _, Nat.zero_le _, rfl⟩
  case round =>
    obtain ⟨k, rfl, rfl, hk, hk6, hall⟩ := hrel
    have HALL := Lib.hid hall
    clear hall
    by_cases hlt : k < s.size
    · have hkl : k < s.data.toList.length := by rw [HSL.out]; exact hlt
      have HT := Lib.hid (num_take hkl)
      have HBD := Lib.hid (fun h => num_bad hkl h)
      have HTA := Lib.hid (show (s.data.toList.take (k + 1)).all digB = ((s.data.toList.take k).all digB && digB s[k]) by
        rw [List.take_succ_eq_append_getElem hkl, List.all_append]; simp; rfl)
      have hb := UInt8.toNat_lt s[k]
      have HDG := Lib.hid (show digB s[k] = decide (48 ≤ s[k].toNat ∧ s[k].toNat ≤ 57) from rfl)
      have hge : s.data.toList[k] = s[k] := rfl
      rw [hge] at HT HBD
      have hvl : numV (s.data.toList.take k) < 10 ^ k := numV_lt k _ (by rw [List.length_take]; omega) HALL.out
      have hv6 : 10 ^ k ≤ 10 ^ 6 := Nat.pow_le_pow_right (by omega) hk6
      obtain ⟨c, hc⟩ : ∃ c, c = s[k].toNat := ⟨_, rfl⟩
      by_cases h1 : c < 48
      · have HV := Lib.hid (HBD.out (.inl (by rw [HDG.out]; exact decide_eq_false (by omega))))
        clear hvl hv6
        go_wp2
        go_ret
        exact ⟨by rw [HV.out]; rfl, rfl⟩
      · by_cases h2 : 57 < c
        · have HV := Lib.hid (HBD.out (.inl (by rw [HDG.out]; exact decide_eq_false (by omega))))
          clear hvl hv6
          go_wp2
          go_ret
          exact ⟨by rw [HV.out]; rfl, rfl⟩
        · by_cases h6 : 6 ≤ k
          · have HV := Lib.hid (HBD.out (.inr h6))
            clear hvl hv6
            go_wp2
            go_ret
            exact ⟨by rw [HV.out]; rfl, rfl⟩
          · have hn : numV (s.data.toList.take k) ≤ 1000000 := by omega
            have HT2 := Lib.hid (show numV (s.data.toList.take (k + 1)) = numV (s.data.toList.take k) * 10 + (c - 48) by rw [HT.out, hc])
            have HA2 := Lib.hid (show (s.data.toList.take (k + 1)).all digB = true by rw [HTA.out, HALL.out, HDG.out, decide_eq_true (by omega)]; rfl)
            clear hvl hv6 HTA HT HBD HDG
            generalize numV (s.data.toList.take k) = N at *
            go_wp2
            go_round
            case rel => exact ⟨k + 1, by go_num, by rw [HT2.out]; exact val_int (by omega), by omega, by omega, HA2.out⟩
            case measure => simp [intOf]; omega
    · have hke : k = s.size := by omega
      have hall2 := HALL.out
      rw [List.take_of_length_le (by rw [HSL.out]; omega)] at hall2 ⊢
      have HNUM := Lib.hid (show numL s.data.toList = if 1 ≤ s.size ∧ ¬ (1 < s.size ∧ s.data.toList.headD 0 = 48) then (numV s.data.toList : Int) else -1 by
        unfold numL numOkB
        rw [hall2, HSL.out, Bool.true_and]
        by_cases a : 1 ≤ s.size
        · rw [decide_eq_true ⟨a, by omega⟩, Bool.true_and]
          by_cases b : 1 < s.size ∧ s.data.toList.headD 0 = 48
          · rw [decide_eq_true b, if_neg (by decide), if_neg (fun h => h.2 b)]
          · rw [decide_eq_false b, if_pos (by decide), if_pos ⟨a, b⟩]
        · rw [decide_eq_false (fun h => a h.1), Bool.false_and, if_neg (by decide), if_neg (fun h => a h.1)])
      clear hall2 HALL hke
      by_cases h0 : s.size = 0
      · have HV := Lib.hid (HNUM.out.trans (if_neg (fun h => by omega)))
        go_wp2
        go_ret
        exact ⟨by rw [HV.out]; rfl, rfl⟩
      · have hb0 : ((s.size : Int) == 0) = false := beq_eq_false_iff_ne.2 (by omega)
        by_cases h1 : 1 < s.size
        · have hh : s.data.toList.headD 0 = s[0] := by
            have e := List.drop_eq_getElem_cons (l := s.data.toList) (i := 0) (by rw [HSL.out]; omega)
            rw [List.drop_zero] at e
            rw [e]; rfl
          by_cases h48 : s[0].toNat = 48
          · have HV := Lib.hid (HNUM.out.trans (if_neg (fun h => h.2 ⟨h1, by rw [hh]; exact UInt8.toNat_inj.1 h48⟩)))
            have hb48 : ((s[0].toNat : Int) == 48) = true := by rw [beq_iff_eq]; omega
            clear h48
            go_wp2
            go_ret
            exact ⟨by rw [HV.out]; rfl, rfl⟩
          · have HV := Lib.hid (HNUM.out.trans (if_pos ⟨by omega, fun h => h48 (by have e := h.2; rw [hh] at e; rw [e]; rfl)⟩))
            have hb48 : ((s[0].toNat : Int) == 48) = false := beq_eq_false_iff_ne.2 (by omega)
            clear h48
            go_wp2
            go_ret
            exact ⟨by rw [HV.out]; rfl, rfl⟩
        · have HV := Lib.hid (HNUM.out.trans (if_pos ⟨by omega, fun h => h1 h.1⟩))
          have h1i : ¬ (1 < (s.size : Int)) := by omega
          go_wp2
          go_ret
          exact ⟨by rw [HV.out]; rfl, rfl⟩
end Go.Proofs.YtiknnebeaigkfaaDoor
