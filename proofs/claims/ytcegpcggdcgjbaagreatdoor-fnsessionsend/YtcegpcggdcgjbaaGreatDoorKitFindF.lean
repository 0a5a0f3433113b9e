/- Bytes taken one by one, in the program: the loop. -/
import Derived.Test.YtcegpcggdcgjbaaGreatDoorKitFindE
namespace Go.Proofs.YtcegpcggdcgjbaaGreatDoor
open Go.ChangeShapes Go.WideShapes Go.ChangeAt Go.RowKit
theorem evZ_list (c : Cf) (f : Fd) : (endE c f).toList = if (evZ (endE c f)).kind = 0 then [] else [evZ (endE c f)] := by
  cases h : endE c f with
  | none => rfl
  | some e =>
    have hk : 1 ≤ e.kind := by
      unfold endE at h
      split at h
      · cases h; simp
      · exact (evalL_kind h).1
    show [e] = if e.kind = 0 then [] else [e]
    rw [if_neg (by omega)]
theorem oe_kept {w w' : World} {base : Nat} {v : Value} {l : List Ev} {row : Option Nat} (h : OE w base v l) (hg : w.grownBy w' row) (hne : v.ownBlock = none ∨ v.ownBlock ≠ row) : OE w' base v l := World.ownsRow.kept h hg hne
theorem feed_done2 {w W : World} {a b d m : Int} {H X : ByteArray} {o y : Bool} {v : Value} {evs : List Ev} {p : Fd × List Ev} (hF : F3 w W a b d m H o) (ho : OE W (w.heap.size + 3) v evs) (hp : p = (⟨X.data.toList, y⟩, evs)) :
    FeedPost w p (.returned (.tuple #[fdV X y, v])) ((W.setCell ⟨w.heap.size + 2, 0, none⟩ (.string X)).setCell ⟨w.heap.size + 2, 1, none⟩ (.bool y)) := by
  subst hp
  refine ⟨v, by simp only [fdL], ?_, hF.done _ _⟩
  have h1 := (ho.put (p := ⟨w.heap.size + 2, 0, none⟩) (by simp) (.string X)).put (p := ⟨w.heap.size + 2, 1, none⟩) (by simp) (.bool y)
  exact h1.mono (by omega)
set_option maxRecDepth 100000 in
set_option maxHeartbeats 8000000 in
theorem feedAny_any (a b d m : Int) (H : ByteArray) (o : Bool) (s : ByteArray) (w : World) (wa : (Lit.int .i64 a).wf = true) (hok : okF ⟨a, b, d, m⟩ ⟨H.data.toList, o⟩ = true) (hs : s.size ≤ 1048576) :
    Calls Tryz.prog 103 #[cfV a b d m, fdV H o, .string s] w (FeedPost w (ffeed ⟨a, b, d, m⟩ ⟨H.data.toList, o⟩ s.data.toList)) := by
  have hz := zero_find
  have HOK := Lib.hid hok
  have HSL := Lib.hid (size_list s)
  obtain ⟨hc, hlen, hne, hov⟩ := okF_yes hok
  obtain ⟨_, hkb, hd, _, _⟩ := confB_yes hc
  simp only at hkb hd hlen hne hov
  have hkb2 := kind_ge hkb
  rw [size_list] at hlen
  have hp := hold_pos hc
  obtain ⟨hp0, hp1, _, _⟩ := hp
  obtain ⟨t, v, fd, fw, fr, rd, rw_, rr, hway, HW⟩ := way_of hc
  have HWV := Lib.hid hway
  have HC := Lib.hid hc
  have HWay := Lib.hid HW
  have q1 := HW.dm
  have q2 := HW.de
  have HDC := Lib.hid HW.dc
  clear hok hc hway HW hne hov hkb
  obtain ⟨i0, hi, hz0, hz1, hz2⟩ := info_parts info_u8
  have HI := Lib.hid hi
  have HZ0 := Lib.hid hz0
  have HZ1 := Lib.hid hz1
  have HZ2 := Lib.hid hz2
  clear hi hz0 hz1 hz2
  generalize hend : endOf ⟨a, b, d, m⟩ = c
  have HEnd := Lib.hid hend
  rw [hend] at HDC
  have hcl := c.toNat_lt
  generalize hold : holdN ⟨a, b, d, m⟩ = hn at *
  have HO := Lib.hid hold
  clear hend hold
  go_enter Tryz.func103, Tryz.ntmps103
  go_wp2_with fail
  refine (codecOf_any a b d m _ wa).mono ?_
  rintro e w1 ⟨rfl, hb1⟩
  have hF := (F3.start w a b d m H o).from hb1
  rw [HC.out, HWV.out]
  clear hb1
  go_wp2_with fail
  have hF := hF.drew
  have hS := hF.flat
  refine wp_region_held_drew (S := (fun wx => (wx.cell? ⟨w.heap.size, 0, none⟩ = some (.int .i64 a) ∧ wx.cell? ⟨w.heap.size, 1, none⟩ = some (.int .i64 b) ∧ wx.cell? ⟨w.heap.size, 2, none⟩ = some (.int .i64 d) ∧ wx.cell? ⟨w.heap.size, 3, none⟩ = some (.int .i64 m)) ∧ (wx.cell? ⟨w.heap.size + 1, 0, none⟩ = some (.string H) ∧ wx.cell? ⟨w.heap.size + 1, 1, none⟩ = some (.bool o)))) (by kernel_rfl) hS (fun hHeld => ?_)
  refine wpAnyH_take (i := 0) (v := ?_) rfl (by kernel_rfl) (by kernel_rfl) (by kernel_rfl) (fun _ _ _ h => h) (Or.inl ⟨by rfl, ?_⟩) (by assumption) ?_
  rotate_left
  · intro wq hSw
    (try dsimp only at hSw)
    (try simp only [List.getElem_toArray, List.getElem_cons_zero])
    go_simp
    (try with_reducible rfl)
  simp only [Act.put, List.getElem_toArray, List.getElem_cons_zero, List.setIfInBounds_toArray, List.set_cons_zero, List.set_cons_succ]
  refine wpAnyH_take (i := 1) (v := ?_) rfl (by kernel_rfl) (by kernel_rfl) (by kernel_rfl) (fun _ _ _ h => h) (Or.inl ⟨by rfl, ?_⟩) (by assumption) ?_
  rotate_left
  · intro wq hSw
    (try dsimp only at hSw)
    (try simp only [List.getElem_toArray, List.getElem_cons_succ, List.getElem_cons_zero])
    go_simp
    (try with_reducible rfl)
  simp only [Act.put, List.getElem_toArray, List.getElem_cons_succ, List.getElem_cons_zero, List.setIfInBounds_toArray, List.set_cons_zero, List.set_cons_succ]
  refine wpAnyH_take (i := 3) (v := ?_) rfl (by kernel_rfl) (by kernel_rfl) (by kernel_rfl) (fun _ _ _ h => h) (Or.inl ⟨by rfl, ?_⟩) (by assumption) ?_
  rotate_left
  · intro wq hSw
    (try dsimp only at hSw)
    (try simp only [List.getElem_toArray, List.getElem_cons_succ, List.getElem_cons_zero])
    go_simp
    (try with_reducible rfl)
  simp only [Act.put, List.getElem_toArray, List.getElem_cons_succ, List.getElem_cons_zero, List.setIfInBounds_toArray, List.set_cons_zero, List.set_cons_succ]
  refine wpAnyH_take (i := 4) (v := ?_) rfl (by kernel_rfl) (by kernel_rfl) (by kernel_rfl) (fun _ _ _ h => h) (Or.inl ⟨by rfl, ?_⟩) (by assumption) ?_
  rotate_left
  · intro wq hSw
    (try dsimp only at hSw)
    (try simp only [List.getElem_toArray, List.getElem_cons_succ, List.getElem_cons_zero])
    go_simp
    (try with_reducible rfl)
  simp only [Act.put, List.getElem_toArray, List.getElem_cons_succ, List.getElem_cons_zero, List.setIfInBounds_toArray, List.set_cons_zero, List.set_cons_succ]
  have hge := hF.size
  refine wpAnyH_ready (rs := [2]) (by kernel_rfl) (by simp) ?_
  refine AllReadyH.cons rfl (fun K hK => ?_) AllReadyH.nil
  (try simp only [List.getElem_toArray, List.getElem_cons_succ, List.getElem_cons_zero])
  have hr := run_bytes_of_string (P := Tryz.prog) w1.drew 9 22 5 H Tryz.underlying9 Tryz.underlying22 Tryz.underlying5
  have hob := OB_of_string 5 w1.drew H (by unfold maxLen; omega) (w.heap.size + 3) hge
  generalize (Obj.cells (bytesRow H (grownCap w1.drew H.size 0 5)) 5 ((bytesRow H (grownCap w1.drew H.size 0 5)).size, (bytesRow H (grownCap w1.drew H.size 0 5)).size + 1)) = O at hr hob
  generalize grownCap w1.drew H.size 0 5 = gc at hr hob
  go_simp
  have hb4 := Below.of_marked w1.drew O
  have hF := hF.from hb4
  have hS := hF.flat
  refine hK.out _ _ hS (fun hHeld => ?_)
  clear hK K
  refine wpAnyH_take (i := 5) (v := ?_) rfl (by kernel_rfl) (by kernel_rfl) (by kernel_rfl) (fun _ _ _ h => h) (Or.inl ⟨by rfl, ?_⟩) (by assumption) ?_
  rotate_left
  · intro wq hSw
    (try dsimp only at hSw)
    (try simp only [List.getElem_toArray, List.getElem_cons_succ, List.getElem_cons_zero])
    go_simp
    (try with_reducible rfl)
  simp only [Act.put, List.getElem_toArray, List.getElem_cons_succ, List.getElem_cons_zero, List.setIfInBounds_toArray, List.set_cons_zero, List.set_cons_succ]
  refine wpAnyH_take (i := 6) (v := ?_) rfl (by kernel_rfl) (by kernel_rfl) (by kernel_rfl) (fun _ _ _ h => h) (Or.inl ⟨by rfl, ?_⟩) (by assumption) ?_
  rotate_left
  · intro wq hSw
    (try dsimp only at hSw)
    (try simp only [List.getElem_toArray, List.getElem_cons_succ, List.getElem_cons_zero])
    go_simp
    (try with_reducible rfl)
  simp only [Act.put, List.getElem_toArray, List.getElem_cons_succ, List.getElem_cons_zero, List.setIfInBounds_toArray, List.set_cons_zero, List.set_cons_succ]
  refine wpAnyH_done (by kernel_rfl) ?_ _
  rw [show w1.drew.drew.alloc O = (w1.alloc O).drew.drew from rfl] at hob hF
  have hob4 : OB 5 (w1.alloc O).drew.drew (w.heap.size + 3) (.slice (some ⟨w1.heap.size, 0, none⟩) H.size gc) H.data.toList := hob
  have HF := Lib.hid hF
  have HOB := Lib.hid hob4
  clear hb4 hr hS hob hob4 hF
  generalize (w1.alloc O).drew.drew = w4 at *
  generalize (Value.slice (some ⟨w1.heap.size, 0, none⟩) H.size gc) = v4 at *
  go_wp2
  go_loopw [10, 11, 12, 29] (fun hv ov ev i wr => ∃ (k : Nat) (X : List UInt8) (y : Bool) (evs : List Ev), k ≤ s.size ∧ i = .int .i64 k ∧ ov = .bool y ∧ ffeed ⟨a, b, d, m⟩ ⟨H.data.toList, o⟩ (s.data.toList.take k) = (⟨X, y⟩, evs) ∧ OB 5 wr (w.heap.size + 3) hv X ∧ OE wr (w.heap.size + 3) ev evs ∧ F3 w wr a b d m H o) (fun _ _ _ i _ => s.size - (intOf i).toNat)
  case atStart => exact ⟨0, H.data.toList, o, [], Nat.zero_le _, rfl, rfl, rfl, HOB.out, World.ownsRow_nil _ _ _ _, HF.out⟩
  case round =>
    clear HOB HF
    obtain ⟨k, X, y, evs, hk, rfl, rfl, hfe, hob, hoe, hF⟩ := hrel
    obtain ⟨ad, cap, rfl, hcap⟩ := hob.shape
    have HFE := Lib.hid hfe
    have HOE := Lib.hid hoe
    have HOB := Lib.hid hob
    have hel := ffeed_len ⟨a, b, d, m⟩ (s.data.toList.take k) ⟨H.data.toList, o⟩
    have hokk := ffeed_ok (s.data.toList.take k) HOK.out
    rw [hfe] at hel hokk
    have hl2 : (s.data.toList.take k).length ≤ k := List.length_take_le _ _
    simp only at hel hokk
    obtain ⟨_, hXl, hXn, hXo⟩ := okF_yes hokk
    simp only at hXl hXn hXo
    rw [HO.out] at hXl
    have HOKK := Lib.hid hokk
    have HXN := Lib.hid hXn
    have hge := hF.size
    have HF := Lib.hid hF
    clear hfe hoe hob hokk hXn hXo
    by_cases hlt : k < s.size
    · have HS := Lib.hid (show ffeed ⟨a, b, d, m⟩ ⟨H.data.toList, o⟩ (s.data.toList.take (k + 1)) = ((fstep ⟨a, b, d, m⟩ ⟨X, y⟩ s[k]).1, evs ++ (fstep ⟨a, b, d, m⟩ ⟨X, y⟩ s[k]).2.toList) by
        rw [snoc_take s k hlt, ffeed_snoc, HFE.out]; rfl)
      have hxl := s[k].toNat_lt
      by_cases hxc : s[k].toNat = c.toNat
      · have hce : s[k] = c := UInt8.toNat_inj.1 hxc
        have hcb : ((s[k].toNat : Int) == (c.toNat : Int)) = true := by rw [beq_iff_eq, hxc]
        have HST := Lib.hid (show fstep ⟨a, b, d, m⟩ ⟨X, y⟩ s[k] = (⟨[], false⟩, endE ⟨a, b, d, m⟩ ⟨X, y⟩) by unfold fstep; rw [HEnd.out, if_pos hce])
        clear hxc hce
        go_wp2_with fail
        have hF := hF.drew
        go_region_held3 (fun wx => (wx.cell? ⟨w.heap.size, 0, none⟩ = some (.int .i64 a) ∧ wx.cell? ⟨w.heap.size, 1, none⟩ = some (.int .i64 b) ∧ wx.cell? ⟨w.heap.size, 2, none⟩ = some (.int .i64 d) ∧ wx.cell? ⟨w.heap.size, 3, none⟩ = some (.int .i64 m)) ∧ (wx.cell? ⟨w.heap.size + 1, 0, none⟩ = some (.string H) ∧ wx.cell? ⟨w.heap.size + 1, 1, none⟩ = some (.bool o))) (first | exact hF.flat) (first | (refine (HDC.out _).mono ?_; rintro e w3 ⟨rfl, hb3⟩; have hF := hF.from hb3))
        all_goals
          have HF3 := Lib.hid hF
          obtain ⟨⟨c0, c1, c2, c3⟩, _, _⟩ := hF.flat
          have HOB3 := Lib.hid (HOB.out.drew.below hb3 (Nat.le_refl _))
          have HOE3 := Lib.hid (HOE.out.drew.below hb3)
          clear hF hb3
          go_wp2_with (first | (refine wpList_string_of_OB _ rfl 22 9 5 _ rfl (w.heap.size + 3) _ _ rfl Tryz.underlying22 Tryz.underlying5 Tryz.underlying9 HOB3.out ?_) | (go_at_call 130; refine (endEvent_any a b d m t v fd fw fr rd rw_ rr ⟨X.toArray⟩ y _ HC.out HWay.out (by rw [← size_list]; show X.length ≤ 600; omega) (fun _ => HXN.out)).mono ?_; rintro e w5 ⟨rfl, hb5⟩; have HF5 := Lib.hid (HF3.out.from hb5); have HOE5 := Lib.hid (HOE3.out.below hb5); clear hb5) | (go_at_call 129; refine (report_any _ evs _ _ (w.heap.size + 3) HOE5.out (by omega) (HF5.out.size)).mono ?_; rintro e w6 ⟨v6, rfl, hoe6, hg6⟩; have HF6 := Lib.hid (HF5.out.grown hg6 (fun k hk => (HOE5.out.lt k hk).1)); have HOE6 := Lib.hid hoe6; clear hoe6 hg6))
          go_roundw
          case rel => exact ⟨k + 1, [], false, _, by omega, by go_num, rfl, by rw [HS.out, HST.out, evZ_list], OB.nil _ _ _, HOE6.out, HF6.out⟩
          case measure => simp [intOf]; omega
      · have hcn : s[k] ≠ c := fun e => hxc (by rw [e])
        have hcb : ((s[k].toNat : Int) == (c.toNat : Int)) = false := beq_eq_false_iff_ne.2 (by omega)
        clear hxc
        cases y with
        | true =>
          have HST := Lib.hid (show fstep ⟨a, b, d, m⟩ ⟨X, true⟩ s[k] = (⟨X, true⟩, none) by unfold fstep; rw [HEnd.out, if_neg hcn, if_pos rfl])
          clear hcn
          go_wp2_with fail
          have hF := hF.drew
          go_region_held3 (fun wx => (wx.cell? ⟨w.heap.size, 0, none⟩ = some (.int .i64 a) ∧ wx.cell? ⟨w.heap.size, 1, none⟩ = some (.int .i64 b) ∧ wx.cell? ⟨w.heap.size, 2, none⟩ = some (.int .i64 d) ∧ wx.cell? ⟨w.heap.size, 3, none⟩ = some (.int .i64 m)) ∧ (wx.cell? ⟨w.heap.size + 1, 0, none⟩ = some (.string H) ∧ wx.cell? ⟨w.heap.size + 1, 1, none⟩ = some (.bool o))) (first | exact hF.flat) (first | (refine (HDC.out _).mono ?_; rintro e w3 ⟨rfl, hb3⟩; have hF := hF.from hb3))
          all_goals
            have HF3 := Lib.hid hF
            have HOB3 := Lib.hid (HOB.out.drew.below hb3 (Nat.le_refl _))
            have HOE3 := Lib.hid (HOE.out.drew.below hb3)
            clear hF hb3
            go_wp2
            go_roundw
            case rel => exact ⟨k + 1, X, true, evs, by omega, by go_num, rfl, by rw [HS.out, HST.out]; simp, HOB3.out, HOE3.out, HF3.out⟩
            case measure => simp [intOf]; omega
        | false =>
          by_cases hfull : hn ≤ (X.length : Int)
          · have HST := Lib.hid (show fstep ⟨a, b, d, m⟩ ⟨X, false⟩ s[k] = (⟨[], true⟩, none) by unfold fstep; rw [HEnd.out, if_neg hcn, if_neg (by simp), HO.out, if_pos hfull])
            clear hcn
            go_wp2_with fail
            have hF := hF.drew
            go_region_held3 (fun wx => (wx.cell? ⟨w.heap.size, 0, none⟩ = some (.int .i64 a) ∧ wx.cell? ⟨w.heap.size, 1, none⟩ = some (.int .i64 b) ∧ wx.cell? ⟨w.heap.size, 2, none⟩ = some (.int .i64 d) ∧ wx.cell? ⟨w.heap.size, 3, none⟩ = some (.int .i64 m)) ∧ (wx.cell? ⟨w.heap.size + 1, 0, none⟩ = some (.string H) ∧ wx.cell? ⟨w.heap.size + 1, 1, none⟩ = some (.bool o))) (first | exact hF.flat) (first | (refine (HDC.out _).mono ?_; rintro e w3 ⟨rfl, hb3⟩; have hF := hF.from hb3))
            all_goals
              have HF3 := Lib.hid hF
              obtain ⟨⟨c0, c1, c2, c3⟩, _, _⟩ := hF.flat
              have HOB3 := Lib.hid (HOB.out.drew.below hb3 (Nat.le_refl _))
              have HOE3 := Lib.hid (HOE.out.drew.below hb3)
              clear hF hb3
              go_wp2_with (go_at_call 128; refine (bufSize_any a b d m _ hkb2 hd).mono ?_; rintro e w5 ⟨rfl, hb5⟩; rw [HO.out]; have HF5 := Lib.hid (HF3.out.from hb5); have HOE5 := Lib.hid (HOE3.out.below hb5); clear hb5)
              go_roundw
              case rel => exact ⟨k + 1, [], true, evs, by omega, by go_num, rfl, by rw [HS.out, HST.out]; simp, OB.nil _ _ _, HOE5.out, HF5.out⟩
              case measure => simp [intOf]; omega
          · have HST := Lib.hid (show fstep ⟨a, b, d, m⟩ ⟨X, false⟩ s[k] = (⟨X ++ [s[k]], false⟩, none) by unfold fstep; rw [HEnd.out, if_neg hcn, if_neg (by simp), HO.out, if_neg hfull])
            clear hcn
            go_wp2_with fail
            have hF := hF.drew
            go_region_held3 (fun wx => (wx.cell? ⟨w.heap.size, 0, none⟩ = some (.int .i64 a) ∧ wx.cell? ⟨w.heap.size, 1, none⟩ = some (.int .i64 b) ∧ wx.cell? ⟨w.heap.size, 2, none⟩ = some (.int .i64 d) ∧ wx.cell? ⟨w.heap.size, 3, none⟩ = some (.int .i64 m)) ∧ (wx.cell? ⟨w.heap.size + 1, 0, none⟩ = some (.string H) ∧ wx.cell? ⟨w.heap.size + 1, 1, none⟩ = some (.bool o))) (first | exact hF.flat) (first | (refine (HDC.out _).mono ?_; rintro e w3 ⟨rfl, hb3⟩; have hF := hF.from hb3))
            all_goals
              have HF3 := Lib.hid hF
              obtain ⟨⟨c0, c1, c2, c3⟩, _, _⟩ := hF.flat
              have HOB3 := Lib.hid (HOB.out.drew.below hb3 (Nat.le_refl _))
              have HOE3 := Lib.hid (HOE.out.drew.below hb3)
              clear hF hb3
              go_wp2_with (first | (go_at_call 128; refine (bufSize_any a b d m _ hkb2 hd).mono ?_; rintro e w5 ⟨rfl, hb5⟩; rw [HO.out]; have HF5 := Lib.hid (HF3.out.from hb5); have HOE5 := Lib.hid (HOE3.out.below hb5); have HOB5 := Lib.hid (HOB3.out.below hb5 (Nat.le_refl _)); clear hb5) | (at_builtin; refine wpList_append_OB _ rfl _ _ 22 rfl (w.heap.size + 3) 5 i0 Tryz.underlying22 HI.out HZ0.out HZ1.out HZ2.out _ X rfl (HOB5.out.alloc _) ⟨w5.heap.size, 0, none⟩ 1 1 [s[k]] rfl rfl (one_new w5 _ _ _ rfl) (by simp; omega) (by have := HF5.out.size; simp; omega) ?_; intro v6 w6 hown6 hg6; have HOB6 := Lib.hid hown6; have HF6 := Lib.hid ((HF5.out.alloc (.cells #[.int .u8 s[k].toNat] 5)).grown hg6 (fun k hk => (HOB5.out.lt k hk).1)); have HOE6 := Lib.hid (oe_kept (HOE5.out.alloc' (.cells #[.int .u8 s[k].toNat] 5)) hg6 (row_apart (HOB5.out.alloc _) (HOE5.out.alloc' (.cells #[.int .u8 s[k].toNat] 5))).1); clear hown6 hg6))
              go_roundw
              case rel => exact ⟨k + 1, X ++ [s[k]], false, evs, by omega, by go_num, rfl, by rw [HS.out, HST.out]; simp, HOB6.out, HOE6.out, HF6.out⟩
              case measure => simp [intOf]; omega
    · have HE := Lib.hid (take_all s k (by omega))
      rw [HE.out] at HFE
      obtain ⟨⟨r0, r1⟩, _, f0, f1⟩ := hF.res
      have HQ := Lib.hid (feed_done2 (X := ⟨X.toArray⟩) hF HOE.out HFE.out)
      clear hF
      go_wp2_with (refine wpList_string_of_OB _ rfl 22 9 5 _ rfl (w.heap.size + 3) _ _ rfl Tryz.underlying22 Tryz.underlying5 Tryz.underlying9 HOB.out ?_)
      exact bodyPost_ret (v := .tuple #[fdV ⟨X.toArray⟩ y, u12]) (by simp [results, Tryz.results103, go_sem, r0, r1]) rfl HQ.out
end Go.Proofs.YtcegpcggdcgjbaaGreatDoor
/- FindFeed, in the program and in the model. -/
namespace Go.Proofs.YtcegpcggdcgjbaaGreatDoor
open Go.ChangeShapes Go.WideShapes Go.ChangeAt Go.RowKit
theorem feed_none {w W : World} {a b d m : Int} {H : ByteArray} {o : Bool} {p : Fd × List Ev} (hF : F3 w W a b d m H o) (hp : p = (⟨[], false⟩, [])) :
    FeedPost w p (.returned (.tuple #[fdV ⟨#[]⟩ false, .slice none 0 0])) ((W.setCell ⟨w.heap.size + 2, 0, none⟩ (.string ⟨#[]⟩)).setCell ⟨w.heap.size + 2, 1, none⟩ (.bool false)) :=
  feed_done2 (X := ⟨#[]⟩) (evs := []) hF (World.ownsRow_nil _ _ _ _) hp
theorem feed_on {w W w2 : World} {a b d m : Int} {H : ByteArray} {o : Bool} {p : Fd × List Ev} {v : Value} (hF : F3 w W a b d m H o) (ho : OE w2 W.heap.size v p.2) (hb : Below W.heap.size W w2) :
    FeedPost w p (.returned (.tuple #[fdL p.1, v])) ((w2.setCell ⟨w.heap.size + 2, 0, none⟩ (.string ⟨p.1.held.toArray⟩)).setCell ⟨w.heap.size + 2, 1, none⟩ (.bool p.1.over)) := by
  have hs := hF.size
  refine ⟨v, rfl, ?_, (hF.from hb).done _ _⟩
  have h1 := (ho.put (p := ⟨w.heap.size + 2, 0, none⟩) (by show w.heap.size + 2 < _; omega) (.string ⟨p.1.held.toArray⟩)).put (p := ⟨w.heap.size + 2, 1, none⟩) (by show w.heap.size + 2 < _; omega) (.bool p.1.over)
  exact h1.mono (by omega)
set_option maxRecDepth 100000 in
set_option maxHeartbeats 2000000 in
theorem implFindFeed_any (a b d m : Int) (H : ByteArray) (o : Bool) (s : ByteArray) (w : World) (wa : (Lit.int .i64 a).wf = true) (hH : H.size ≤ maxLen) (hs : s.size ≤ maxLen) :
    Calls Tryz.prog 72 #[cfV a b d m, fdV H o, .string s] w (FeedPost w (feedF ⟨a, b, d, m⟩ ⟨H.data.toList, o⟩ s.data.toList)) := by
  have hz := zero_find
  have HHM := Lib.hid hH
  have HSL := Lib.hid (size_list s)
  unfold maxLen at hs hH
  cases hok : okF ⟨a, b, d, m⟩ ⟨H.data.toList, o⟩ with
  | false =>
    have HE := Lib.hid (show feedF ⟨a, b, d, m⟩ ⟨H.data.toList, o⟩ s.data.toList = (⟨[], false⟩, []) by unfold feedF; rw [if_neg (by rw [hok]; simp)])
    have HOK := Lib.hid hok
    clear hok
    go_enter Tryz.func72, Tryz.ntmps72
    go_wp2_with fail
    refine (implFindOk_any a b d m H o _ wa HHM.out).mono ?_
    rintro e w1 ⟨rfl, hb1⟩
    have hF := (F3.start w a b d m H o).from hb1
    obtain ⟨⟨r0, r1⟩, _, f0, f1⟩ := hF.res
    have HQ := Lib.hid (feed_none hF HE.out)
    rw [HOK.out]
    clear hb1 hF
    go_wp2
    exact bodyPost_ret (v := .tuple #[fdV ⟨#[]⟩ false, .slice none 0 0]) (by simp [results, Tryz.results72, go_sem, r0, r1]) rfl HQ.out
  | true =>
    by_cases hle : s.size ≤ 600
    · have HE := Lib.hid (show feedF ⟨a, b, d, m⟩ ⟨H.data.toList, o⟩ s.data.toList = ffeed ⟨a, b, d, m⟩ ⟨H.data.toList, o⟩ s.data.toList by unfold feedF; rw [if_pos ⟨hok, by rw [size_list]; exact hle⟩])
      have HOK := Lib.hid hok
      clear hok
      go_enter Tryz.func72, Tryz.ntmps72
      go_wp2_with fail
      refine (implFindOk_any a b d m H o _ wa HHM.out).mono ?_
      rintro e w1 ⟨rfl, hb1⟩
      have hF := (F3.start w a b d m H o).from hb1
      obtain ⟨⟨c0, c1, c2, c3⟩, e0, e1⟩ := hF.flat
      have HF := Lib.hid hF
      rw [HOK.out]
      clear hb1 hF
      go_wp2_with fail
      refine (feedAny_any a b d m H o s _ wa HOK.out (by omega)).mono ?_
      rintro e w2 ⟨v2, rfl, hoe2, hb2⟩
      obtain ⟨⟨r0, r1⟩, _, f0, f1⟩ := (HF.out.from hb2).res
      have HQ := Lib.hid (feed_on HF.out hoe2 hb2)
      clear hoe2 hb2
      generalize ffeed ⟨a, b, d, m⟩ ⟨H.data.toList, o⟩ s.data.toList = p at *
      obtain ⟨⟨X, y⟩, evs⟩ := p
      go_wp2
      exact bodyPost_ret (v := .tuple #[fdL ⟨X, y⟩, v2]) (by simp [results, Tryz.results72, go_sem, r0, r1]) rfl (by rw [HE.out]; exact HQ.out)
    · have HE := Lib.hid (show feedF ⟨a, b, d, m⟩ ⟨H.data.toList, o⟩ s.data.toList = (⟨[], false⟩, []) by unfold feedF; rw [if_neg (by rw [size_list]; omega)])
      have HOK := Lib.hid hok
      clear hok
      go_enter Tryz.func72, Tryz.ntmps72
      go_wp2_with fail
      refine (implFindOk_any a b d m H o _ wa HHM.out).mono ?_
      rintro e w1 ⟨rfl, hb1⟩
      have hF := (F3.start w a b d m H o).from hb1
      obtain ⟨⟨r0, r1⟩, _, f0, f1⟩ := hF.res
      have HQ := Lib.hid (feed_none hF HE.out)
      rw [HOK.out]
      clear hb1 hF
      go_wp2
      exact bodyPost_ret (v := .tuple #[fdV ⟨#[]⟩ false, .slice none 0 0]) (by simp [results, Tryz.results72, go_sem, r0, r1]) rfl HQ.out
end Go.Proofs.YtcegpcggdcgjbaaGreatDoor
