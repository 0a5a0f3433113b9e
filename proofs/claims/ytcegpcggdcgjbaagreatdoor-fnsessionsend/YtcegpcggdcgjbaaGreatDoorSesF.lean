/- Events told, in the model. -/
import Derived.Test.YtcegpcggdcgjbaaGreatDoorSesB
import Derived.Test.YtcegpcggdcgjbaaGreatDoorHexC
namespace Go.Proofs.YtcegpcggdcgjbaaGreatDoor
open Go.ChangeShapes Go.WideShapes Go.ChangeAt Go.RowKit
open Go.Lib (decDigits)
set_option linter.unusedVariables false
def wordsRow : Array Value := #[.string ⟨#[]⟩, .string ⟨#[102, 114, 97, 109, 101]⟩, .string ⟨#[115, 117, 109]⟩, .string ⟨#[97, 98, 111, 114, 116]⟩, .string ⟨#[114, 117, 110, 116]⟩, .string ⟨#[108, 111, 110, 103]⟩, .string ⟨#[119, 114, 111, 110, 103]⟩]
theorem l9Words_any (w : World) : Calls Tryz.prog 87 #[] w fun e w' => e = .returned (.slice (some ⟨w.heap.size, 0, none⟩) 7 7) ∧ w' = w.alloc (.cells wordsRow 9) := by
  go_enter Tryz.func87, Tryz.ntmps87
  go_wp2
  go_ret
  exact ⟨rfl, rfl⟩
theorem wordsRow_at (w : World) {k : Nat} (hk : 1 ≤ k ∧ k ≤ 6) : (w.alloc (.cells wordsRow 9)).cell? ⟨w.heap.size, k, none⟩ = some (.string ⟨(evNm k).toArray⟩) := by
  rw [cell_of_row _ _ _ _ _ _ (heap_alloc_new w _)]
  have : k = 1 ∨ k = 2 ∨ k = 3 ∨ k = 4 ∨ k = 5 ∨ k = 6 := by omega
  rcases this with rfl | rfl | rfl | rfl | rfl | rfl <;> rfl
theorem cat_any (a b : ByteArray) (h : a.size + b.size ≤ 9223372036854775807) : ∃ c : ByteArray, c.data.toList = a.data.toList ++ b.data.toList ∧ c.size = a.size + b.size ∧ c = a ++ b ∧ ∀ u : World, (Op.stringOp .add a b).run Tryz.prog u = .ok (.string c) u :=
  ⟨a ++ b, by simp, by simp, rfl, fun u => run_string_add_sum u _ _ h⟩
set_option maxRecDepth 100000 in
set_option maxHeartbeats 2000000 in
theorem l9Events_any (v : Value) (evs : List Ev) (w : World) (lo B : Nat) (h : RE w lo B v evs) (hB : B ≤ w.heap.size) (hkd : ∀ e ∈ evs, 1 ≤ e.kind ∧ e.kind ≤ 6) (hlen : evs.length ≤ 600) :
    Calls Tryz.prog 61 #[v] w fun e w' => e = .returned (.string ⟨(evsB evs ++ [10]).toArray⟩) ∧ Below w.heap.size w w' := by
  obtain ⟨A, C, rfl⟩ := h.shape
  have HRE := Lib.hid h
  have HKD := Lib.hid hkd
  clear h hkd
  go_enter Tryz.func61, Tryz.ntmps61
  go_wp2
  go_loopw [3, 4] (fun o i wr => ∃ (k : Nat) (O : ByteArray), k ≤ evs.length ∧ i = .int .i64 k ∧ o = .string O ∧ O.data.toList = evsB (evs.take k) ∧ Below w.heap.size w wr) (fun _ i _ => evs.length - (intOf i).toNat)
  case atStart => exact ⟨0, ⟨#[]⟩, Nat.zero_le _, rfl, rfl, rfl, Below.refl _ _⟩
  case round =>
    obtain ⟨k, O, hk, rfl, rfl, hO, hb⟩ := hrel
    have hOs : O.size ≤ 60000 := by
      have h1 := evsB_len (evs.take k)
      have h2 := List.length_take_le k evs
      rw [← size_list, hO]; omega
    have HO := Lib.hid hO
    have HB := Lib.hid hb
    clear hO
    by_cases hlt : k < evs.length
    · obtain ⟨gv, hgv, _, hgB, c10, c11⟩ := RE.at_ (HRE.out.below (hb.mono hB)) hlt
      subst hgv
      have HTK := Lib.hid (evsB_take hlt)
      obtain ⟨hk1, hk2⟩ := HKD.out evs[k] (List.getElem_mem hlt)
      obtain ⟨T, hT⟩ : ∃ T : ByteArray, T = ⟨evs[k].text.toArray⟩ := ⟨_, rfl⟩
      rw [← hT] at c11
      have HTd := Lib.hid (show evs[k].text = T.data.toList by rw [hT])
      obtain ⟨kn, hkn⟩ : ∃ kn : Nat, evs[k].kind = (kn : Int) := ⟨evs[k].kind.toNat, by omega⟩
      rw [hkn] at c10
      have HEV := Lib.hid (show evB evs[k] = evNm (kn : Int) ++ (if (kn : Int) = 1 then 32 :: putH T.data.toList else []) ++ [44] by unfold evB; rw [hkn, HTd.out])
      have hkb : 1 ≤ kn ∧ kn ≤ 6 := by omega
      obtain ⟨N, hN⟩ : ∃ N : ByteArray, N = ⟨(evNm (kn : Int)).toArray⟩ := ⟨_, rfl⟩
      have HN := Lib.hid (show evNm (kn : Int) = N.data.toList by rw [hN])
      have hNs : N.size ≤ 6 := by rw [hN]; have := evNm_len (kn : Int); simpa [ByteArray.size] using this
      have HWR := Lib.hid (show ∀ u : World, (u.alloc (.cells wordsRow 9)).cell? ⟨u.heap.size, kn, none⟩ = some (.string N) from fun u => by rw [hN]; exact wordsRow_at u hkb)
      obtain ⟨O1, h1d, h1s, h1e, _⟩ := cat_any O N (by omega)
      have HO1 := Lib.hid h1d
      have HE1 := Lib.hid h1e
      have hO1s : O1.size ≤ 60010 := by omega
      have hgr : gv < wr.heap.size := by have := hb.size; omega
      have hkn0 : (0 : Int) ≤ (kn : Int) := by omega
      have hkn7 : (kn : Int) < 7 := by omega
      have HC := Lib.hid (show ∀ wx : World, Below wr.heap.size wr wx → (wx.cell? ⟨gv, k * 2, none⟩ = some (.int .i64 (kn : Int)) ∧ wx.cell? ⟨gv, k * 2 + 1, none⟩ = some (.string T)) from fun wx hx => ⟨(hx.cell (p := ⟨gv, k * 2, none⟩) hgr).trans c10, (hx.cell (p := ⟨gv, k * 2 + 1, none⟩) hgr).trans c11⟩)
      clear hT hkn hN hk1 hk2 h1d h1s h1e hb
      go_wp2_with fail
      go_cut [3] (fun s3 wx => s3 = .string O1 ∧ Below wr.heap.size wr wx)
      case first =>
        have hB := (Below.refl wr.heap.size wr).drew
        have hS := (HC.out _ hB).1
        refine wp_region_held_drew (S := (fun wx => wx.cell? ⟨gv, k * 2, none⟩ = some (.int .i64 (kn : Int)))) (by kernel_rfl) hS (fun hHeld => ?_)
        obtain ⟨wd, hwd⟩ : ∃ wd, wd = wr.drew := ⟨_, rfl⟩
        rw [← hwd] at hB hS ⊢
        clear hwd
        refine wpAnyH_take (i := 0) (v := ?_) rfl (by kernel_rfl) (by kernel_rfl) (by kernel_rfl) (fun _ _ _ h => h) (Or.inl ⟨by rfl, ?_⟩) (by assumption) ?_
        rotate_left
        · intro wq hSw
          (try dsimp only at hSw)
          (try simp only [List.getElem_toArray, List.getElem_cons_zero])
          go_simp
          (try with_reducible rfl)
        simp only [Act.put, List.getElem_toArray, List.getElem_cons_zero, List.setIfInBounds_toArray, List.set_cons_zero, List.set_cons_succ]
        refine wpAnyH_take (i := 2) (v := ?_) rfl (by kernel_rfl) (by kernel_rfl) (by kernel_rfl) (fun _ _ _ h => h) (Or.inl ⟨by rfl, ?_⟩) (by assumption) ?_
        rotate_left
        · intro wq hSw
          (try dsimp only at hSw)
          (try simp only [List.getElem_toArray, List.getElem_cons_succ, List.getElem_cons_zero])
          go_simp
          (try with_reducible rfl)
        simp only [Act.put, List.getElem_toArray, List.getElem_cons_succ, List.getElem_cons_zero, List.setIfInBounds_toArray, List.set_cons_zero, List.set_cons_succ]
        refine wpAnyH_take (i := 3) (v := ?_) rfl (by kernel_rfl) (by kernel_rfl) (by kernel_rfl) (fun _ _ _ h => h) (Or.inl ⟨by rfl, ?_⟩) (by assumption) ?_
        rotate_left
        · intro wq hSw
          (try dsimp only at hSw)
          (try simp only [List.getElem_toArray, List.getElem_cons_succ, List.getElem_cons_zero])
          go_simp
          (try with_reducible rfl)
        simp only [Act.put, List.getElem_toArray, List.getElem_cons_succ, List.getElem_cons_zero, List.setIfInBounds_toArray, List.set_cons_zero, List.set_cons_succ]
        refine wpAnyH_take (i := 4) (v := ?_) rfl (by kernel_rfl) (by kernel_rfl) (by kernel_rfl) (fun _ _ _ h => h) (Or.inl ⟨by rfl, ?_⟩) (by assumption) ?_
        rotate_left
        · intro wq hSw
          (try dsimp only at hSw)
          (try simp only [List.getElem_toArray, List.getElem_cons_succ, List.getElem_cons_zero])
          go_simp
          (try with_reducible rfl)
        simp only [Act.put, List.getElem_toArray, List.getElem_cons_succ, List.getElem_cons_zero, List.setIfInBounds_toArray, List.set_cons_zero, List.set_cons_succ]
        refine wpAnyH_take (i := 5) (v := ?_) rfl (by kernel_rfl) (by kernel_rfl) (by kernel_rfl) (fun _ _ _ h => h) (Or.inl ⟨by rfl, ?_⟩) (by assumption) ?_
        rotate_left
        · intro wq hSw
          (try dsimp only at hSw)
          (try simp only [List.getElem_toArray, List.getElem_cons_succ, List.getElem_cons_zero])
          go_simp
          (try with_reducible rfl)
        simp only [Act.put, List.getElem_toArray, List.getElem_cons_succ, List.getElem_cons_zero, List.setIfInBounds_toArray, List.set_cons_zero, List.set_cons_succ]
        refine wpAnyH_take (i := 6) (v := ?_) rfl (by kernel_rfl) (by kernel_rfl) (by kernel_rfl) (fun _ _ _ h => h) (Or.inl ⟨by rfl, ?_⟩) (by assumption) ?_
        rotate_left
        · intro wq hSw
          (try dsimp only at hSw)
          (try simp only [List.getElem_toArray, List.getElem_cons_succ, List.getElem_cons_zero])
          go_simp
          (try with_reducible rfl)
        simp only [Act.put, List.getElem_toArray, List.getElem_cons_succ, List.getElem_cons_zero, List.setIfInBounds_toArray, List.set_cons_zero, List.set_cons_succ]
        refine wpAnyH_ready (rs := [1]) (by kernel_rfl) (by simp) ?_
        refine AllReadyH.cons rfl (fun K hK => ?_) AllReadyH.nil
        (try simp only [List.getElem_toArray, List.getElem_cons_succ, List.getElem_cons_zero])
        go_simp
        go_at_call 87
        refine (l9Words_any _).mono ?_
        rintro e w3 ⟨rfl, rfl⟩
        have hB := hB.alloc hB.size (.cells wordsRow 9)
        have hS := (HC.out _ hB).1
        have hcw := HWR.out wd
        refine hK.out _ _ hS (fun hHeld => ?_)
        clear hK K
        refine wpAnyH_take (i := 7) (v := ?_) rfl (by kernel_rfl) (by kernel_rfl) (by kernel_rfl) (fun _ _ _ h => h) (Or.inl ⟨by rfl, ?_⟩) (by assumption) ?_
        rotate_left
        · intro wq hSw
          (try dsimp only at hSw)
          (try simp only [List.getElem_toArray, List.getElem_cons_succ, List.getElem_cons_zero])
          go_simp
          (try with_reducible rfl)
        simp only [Act.put, List.getElem_toArray, List.getElem_cons_succ, List.getElem_cons_zero, List.setIfInBounds_toArray, List.set_cons_zero, List.set_cons_succ]
        refine wpAnyH_ready (rs := [8]) (by kernel_rfl) (by simp) ?_
        refine AllReadyH.cons rfl (fun K hK => ?_) AllReadyH.nil
        (try simp only [List.getElem_toArray, List.getElem_cons_succ, List.getElem_cons_zero])
        skip
        go_simp
        skip
        refine hK.out _ _ hS (fun hHeld => ?_)
        clear hK K
        refine wpAnyH_take (i := 9) (v := ?_) rfl (by kernel_rfl) (by kernel_rfl) (by kernel_rfl) (fun _ _ _ h => h) (Or.inl ⟨by rfl, ?_⟩) (by assumption) ?_
        rotate_left
        · intro wq hSw
          (try dsimp only at hSw)
          (try simp only [List.getElem_toArray, List.getElem_cons_succ, List.getElem_cons_zero])
          go_simp
          (try with_reducible rfl)
        simp only [Act.put, List.getElem_toArray, List.getElem_cons_succ, List.getElem_cons_zero, List.setIfInBounds_toArray, List.set_cons_zero, List.set_cons_succ]
        refine wpAnyH_take (i := 10) (v := ?_) rfl (by kernel_rfl) (by kernel_rfl) (by kernel_rfl) (fun _ _ _ h => h) (Or.inl ⟨by rfl, ?_⟩) (by assumption) ?_
        rotate_left
        · intro wq hSw
          (try dsimp only at hSw)
          (try simp only [List.getElem_toArray, List.getElem_cons_succ, List.getElem_cons_zero])
          go_simp
          (try with_reducible rfl)
        simp only [Act.put, List.getElem_toArray, List.getElem_cons_succ, List.getElem_cons_zero, List.setIfInBounds_toArray, List.set_cons_zero, List.set_cons_succ]
        refine wpAnyH_done (by kernel_rfl) ?_ _
        go_wp2
        go_meet
        exact ⟨by rw [HE1.out], hB⟩
      case rest =>
        obtain ⟨rfl, hbc⟩ := hcut
        obtain ⟨c0, c1⟩ := HC.out _ hbc
        have HBc := Lib.hid hbc
        clear c10 c11
        by_cases hk1 : kn = 1
        · have hb1 : ((kn : Int) == 1) = true := by rw [beq_iff_eq]; omega
          have HEV1 := Lib.hid (show evB evs[k] = N.data.toList ++ (32 :: putH T.data.toList) ++ [44] by rw [HEV.out, if_pos (by omega), HN.out])
          obtain ⟨O2, h2d, h2s, h2e, _⟩ := cat_any O1 ⟨#[32]⟩ (by have : (⟨#[32]⟩ : ByteArray).size = 1 := rfl; omega)
          have HO2 := Lib.hid h2d
          have HE2 := Lib.hid h2e
          have h2s' : O2.size ≤ 60020 := by have : (⟨#[32]⟩ : ByteArray).size = 1 := rfl; omega
          obtain ⟨PH, hPH⟩ : ∃ PH : ByteArray, PH = ⟨(putH T.data.toList).toArray⟩ := ⟨_, rfl⟩
          have HPH := Lib.hid (show PH.data.toList = putH T.data.toList by rw [hPH])
          have hphs : PH.size ≤ 80 := by rw [← size_list, HPH.out]; exact putH_len _
          have HPE := Lib.hid hPH
          obtain ⟨O3, h3d, h3s, h3e, _⟩ := cat_any O2 PH (by omega)
          have HO3 := Lib.hid h3d
          have HE3 := Lib.hid h3e
          have h3s' : O3.size ≤ 60110 := by omega
          obtain ⟨O4, h4d, h4s, h4e, _⟩ := cat_any O3 ⟨#[44]⟩ (by have : (⟨#[44]⟩ : ByteArray).size = 1 := rfl; omega)
          have HO4 := Lib.hid h4d
          have HE4 := Lib.hid h4e
          clear hk1 h2d h2s h2e h3d h3s h3e h4d h4s h4e hPH hbc
          go_wp2_with fail
          refine (specHexPut_any T _).mono ?_
          rintro e w9 ⟨rfl, hb9⟩
          rw [← HPE.out]
          have HB9 := Lib.hid (HB.out.trans ((HBc.out.trans (hb9.mono HBc.out.size)).mono HB.out.size))
          clear hb9
          go_wp2
          go_roundw
          case rel =>
            refine ⟨k + 1, O4, by omega, by go_num, by rw [HE4.out, HE3.out, HE2.out], ?_, HB9.out⟩
            rw [HO4.out, HO3.out, HO2.out, HO1.out, HO.out, HPH.out, HTK.out, HEV1.out]
            simp
          case measure => simp [intOf]; omega
        · have hb1 : ((kn : Int) == 1) = false := beq_eq_false_iff_ne.2 (by omega)
          have HEV1 := Lib.hid (show evB evs[k] = N.data.toList ++ [44] by rw [HEV.out, if_neg (by omega), HN.out, List.append_nil])
          obtain ⟨O4, h4d, h4s, h4e, _⟩ := cat_any O1 ⟨#[44]⟩ (by have : (⟨#[44]⟩ : ByteArray).size = 1 := rfl; omega)
          have HO4 := Lib.hid h4d
          have HE4 := Lib.hid h4e
          have HB9 := Lib.hid (HB.out.trans (HBc.out.mono HB.out.size))
          clear hk1 h4d h4s h4e hbc
          go_wp2
          go_roundw
          case rel =>
            refine ⟨k + 1, O4, by omega, by go_num, by rw [HE4.out], ?_, HB9.out⟩
            rw [HO4.out, HO1.out, HO.out, HTK.out, HEV1.out]
            simp
          case measure => simp [intOf]; omega
    · have HALL := Lib.hid (show evs.take k = evs from List.take_of_length_le (by omega))
      obtain ⟨O5, h5d, h5s, h5e, _⟩ := cat_any O ⟨#[10]⟩ (by have : (⟨#[10]⟩ : ByteArray).size = 1 := rfl; omega)
      have HO5 := Lib.hid (show O5 = ⟨(evsB evs ++ [10]).toArray⟩ by rw [← Lib.mk_data O5, h5d, HO.out, HALL.out])
      have HE5 := Lib.hid h5e
      clear h5d h5s h5e hb
      go_wp2
      go_ret
      exact ⟨by rw [← HO5.out, HE5.out]; rfl, HB.out⟩
end Go.Proofs.YtcegpcggdcgjbaaGreatDoor
