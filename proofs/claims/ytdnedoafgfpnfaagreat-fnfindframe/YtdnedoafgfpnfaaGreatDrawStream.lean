/- The draw of bytes that come: frames, and what is none. -/
import Derived.Test.YtdnedoafgfpnfaaGreatDrawConf
import Derived.Test.YtdnedoafgfpnfaaGreatKitFindC
import Derived.Test.YtdnedoafgfpnfaaGreatDrawD
import Derived.Deep.RegionHeld3
namespace Go.Proofs.YtdnedoafgfpnfaaGreat
open Go.ChangeShapes Go.WideShapes Go.ChangeAt Go.RowKit
/-- a stage: the configuration in its box, the reader -/
def SD (w W : World) (B g N : Nat) (a b d m : Int) : Prop := BK W w.heap.size #[.int .i64 a, .int .i64 b, .int .i64 d, .int .i64 m] 24 ∧ RW w W B g N
section
variable {w W W' : World} {B g N N' : Nat} {a b d m : Int}
theorem SD.start (h : Rd w B g N) (a b d m : Int) : SD w (w.alloc (.cells #[.int .i64 a, .int .i64 b, .int .i64 d, .int .i64 m] 24)) B g N a b d m := ⟨BK.new _ _ _, (RW.start h).alloc _⟩
theorem SD.alloc (h : SD w W B g N a b d m) (o : Obj) : SD w (W.alloc o) B g N a b d m := ⟨h.1.alloc _, h.2.alloc _⟩
theorem SD.drew (h : SD w W B g N a b d m) : SD w W.drew B g N a b d m := ⟨h.1, h.2.drew⟩
theorem SD.from (h : SD w W B g N a b d m) (hb : Below W.heap.size W W') : SD w W' B g N a b d m := ⟨h.1.from hb, h.2.from hb⟩
theorem SD.next (h : SD w W B g N a b d m) (hr : Rd W' B g N') (hw : W.grownBy W' (some g)) : SD w W' B g N' a b d m := ⟨h.1.next hw h.2.2.2, h.2.next hr hw⟩
theorem SD.mono (h : SD w W B g N a b d m) (hN : N ≤ N') : SD w W B g N' a b d m := ⟨h.1, h.2.mono hN⟩
theorem SD.flat (h : SD w W B g N a b d m) : W.cell? ⟨w.heap.size, 0, none⟩ = some (.int .i64 a) ∧ W.cell? ⟨w.heap.size, 1, none⟩ = some (.int .i64 b) ∧ W.cell? ⟨w.heap.size, 2, none⟩ = some (.int .i64 d) ∧ W.cell? ⟨w.heap.size, 3, none⟩ = some (.int .i64 m) := cells4 h.1
end
def StreamPost (w : World) (B g N : Nat) (e : Ending) (w' : World) : Prop := ∃ T : ByteArray, e = .returned (.string T) ∧ T.size ≤ 600 ∧ Rd w' B g N ∧ w.grownBy w' (some g)
theorem send_size {a b d m : Int} (hc : confB ⟨a, b, d, m⟩ = true) (s : ByteArray) (hs : s.size ≤ 40) : (⟨(sendL ⟨a, b, d, m⟩ s.data.toList).toArray⟩ : ByteArray).size ≤ 93 := by
  rw [← size_list]
  show (sendL ⟨a, b, d, m⟩ s.data.toList).length ≤ 93
  obtain ⟨_, hk, _⟩ := confB_yes hc
  simp only at hk
  have hk2 := kind_ge hk
  have h1 := putL_len b s.data.toList
  rw [size_list] at h1
  have h2 := writeL_len ⟨a, b, d, m⟩ (putL b s.data.toList) (by omega)
  simp only [sendL, List.length_append, List.length_singleton]
  omega
theorem write_size {a b d m : Int} (s : ByteArray) (hs : s.size ≤ 60) : (⟨(writeL ⟨a, b, d, m⟩ s.data.toList).toArray⟩ : ByteArray).size ≤ 124 := by
  rw [← size_list]
  show (writeL ⟨a, b, d, m⟩ s.data.toList).length ≤ 124
  have h2 := writeL_len ⟨a, b, d, m⟩ s.data.toList (by rw [size_list]; omega)
  rw [size_list] at h2; omega
set_option maxRecDepth 100000 in
set_option maxHeartbeats 8000000 in
theorem stream_any {w : World} {B g N : Nat} {a b d m : Int} (h : Rd w B g N) (hN : N + 1000 ≤ 1000000000) (hc : confB ⟨a, b, d, m⟩ = true) :
    Calls Tryz.prog 49 #[.pointer (some ⟨g, 0, none⟩), cfV a b d m] w (StreamPost w B g (N + 1000)) := by
  have hgl := h.lt
  have HD0 := Lib.hid (SD.start h a b d m)
  have HC := Lib.hid hc
  clear h hc
  go_enter Tryz.func49, Tryz.ntmps49
  go_wp2_with fail
  refine (pick_any 4 HD0.out.2.1 (by omega)).mono ?_
  rintro e w1 ⟨⟨x, rfl, hx, _⟩, hr1, hg1⟩
  obtain ⟨hx0, hx4⟩ := hx (by omega)
  have HD1 := Lib.hid (HD0.out.next hr1 hg1)
  obtain ⟨n, rfl⟩ : ∃ n : Nat, x = (n : Int) := ⟨x.toNat, by omega⟩
  have hn3 : n ≤ 3 := by omega
  clear hx hr1 hg1 HD0 hx0 hx4
  go_wp2
  go_loopw [5, 6] (fun sv nv wr => ∃ (k : Nat) (S : ByteArray), k ≤ n ∧ nv = .int .i64 k ∧ sv = .string S ∧ S.size + 150 * k ≤ 450 ∧ SD w wr B g (N + 1000 - 300 * k) a b d m) (fun _ nv _ => (intOf nv).toNat)
  case atStart => exact ⟨n, ⟨#[]⟩, Nat.le_refl _, rfl, rfl, by show 0 + 150 * n ≤ 450; omega, HD1.out.mono (by omega)⟩
  case round =>
    clear HD1
    obtain ⟨k, S, hk, rfl, rfl, hS4, hD⟩ := hrel
    have HD := Lib.hid hD
    clear hD
    by_cases hp : 0 < k
    · have hadd : ∀ (X : ByteArray), X.size ≤ 1000 → ∀ u : World, (Op.stringOp .add S X).run Tryz.prog u = .ok (.string (S ++ X)) u := fun X hX u => run_string_add_sum u _ _ (by omega)
      have HAdd := Lib.hid hadd
      have hki : IntKind.i64.wrap ((k : Int) - 1) = (k : Int) - 1 := by rw [IntKind.wrap_i64]; omega
      clear hadd hki
      go_wp2_with fail
      refine (pick_any 7 HD.out.2.1 (by omega)).mono ?_
      rintro e w2 ⟨⟨x, rfl, hx, _⟩, hr2, hg2⟩
      obtain ⟨hx0, hx7⟩ := hx (by omega)
      have HD2 := Lib.hid (HD.out.next hr2 hg2)
      clear hx hr2 hg2 HD
      by_cases h0 : x = 0
      · subst h0
        go_wp2_with fail
        refine (bytes_any 12 HD2.out.2.1 (by omega) (by omega)).mono ?_
        rintro e w3 ⟨X, rfl, hX, hr3, hg3⟩
        have HD := Lib.hid (HD2.out.next hr3 hg3)
        have ha := HAdd.out X (by omega)
        clear hr3 hg3
        go_wp2
        go_roundw
        case rel => exact ⟨k - 1, _, by omega, val_int (by omega), rfl, by rw [ByteArray.size_append]; omega, HD.out.mono (by omega)⟩
        case measure => simp [intOf]; omega
      by_cases h1 : x = 1
      · subst h1
        obtain ⟨c0, c1, c2, c3⟩ := HD2.out.flat
        go_wp2_with fail
        refine (l7End_any a b d m _).mono ?_
        rintro e w3 ⟨rfl, hb3⟩
        have hD3 := HD2.out.from hb3
        have hob := OB_one 5 w3 w.heap.size hD3.2.size (endOf ⟨a, b, d, m⟩) (.int .u8 (endOf ⟨a, b, d, m⟩).toNat) rfl
        have HOB := Lib.hid hob
        have HD := Lib.hid (hD3.alloc (.cells #[.int .u8 (endOf ⟨a, b, d, m⟩).toNat] 5))
        have h1s : (⟨[endOf ⟨a, b, d, m⟩].toArray⟩ : ByteArray).size = 1 := rfl
        have ha := HAdd.out ⟨[endOf ⟨a, b, d, m⟩].toArray⟩ (by rw [h1s]; omega)
        clear hb3 hD3 hob c0 c1 c2 c3
        go_wp2_with (refine wpList_string_of_OB _ rfl 22 9 5 _ rfl w.heap.size _ _ rfl Tryz.underlying22 Tryz.underlying5 Tryz.underlying9 HOB.out ?_)
        go_roundw
        case rel => exact ⟨k - 1, _, by omega, val_int (by omega), rfl, by rw [ByteArray.size_append]; show S.size + 1 + _ ≤ _; omega, HD.out.mono (by omega)⟩
        case measure => simp [intOf]; omega
      by_cases h2 : x = 2
      · subst h2
        go_wp2_with fail
        have hD := HD2.out.drew
        have hS := hD.flat
        refine wp_region_held_drew (S := (fun wx => wx.cell? ⟨w.heap.size, 0, none⟩ = some (.int .i64 a) ∧ wx.cell? ⟨w.heap.size, 1, none⟩ = some (.int .i64 b) ∧ wx.cell? ⟨w.heap.size, 2, none⟩ = some (.int .i64 d) ∧ wx.cell? ⟨w.heap.size, 3, none⟩ = some (.int .i64 m))) (by kernel_rfl) hS (fun hHeld => ?_)
        refine wpAnyH_take (i := 0) (v := ?_) rfl (by kernel_rfl) (by kernel_rfl) (by kernel_rfl) (fun _ _ _ h => h) (Or.inl ⟨by rfl, ?_⟩) (by assumption) ?_
        rotate_left
        · intro wq hSw
          (try dsimp only at hSw)
          (try simp only [List.getElem_toArray, List.getElem_cons_zero])
          go_simp
          (try with_reducible rfl)
        simp only [Act.put, List.getElem_toArray, List.getElem_cons_zero, List.setIfInBounds_toArray, List.set_cons_zero, List.set_cons_succ]
        refine wpAnyH_take (i := 1) (v := ?_) rfl (by kernel_rfl) (by kernel_rfl) (by kernel_rfl) (fun _ _ _ h => h) (Or.inl ⟨by rfl, ?_⟩) (by assumption) ?_
        rotate_left
        · intro wq hSw
          (try dsimp only at hSw)
          (try simp only [List.getElem_toArray, List.getElem_cons_succ, List.getElem_cons_zero])
          go_simp
          (try with_reducible rfl)
        simp only [Act.put, List.getElem_toArray, List.getElem_cons_succ, List.getElem_cons_zero, List.setIfInBounds_toArray, List.set_cons_zero, List.set_cons_succ]
        refine wpAnyH_take (i := 2) (v := ?_) rfl (by kernel_rfl) (by kernel_rfl) (by kernel_rfl) (fun _ _ _ h => h) (Or.inl ⟨by rfl, ?_⟩) (by assumption) ?_
        rotate_left
        · intro wq hSw
          (try dsimp only at hSw)
          (try simp only [List.getElem_toArray, List.getElem_cons_succ, List.getElem_cons_zero])
          go_simp
          (try with_reducible rfl)
        simp only [Act.put, List.getElem_toArray, List.getElem_cons_succ, List.getElem_cons_zero, List.setIfInBounds_toArray, List.set_cons_zero, List.set_cons_succ]
        refine wpAnyH_take (i := 6) (v := ?_) rfl (by kernel_rfl) (by kernel_rfl) (by kernel_rfl) (fun _ _ _ h => h) (Or.inl ⟨by rfl, ?_⟩) (by assumption) ?_
        rotate_left
        · intro wq hSw
          (try dsimp only at hSw)
          (try simp only [List.getElem_toArray, List.getElem_cons_succ, List.getElem_cons_zero])
          go_simp
          (try with_reducible rfl)
        simp only [Act.put, List.getElem_toArray, List.getElem_cons_succ, List.getElem_cons_zero, List.setIfInBounds_toArray, List.set_cons_zero, List.set_cons_succ]
        refine wpAnyH_ready (rs := [3]) (by kernel_rfl) (by simp) ?_
        refine AllReadyH.cons rfl (fun K hK => ?_) AllReadyH.nil
        (try simp only [List.getElem_toArray, List.getElem_cons_succ, List.getElem_cons_zero])
        go_simp
        go_at_call 87
        refine (bytes_any 60 hD.2.1 (by omega) (by omega)).mono ?_
        rintro e v4 ⟨X, rfl, hX, hr4, hg4⟩
        have hD := hD.next hr4 hg4
        have hS := hD.flat
        refine hK.out _ _ hS (fun hHeld => ?_)
        clear hK K
        obtain ⟨Y, hY⟩ : ∃ Y : ByteArray, (⟨(writeL ⟨a, b, d, m⟩ X.data.toList).toArray⟩ : ByteArray) = Y := ⟨_, rfl⟩
        have hYs : Y.size ≤ 124 := by rw [← hY]; exact write_size X (by omega)
        refine wpAnyH_ready (rs := [4]) (by kernel_rfl) (by simp) ?_
        refine AllReadyH.cons rfl (fun K hK => ?_) AllReadyH.nil
        (try simp only [List.getElem_toArray, List.getElem_cons_succ, List.getElem_cons_zero])
        go_simp
        go_at_call 89
        refine (l7Write_any a b d m X _ HC.out (by omega)).mono ?_
        rintro e v5 ⟨rfl, hb5⟩
        have hD := hD.from hb5
        have hS := hD.flat
        rw [hY]
        refine hK.out _ _ hS (fun hHeld => ?_)
        clear hK K
        obtain ⟨V, hV⟩ : ∃ V : ByteArray, S ++ Y = V := ⟨_, rfl⟩
        have hVs : V.size ≤ S.size + 124 := by rw [← hV, ByteArray.size_append]; omega
        have ha := HAdd.out Y (by omega)
        rw [hV] at ha
        refine wpAnyH_take (i := 5) (v := ?_) rfl (by kernel_rfl) (by kernel_rfl) (by kernel_rfl) (fun _ _ _ h => h) (Or.inl ⟨by rfl, ?_⟩) (by assumption) ?_
        rotate_left
        · intro wq hSw
          (try dsimp only at hSw)
          (try simp only [List.getElem_toArray, List.getElem_cons_succ, List.getElem_cons_zero])
          go_simp
          (try with_reducible rfl)
        simp only [Act.put, List.getElem_toArray, List.getElem_cons_succ, List.getElem_cons_zero, List.setIfInBounds_toArray, List.set_cons_zero, List.set_cons_succ]
        refine wpAnyH_ready (rs := [7]) (by kernel_rfl) (by simp) ?_
        refine AllReadyH.cons rfl (fun K hK => ?_) AllReadyH.nil
        (try simp only [List.getElem_toArray, List.getElem_cons_succ, List.getElem_cons_zero])
        go_simp
        go_at_call 88
        refine (l7End_any a b d m _).mono ?_
        rintro e v7 ⟨rfl, hb7⟩
        have hD := hD.from hb7
        have hS := hD.flat
        refine hK.out _ _ hS (fun hHeld => ?_)
        clear hK K
        have hob := OB_one 5 v7 w.heap.size hD.2.size (endOf ⟨a, b, d, m⟩) (.int .u8 (endOf ⟨a, b, d, m⟩).toNat) rfl
        have hD := hD.alloc (.cells #[.int .u8 (endOf ⟨a, b, d, m⟩).toNat] 5)
        have hS := hD.flat
        refine wpAnyH_ready (rs := [8]) (by kernel_rfl) (by simp) ?_
        refine AllReadyH.cons rfl (fun K hK => ?_) AllReadyH.nil
        (try simp only [List.getElem_toArray, List.getElem_cons_succ, List.getElem_cons_zero])
        skip
        go_simp
        skip
        refine hK.out _ _ hS (fun hHeld => ?_)
        clear hK K
        have hr := run_string_of_OB (P := Tryz.prog) _ 22 9 5 _ _ _ Tryz.underlying22 Tryz.underlying5 Tryz.underlying9 hob
        refine wpAnyH_ready (rs := [9]) (by kernel_rfl) (by simp) ?_
        refine AllReadyH.cons rfl (fun K hK => ?_) AllReadyH.nil
        (try simp only [List.getElem_toArray, List.getElem_cons_succ, List.getElem_cons_zero])
        skip
        go_simp
        skip
        refine hK.out _ _ hS (fun hHeld => ?_)
        clear hK K
        have h1s : (⟨[endOf ⟨a, b, d, m⟩].toArray⟩ : ByteArray).size = 1 := rfl
        have hcat : ¬ 9223372036854775807 < V.size + 1 := by omega
        refine wpAnyH_take (i := 10) (v := ?_) rfl (by kernel_rfl) (by kernel_rfl) (by kernel_rfl) (fun _ _ _ h => h) (Or.inl ⟨by rfl, ?_⟩) (by assumption) ?_
        rotate_left
        · intro wq hSw
          (try dsimp only at hSw)
          (try simp only [List.getElem_toArray, List.getElem_cons_succ, List.getElem_cons_zero])
          go_simp
          (try with_reducible rfl)
        simp only [Act.put, List.getElem_toArray, List.getElem_cons_succ, List.getElem_cons_zero, List.setIfInBounds_toArray, List.set_cons_zero, List.set_cons_succ]
        refine wpAnyH_take (i := 11) (v := ?_) rfl (by kernel_rfl) (by kernel_rfl) (by kernel_rfl) (fun _ _ _ h => h) (Or.inl ⟨by rfl, ?_⟩) (by assumption) ?_
        rotate_left
        · intro wq hSw
          (try dsimp only at hSw)
          (try simp only [List.getElem_toArray, List.getElem_cons_succ, List.getElem_cons_zero])
          go_simp
          (try with_reducible rfl)
        simp only [Act.put, List.getElem_toArray, List.getElem_cons_succ, List.getElem_cons_zero, List.setIfInBounds_toArray, List.set_cons_zero, List.set_cons_succ]
        refine wpAnyH_done (by kernel_rfl) ?_ _
        have HD := Lib.hid hD
        clear hS hD hr4 hg4 hb5 hb7 hY hob hr ha
        go_wp2
        go_roundw
        case rel => exact ⟨k - 1, _, by omega, val_int (by omega), rfl, by rw [ByteArray.size_append]; show V.size + 1 + _ ≤ _; omega, HD.out.mono (by omega)⟩
        case measure => simp [intOf]; omega
      by_cases h3 : x = 3
      · subst h3
        go_wp2_with fail
        have hD := HD2.out.drew
        have hS := hD.flat
        refine wp_region_held_drew (S := (fun wx => wx.cell? ⟨w.heap.size, 0, none⟩ = some (.int .i64 a) ∧ wx.cell? ⟨w.heap.size, 1, none⟩ = some (.int .i64 b) ∧ wx.cell? ⟨w.heap.size, 2, none⟩ = some (.int .i64 d) ∧ wx.cell? ⟨w.heap.size, 3, none⟩ = some (.int .i64 m))) (by kernel_rfl) hS (fun hHeld => ?_)
        refine wpAnyH_take (i := 0) (v := ?_) rfl (by kernel_rfl) (by kernel_rfl) (by kernel_rfl) (fun _ _ _ h => h) (Or.inl ⟨by rfl, ?_⟩) (by assumption) ?_
        rotate_left
        · intro wq hSw
          (try dsimp only at hSw)
          (try simp only [List.getElem_toArray, List.getElem_cons_zero])
          go_simp
          (try with_reducible rfl)
        simp only [Act.put, List.getElem_toArray, List.getElem_cons_zero, List.setIfInBounds_toArray, List.set_cons_zero, List.set_cons_succ]
        refine wpAnyH_take (i := 1) (v := ?_) rfl (by kernel_rfl) (by kernel_rfl) (by kernel_rfl) (fun _ _ _ h => h) (Or.inl ⟨by rfl, ?_⟩) (by assumption) ?_
        rotate_left
        · intro wq hSw
          (try dsimp only at hSw)
          (try simp only [List.getElem_toArray, List.getElem_cons_succ, List.getElem_cons_zero])
          go_simp
          (try with_reducible rfl)
        simp only [Act.put, List.getElem_toArray, List.getElem_cons_succ, List.getElem_cons_zero, List.setIfInBounds_toArray, List.set_cons_zero, List.set_cons_succ]
        refine wpAnyH_take (i := 2) (v := ?_) rfl (by kernel_rfl) (by kernel_rfl) (by kernel_rfl) (fun _ _ _ h => h) (Or.inl ⟨by rfl, ?_⟩) (by assumption) ?_
        rotate_left
        · intro wq hSw
          (try dsimp only at hSw)
          (try simp only [List.getElem_toArray, List.getElem_cons_succ, List.getElem_cons_zero])
          go_simp
          (try with_reducible rfl)
        simp only [Act.put, List.getElem_toArray, List.getElem_cons_succ, List.getElem_cons_zero, List.setIfInBounds_toArray, List.set_cons_zero, List.set_cons_succ]
        refine wpAnyH_take (i := 3) (v := ?_) rfl (by kernel_rfl) (by kernel_rfl) (by kernel_rfl) (fun _ _ _ h => h) (Or.inl ⟨by rfl, ?_⟩) (by assumption) ?_
        rotate_left
        · intro wq hSw
          (try dsimp only at hSw)
          (try simp only [List.getElem_toArray, List.getElem_cons_succ, List.getElem_cons_zero])
          go_simp
          (try with_reducible rfl)
        simp only [Act.put, List.getElem_toArray, List.getElem_cons_succ, List.getElem_cons_zero, List.setIfInBounds_toArray, List.set_cons_zero, List.set_cons_succ]
        refine wpAnyH_ready (rs := [4]) (by kernel_rfl) (by simp) ?_
        refine AllReadyH.cons rfl (fun K hK => ?_) AllReadyH.nil
        (try simp only [List.getElem_toArray, List.getElem_cons_succ, List.getElem_cons_zero])
        go_simp
        go_at_call 87
        refine (bytes_any 5 hD.2.1 (by omega) (by omega)).mono ?_
        rintro e v4 ⟨X, rfl, hX, hr4, hg4⟩
        have hD := hD.next hr4 hg4
        have hS := hD.flat
        refine hK.out _ _ hS (fun hHeld => ?_)
        clear hK K
        obtain ⟨Y, hY⟩ : ∃ Y : ByteArray, (⟨(sendL ⟨a, b, d, m⟩ X.data.toList).toArray⟩ : ByteArray) = Y := ⟨_, rfl⟩
        have hYs : Y.size ≤ 93 := by rw [← hY]; exact send_size HC.out X (by omega)
        refine wpAnyH_ready (rs := [5]) (by kernel_rfl) (by simp) ?_
        refine AllReadyH.cons rfl (fun K hK => ?_) AllReadyH.nil
        (try simp only [List.getElem_toArray, List.getElem_cons_succ, List.getElem_cons_zero])
        go_simp
        go_at_call 91
        refine (l7Send_any a b d m X _ HC.out (by omega)).mono ?_
        rintro e v5 ⟨rfl, hb5⟩
        have hD := hD.from hb5
        have hS := hD.flat
        rw [hY]
        refine hK.out _ _ hS (fun hHeld => ?_)
        clear hK K
        refine wpAnyH_ready (rs := [6]) (by kernel_rfl) (by simp) ?_
        refine AllReadyH.cons rfl (fun K hK => ?_) AllReadyH.nil
        (try simp only [List.getElem_toArray, List.getElem_cons_succ, List.getElem_cons_zero])
        go_simp
        go_at_call 90
        refine (bent_any Y hD.2.1 (by omega) (by omega)).mono ?_
        rintro e v6 ⟨Q, rfl, hQ, hr6, hg6⟩
        have hD := hD.next hr6 hg6
        have hS := hD.flat
        refine hK.out _ _ hS (fun hHeld => ?_)
        clear hK K
        have ha := HAdd.out Q (by omega)
        refine wpAnyH_take (i := 7) (v := ?_) rfl (by kernel_rfl) (by kernel_rfl) (by kernel_rfl) (fun _ _ _ h => h) (Or.inl ⟨by rfl, ?_⟩) (by assumption) ?_
        rotate_left
        · intro wq hSw
          (try dsimp only at hSw)
          (try simp only [List.getElem_toArray, List.getElem_cons_succ, List.getElem_cons_zero])
          go_simp
          (try with_reducible rfl)
        simp only [Act.put, List.getElem_toArray, List.getElem_cons_succ, List.getElem_cons_zero, List.setIfInBounds_toArray, List.set_cons_zero, List.set_cons_succ]
        refine wpAnyH_take (i := 8) (v := ?_) rfl (by kernel_rfl) (by kernel_rfl) (by kernel_rfl) (fun _ _ _ h => h) (Or.inl ⟨by rfl, ?_⟩) (by assumption) ?_
        rotate_left
        · intro wq hSw
          (try dsimp only at hSw)
          (try simp only [List.getElem_toArray, List.getElem_cons_succ, List.getElem_cons_zero])
          go_simp
          (try with_reducible rfl)
        simp only [Act.put, List.getElem_toArray, List.getElem_cons_succ, List.getElem_cons_zero, List.setIfInBounds_toArray, List.set_cons_zero, List.set_cons_succ]
        refine wpAnyH_done (by kernel_rfl) ?_ _
        have HD := Lib.hid hD
        clear hS hD hr4 hg4 hb5 hr6 hg6 hY
        go_wp2
        go_roundw
        case rel => exact ⟨k - 1, _, by omega, val_int (by omega), rfl, by rw [ByteArray.size_append]; omega, HD.out.mono (by omega)⟩
        case measure => simp [intOf]; omega
      have b0 : (x == 0) = false := beq_eq_false_iff_ne.2 h0
      have b1 : (x == 1) = false := beq_eq_false_iff_ne.2 h1
      have b2 : (x == 2) = false := beq_eq_false_iff_ne.2 h2
      have b3 : (x == 3) = false := beq_eq_false_iff_ne.2 h3
      have hrow := list_row w2.drew #[.int .i64 0, .int .i64 5, .int .i64 12, .int .i64 40] 3 [0, 5, 12, 40] rfl
      go_wp2_with fail
      have hD := HD2.out.drew
      have hS := hD.flat
      refine wp_region_held_drew (S := (fun wx => wx.cell? ⟨w.heap.size, 0, none⟩ = some (.int .i64 a) ∧ wx.cell? ⟨w.heap.size, 1, none⟩ = some (.int .i64 b) ∧ wx.cell? ⟨w.heap.size, 2, none⟩ = some (.int .i64 d) ∧ wx.cell? ⟨w.heap.size, 3, none⟩ = some (.int .i64 m))) (by kernel_rfl) hS (fun hHeld => ?_)
      refine wpAnyH_take (i := 0) (v := ?_) rfl (by kernel_rfl) (by kernel_rfl) (by kernel_rfl) (fun _ _ _ h => h) (Or.inl ⟨by rfl, ?_⟩) (by assumption) ?_
      rotate_left
      · intro wq hSw
        (try dsimp only at hSw)
        (try simp only [List.getElem_toArray, List.getElem_cons_zero])
        go_simp
        (try with_reducible rfl)
      simp only [Act.put, List.getElem_toArray, List.getElem_cons_zero, List.setIfInBounds_toArray, List.set_cons_zero, List.set_cons_succ]
      refine wpAnyH_take (i := 1) (v := ?_) rfl (by kernel_rfl) (by kernel_rfl) (by kernel_rfl) (fun _ _ _ h => h) (Or.inl ⟨by rfl, ?_⟩) (by assumption) ?_
      rotate_left
      · intro wq hSw
        (try dsimp only at hSw)
        (try simp only [List.getElem_toArray, List.getElem_cons_succ, List.getElem_cons_zero])
        go_simp
        (try with_reducible rfl)
      simp only [Act.put, List.getElem_toArray, List.getElem_cons_succ, List.getElem_cons_zero, List.setIfInBounds_toArray, List.set_cons_zero, List.set_cons_succ]
      refine wpAnyH_take (i := 2) (v := ?_) rfl (by kernel_rfl) (by kernel_rfl) (by kernel_rfl) (fun _ _ _ h => h) (Or.inl ⟨by rfl, ?_⟩) (by assumption) ?_
      rotate_left
      · intro wq hSw
        (try dsimp only at hSw)
        (try simp only [List.getElem_toArray, List.getElem_cons_succ, List.getElem_cons_zero])
        go_simp
        (try with_reducible rfl)
      simp only [Act.put, List.getElem_toArray, List.getElem_cons_succ, List.getElem_cons_zero, List.setIfInBounds_toArray, List.set_cons_zero, List.set_cons_succ]
      refine wpAnyH_take (i := 3) (v := ?_) rfl (by kernel_rfl) (by kernel_rfl) (by kernel_rfl) (fun _ _ _ h => h) (Or.inl ⟨by rfl, ?_⟩) (by assumption) ?_
      rotate_left
      · intro wq hSw
        (try dsimp only at hSw)
        (try simp only [List.getElem_toArray, List.getElem_cons_succ, List.getElem_cons_zero])
        go_simp
        (try with_reducible rfl)
      simp only [Act.put, List.getElem_toArray, List.getElem_cons_succ, List.getElem_cons_zero, List.setIfInBounds_toArray, List.set_cons_zero, List.set_cons_succ]
      have hD := hD.alloc (.cells #[.int .i64 0, .int .i64 5, .int .i64 12, .int .i64 40] 3)
      rw [show w2.drew.alloc (.cells #[.int .i64 0, .int .i64 5, .int .i64 12, .int .i64 40] 3) = (w2.alloc (.cells #[.int .i64 0, .int .i64 5, .int .i64 12, .int .i64 40] 3)).drew from rfl] at hD hrow
      have hS := hD.flat
      refine wpAnyH_ready (rs := [4]) (by kernel_rfl) (by simp) ?_
      refine AllReadyH.cons rfl (fun K hK => ?_) AllReadyH.nil
      (try simp only [List.getElem_toArray, List.getElem_cons_succ, List.getElem_cons_zero])
      skip
      go_simp
      skip
      refine hK.out _ _ hS (fun hHeld => ?_)
      clear hK K
      have hws : w.heap.size ≤ w2.heap.size := HD2.out.2.size
      generalize (w2.alloc (.cells #[.int .i64 0, .int .i64 5, .int .i64 12, .int .i64 40] 3)).drew = w4 at *
      refine wpAnyH_ready (rs := [5]) (by kernel_rfl) (by simp) ?_
      refine AllReadyH.cons rfl (fun K hK => ?_) AllReadyH.nil
      (try simp only [List.getElem_toArray, List.getElem_cons_succ, List.getElem_cons_zero])
      go_simp
      go_at_call 71
      refine (one_any (m := w2.heap.size) [0, 5, 12, 40] 3 hD.2.1 (by omega) (by simp) (by simp) (by omega) hrow).mono ?_
      rintro e v5 ⟨y, hy, rfl, hr5, hg5⟩
      have hD := hD.next hr5 hg5
      have hS := hD.flat
      obtain ⟨q, rfl, hq⟩ : ∃ q : Nat, y = (q : Int) ∧ q ≤ 40 := ⟨y.toNat, by simp at hy; omega, by simp at hy; omega⟩
      refine hK.out _ _ hS (fun hHeld => ?_)
      clear hK K
      refine wpAnyH_ready (rs := [6]) (by kernel_rfl) (by simp) ?_
      refine AllReadyH.cons rfl (fun K hK => ?_) AllReadyH.nil
      (try simp only [List.getElem_toArray, List.getElem_cons_succ, List.getElem_cons_zero])
      go_simp
      go_at_call 87
      refine (bytes_any q hD.2.1 (by omega) (by omega)).mono ?_
      rintro e v6 ⟨X, rfl, hX, hr6, hg6⟩
      have hD := hD.next hr6 hg6
      have hS := hD.flat
      refine hK.out _ _ hS (fun hHeld => ?_)
      clear hK K
      obtain ⟨Y, hY⟩ : ∃ Y : ByteArray, (⟨(sendL ⟨a, b, d, m⟩ X.data.toList).toArray⟩ : ByteArray) = Y := ⟨_, rfl⟩
      have hYs : Y.size ≤ 93 := by rw [← hY]; exact send_size HC.out X (by omega)
      refine wpAnyH_ready (rs := [7]) (by kernel_rfl) (by simp) ?_
      refine AllReadyH.cons rfl (fun K hK => ?_) AllReadyH.nil
      (try simp only [List.getElem_toArray, List.getElem_cons_succ, List.getElem_cons_zero])
      go_simp
      go_at_call 91
      refine (l7Send_any a b d m X _ HC.out (by omega)).mono ?_
      rintro e v7 ⟨rfl, hb7⟩
      have hD := hD.from hb7
      have hS := hD.flat
      rw [hY]
      refine hK.out _ _ hS (fun hHeld => ?_)
      clear hK K
      have ha := HAdd.out Y (by omega)
      refine wpAnyH_take (i := 8) (v := ?_) rfl (by kernel_rfl) (by kernel_rfl) (by kernel_rfl) (fun _ _ _ h => h) (Or.inl ⟨by rfl, ?_⟩) (by assumption) ?_
      rotate_left
      · intro wq hSw
        (try dsimp only at hSw)
        (try simp only [List.getElem_toArray, List.getElem_cons_succ, List.getElem_cons_zero])
        go_simp
        (try with_reducible rfl)
      simp only [Act.put, List.getElem_toArray, List.getElem_cons_succ, List.getElem_cons_zero, List.setIfInBounds_toArray, List.set_cons_zero, List.set_cons_succ]
      refine wpAnyH_take (i := 9) (v := ?_) rfl (by kernel_rfl) (by kernel_rfl) (by kernel_rfl) (fun _ _ _ h => h) (Or.inl ⟨by rfl, ?_⟩) (by assumption) ?_
      rotate_left
      · intro wq hSw
        (try dsimp only at hSw)
        (try simp only [List.getElem_toArray, List.getElem_cons_succ, List.getElem_cons_zero])
        go_simp
        (try with_reducible rfl)
      simp only [Act.put, List.getElem_toArray, List.getElem_cons_succ, List.getElem_cons_zero, List.setIfInBounds_toArray, List.set_cons_zero, List.set_cons_succ]
      refine wpAnyH_done (by kernel_rfl) ?_ _
      have HD := Lib.hid hD
      clear hS hD hrow hr5 hg5 hr6 hg6 hb7 hY
      go_wp2
      go_roundw
      case rel => exact ⟨k - 1, _, by omega, val_int (by omega), rfl, by rw [ByteArray.size_append]; omega, HD.out.mono (by omega)⟩
      case measure => simp [intOf]; omega
    · go_wp2
      go_ret
      exact ⟨S, rfl, by omega, HD.out.2.1.mono (by omega), HD.out.2.2.1⟩
end Go.Proofs.YtdnedoafgfpnfaaGreat
