/- MuxCut, in the program and in the model. -/
import Derived.Test.YtplaagkcamjemaaMxA
import Derived.Test.YtplaagkcamjemaaOs
import Derived.Test.YtplaagkcamjemaaMark
import Derived.Test.YtplaagkcamjemaaKitBits
namespace Go.Proofs.Ytplaagkcamjemaa
open Go.ChangeShapes Go.WideShapes Go.ChangeAt Go.RowKit
def StrsPost (w : World) (ls : List (List UInt8)) (e : Ending) (w' : World) : Prop := (∃ v, e = .returned v ∧ OS w' w.heap.size v (strs ls)) ∧ Below w.heap.size w w'
def strLen : Value → Nat
  | .string s => s.size
  | _ => 0
theorem piece_head (h : Nat) (t : ByteArray) : (⟨#[UInt8.ofNat h]⟩ : ByteArray) ++ t = ⟨(pieceL h t.data.toList).toArray⟩ := by
  have e : ((⟨#[UInt8.ofNat h]⟩ : ByteArray) ++ t).data.toList = pieceL h t.data.toList := by rw [str_append]; rfl
  rw [← e, Lib.mk_data]
set_option maxRecDepth 100000 in
theorem piece_any (h : Nat) (t : ByteArray) (w : World) (hh : h < 256) (ht : t.size ≤ 1000000) :
    Calls Try.prog 44 #[.int .i64 (h : Nat), .string t] w fun e w' => e = .returned (.string ⟨(pieceL h t.data.toList).toArray⟩) ∧ Below w.heap.size w w' := by
  have HC := Lib.hid (show byteV (UInt8.ofNat h) = .int .u8 (h : Int) by
    unfold byteV; rw [UInt8.toNat_ofNat', Nat.mod_eq_of_lt (show h < 2 ^ 8 by omega)])
  have hhi : (h : Int) < 256 := by omega
  have HOB := Lib.hid (OB_one 5 w w.heap.size (Nat.le_refl _) (UInt8.ofNat h) _ HC.out)
  have hadd : ∀ v : World, (Op.stringOp .add ⟨#[UInt8.ofNat h]⟩ t).run Try.prog v = .ok (.string (⟨#[UInt8.ofNat h]⟩ ++ t)) v := fun v => run_string_add_sum v _ _ (by have : (⟨#[UInt8.ofNat h]⟩ : ByteArray).size = 1 := rfl; omega)
  go_enter Try.func44, Try.ntmps44
  go_wp2_with (refine wpList_string_of_OB _ rfl 22 9 5 _ rfl w.heap.size _ _ rfl Try.underlying22 Try.underlying5 Try.underlying9 HOB.out ?_)
  go_ret
  exact ⟨by rw [← piece_head]; rfl, (Below.refl _ _).alloc (Nat.le_refl _) _⟩
set_option maxRecDepth 100000 in
theorem frame_any (c : Nat) (b : Bool) (t : ByteArray) (w : World) (hc : c < 3) (ht : t.size ≤ 1000000) :
    Calls Try.prog 46 #[.int .i64 (c : Nat), .bool b, .string t] w fun e w' => e = .returned (.string ⟨(pieceL (if b = true then c + 128 else c) t.data.toList).toArray⟩) ∧ Below w.heap.size w w' := by
  cases b with
  | false =>
    have HC := Lib.hid (show byteV (UInt8.ofNat c) = .int .u8 (c : Int) by
      unfold byteV; rw [UInt8.toNat_ofNat', Nat.mod_eq_of_lt (show c < 2 ^ 8 by omega)])
    have hhi : (c : Int) < 3 := by omega
    have HOB := Lib.hid (OB_one 5 w w.heap.size (Nat.le_refl _) (UInt8.ofNat c) _ HC.out)
    have hadd : ∀ v : World, (Op.stringOp .add ⟨#[UInt8.ofNat c]⟩ t).run Try.prog v = .ok (.string (⟨#[UInt8.ofNat c]⟩ ++ t)) v := fun v => run_string_add_sum v _ _ (by have : (⟨#[UInt8.ofNat c]⟩ : ByteArray).size = 1 := rfl; omega)
    go_enter Try.func46, Try.ntmps46
    go_wp2_with (refine wpList_string_of_OB _ rfl 22 9 5 _ rfl w.heap.size _ _ rfl Try.underlying22 Try.underlying5 Try.underlying9 HOB.out ?_)
    go_ret
    exact ⟨by rw [← piece_head]; rfl, (Below.refl _ _).alloc (Nat.le_refl _) _⟩
  | true =>
    obtain ⟨B, hB⟩ : ∃ B, B = UInt8.ofNat (c + 128) := ⟨_, rfl⟩
    have HC := Lib.hid (show byteV B = .int .u8 ((c : Int) + 128) by
      rw [hB]; unfold byteV; rw [UInt8.toNat_ofNat', Nat.mod_eq_of_lt (show c + 128 < 2 ^ 8 by omega)]; rfl)
    have HPH := Lib.hid (show (⟨#[B]⟩ : ByteArray) ++ t = ⟨(pieceL (c + 128) t.data.toList).toArray⟩ by rw [hB]; exact piece_head _ _)
    have hhi : (c : Int) < 3 := by omega
    have HOB := Lib.hid (OB_one 5 w w.heap.size (Nat.le_refl _) B _ HC.out)
    have hadd : ∀ v : World, (Op.stringOp .add ⟨#[B]⟩ t).run Try.prog v = .ok (.string (⟨#[B]⟩ ++ t)) v := fun v => run_string_add_sum v _ _ (by have : (⟨#[B]⟩ : ByteArray).size = 1 := rfl; omega)
    clear hB
    go_enter Try.func46, Try.ntmps46
    go_wp2_with (refine wpList_string_of_OB _ rfl 22 9 5 _ rfl w.heap.size _ _ rfl Try.underlying22 Try.underlying5 Try.underlying9 HOB.out ?_)
    go_ret
    exact ⟨by rw [← HPH.out]; rfl, (Below.refl _ _).alloc (Nat.le_refl _) _⟩
theorem l1In_any (n a b : Int) (w : World) :
    Calls Try.prog 45 #[.int .i64 n, .int .i64 a, .int .i64 b] w fun e w' => e = .returned (.bool (decide (a ≤ n ∧ n ≤ b))) ∧ w = w' := by
  by_cases h1 : a ≤ n
  · by_cases h2 : n ≤ b
    · go_enter Try.func45, Try.ntmps45
      go_wp2
      go_ret
      exact ⟨by rw [decide_eq_true ⟨h1, h2⟩]; rfl, rfl⟩
    · go_enter Try.func45, Try.ntmps45
      go_wp2
      go_ret
      exact ⟨by (simp <;> omega), rfl⟩
  · go_enter Try.func45, Try.ntmps45
    go_wp2
    go_ret
    exact ⟨by (simp <;> omega), rfl⟩
theorem mslice_to (s : ByteArray) (k : Nat) (hk : k ≤ s.size) (u : World) : (Instr.slice 9 (.string s) none (some (.int .i64 (k : Int))) none).run Try.prog u = .ok (.string (s.extract 0 k)) u := by
  rw [run_slice_string_to_if u 9 s .i64 (k : Int) Try.underlying9]
  simp; omega
theorem mslice_from (s : ByteArray) (k : Nat) (hk : k ≤ s.size) (u : World) : (Instr.slice 9 (.string s) (some (.int .i64 (k : Int))) none none).run Try.prog u = .ok (.string (s.extract k s.size)) u := by
  rw [run_slice_string_from_if u 9 s .i64 (k : Int) Try.underlying9]
  simp; omega
set_option maxRecDepth 100000 in
set_option maxHeartbeats 4000000 in
theorem implMuxCut_any (ch : Int) (s : ByteArray) (size : Int) (w : World) :
    Calls Try.prog 10 #[.int .i64 ch, .string s, .int .i64 size] w (StrsPost w (cutM ch s.data.toList size)) := by
  have HSL := Lib.hid (size_list s)
  have HNO := Lib.hid (show ¬ (0 ≤ ch ∧ ch ≤ 2 ∧ s.size ≤ 40 ∧ 1 ≤ size ∧ size ≤ 40) → cutM ch s.data.toList size = [] by
    intro h; unfold cutM cutOkB; rw [HSL.out, decide_eq_false h]; rfl)
  have HND := Lib.hid (show ∀ e w', cutM ch s.data.toList size = [] → e = .returned (.slice none 0 0) → w = w' → StrsPost w (cutM ch s.data.toList size) e w' by
    rintro e w' h rfl rfl; rw [h]; exact ⟨⟨_, rfl, OS_nil _ _⟩, Below.refl _ _⟩)
  by_cases h1 : 0 ≤ ch
  case neg =>
    have HE := Lib.hid (HNO.out (by omega))
    go_enter Try.func10, Try.ntmps10
    go_wp2
    go_ret
    exact HND.out _ _ HE.out rfl rfl
  by_cases h2 : ch ≤ 2
  case neg =>
    have HE := Lib.hid (HNO.out (by omega))
    go_enter Try.func10, Try.ntmps10
    go_wp2
    go_ret
    exact HND.out _ _ HE.out rfl rfl
  by_cases h3 : s.size ≤ 40
  case neg =>
    have HE := Lib.hid (HNO.out (by omega))
    go_enter Try.func10, Try.ntmps10
    go_wp2
    go_ret
    exact HND.out _ _ HE.out rfl rfl
  by_cases h4 : 1 ≤ size
  case neg =>
    have HE := Lib.hid (HNO.out (by omega))
    go_enter Try.func10, Try.ntmps10
    go_wp2
    go_ret
    exact HND.out _ _ HE.out rfl rfl
  by_cases h5 : size ≤ 40
  case neg =>
    have HE := Lib.hid (HNO.out (by omega))
    go_enter Try.func10, Try.ntmps10
    go_wp2
    go_ret
    exact HND.out _ _ HE.out rfl rfl
  clear HNO HND
  obtain ⟨c, rfl⟩ := Int.eq_ofNat_of_zero_le h1
  obtain ⟨z, rfl⟩ := Int.eq_ofNat_of_zero_le (show 0 ≤ size by omega)
  have HCM := Lib.hid (show cutM (c : Int) s.data.toList (z : Int) = cutL c z s.data.toList by
    unfold cutM cutOkB
    rw [HSL.out, decide_eq_true ⟨h1, h2, h3, h4, h5⟩]; rfl)
  obtain ⟨i0, hi, hz0, hz1, hz2⟩ := info_parts info_str
  have HI := Lib.hid hi
  have HZ0 := Lib.hid hz0
  have HZ1 := Lib.hid hz1
  have HZ2 := Lib.hid hz2
  clear hi hz0 hz1 hz2
  go_enter Try.func10, Try.ntmps10
  go_wp2
  go_loopw [1, 7] (fun t v wr => ∃ (R : ByteArray) (pre : List (List UInt8)), t = .string R ∧ R.size + pre.length ≤ s.size ∧ cutL c z s.data.toList = pre ++ cutL c z R.data.toList ∧ OS wr w.heap.size v (strs pre) ∧ Below w.heap.size w wr) (fun t _ _ => strLen t)
  case atStart => exact ⟨s, [], rfl, by simp, rfl, OS_nil _ _, Below.refl _ _⟩
  case round =>
    obtain ⟨R, pre, rfl, hsz, hcut, hown, hb⟩ := hrel
    have HO := Lib.hid hown
    have HB := Lib.hid hb
    have HC := Lib.hid hcut
    have HPL := Lib.hid (strs_len pre)
    have HRS := Lib.hid (size_list R)
    clear hown hb hcut
    by_cases hlt : z < R.size
    · have HS := Lib.hid (cutL_more (ch := c) (size := z) (l := R.data.toList) (by rw [HRS.out]; exact hlt) (by omega))
      obtain ⟨T, hT⟩ : ∃ T, T = R.extract 0 z := ⟨_, rfl⟩
      obtain ⟨D, hD⟩ : ∃ D, D = R.extract z R.size := ⟨_, rfl⟩
      have HT := Lib.hid (show T.data.toList = R.data.toList.take z by rw [hT]; exact ext_take R z)
      have HD := Lib.hid (show D.data.toList = R.data.toList.drop z by rw [hD]; exact ext_drop R z)
      have hTs : T.size ≤ 40 := by rw [← size_list T, HT.out, List.length_take]; omega
      have hDs : D.size + z = R.size := by rw [← size_list D, HD.out, List.length_drop, HRS.out]; omega
      have hlti : (z : Int) < (R.size : Int) := by omega
      have hs1 : ∀ u : World, (Instr.slice 9 (.string R) none (some (.int .i64 (z : Int))) none).run Try.prog u = .ok (.string T) u := fun u => by rw [hT]; exact mslice_to R z (by omega) u
      have hs2 : ∀ u : World, (Instr.slice 9 (.string R) (some (.int .i64 (z : Int))) none none).run Try.prog u = .ok (.string D) u := fun u => by rw [hD]; exact mslice_from R z (by omega) u
      clear hT hD
      go_wp2_with fail
      refine (piece_any c T _ (by omega) (by omega)).mono ?_
      rintro e w2 ⟨rfl, hb2⟩
      have HB2 := Lib.hid (HB.out.trans (hb2.mono HB.out.size))
      have HO2 := Lib.hid (HO.out.below hb2)
      clear hb2
      obtain ⟨X, hX⟩ : ∃ X : ByteArray, X = ⟨(pieceL c T.data.toList).toArray⟩ := ⟨_, rfl⟩
      rw [← hX]
      have HX := Lib.hid (show strs (pre ++ [pieceL c (R.data.toList.take z)]) = strs pre ++ [X] by rw [strs_append, hX, HT.out]; rfl)
      clear hX
      go_wp2_with (at_builtin; refine wpList_append_os _ rfl _ _ 25 rfl w.heap.size i0 Try.underlying25 HI.out HZ0.out HZ1.out HZ2.out _ _ rfl (HO2.out.alloc _) _ _ [X] rfl (RS_one w2 X) (by have := HPL.out; simp only [List.length_singleton]; omega) (by have := HB2.out.size; simp; omega) ?_; intro v3 w3 hown3 hg3 _)
      go_roundw
      case rel =>
        refine ⟨D, pre ++ [pieceL c (R.data.toList.take z)], rfl, by rw [List.length_append]; simp only [List.length_singleton]; omega, ?_, by rw [HX.out]; exact hown3, (HB2.out.alloc HB2.out.size _).grown hg3 (by have := HB2.out.size; simp; omega) (fun j hj => (HO2.out.low j hj).1)⟩
        rw [HC.out, HS.out, HD.out]; simp
      case measure => simp only [strLen]; omega
    · have HS := Lib.hid (cutL_last (ch := c) (size := z) (l := R.data.toList) (by rw [HRS.out]; omega))
      go_wp2_with fail
      rw [show (c : Int) + 128 = ((c + 128 : Nat) : Int) from rfl]
      refine (piece_any (c + 128) R _ (by omega) (by omega)).mono ?_
      rintro e w2 ⟨rfl, hb2⟩
      have HB2 := Lib.hid (HB.out.trans (hb2.mono HB.out.size))
      have HO2 := Lib.hid (HO.out.below hb2)
      clear hb2
      obtain ⟨X, hX⟩ : ∃ X : ByteArray, X = ⟨(pieceL (c + 128) R.data.toList).toArray⟩ := ⟨_, rfl⟩
      rw [← hX]
      have HX := Lib.hid (show strs (pre ++ [pieceL (c + 128) R.data.toList]) = strs pre ++ [X] by rw [strs_append, hX]; rfl)
      clear hX
      go_wp2_with (at_builtin; refine wpList_append_os _ rfl _ _ 25 rfl w.heap.size i0 Try.underlying25 HI.out HZ0.out HZ1.out HZ2.out _ _ rfl (HO2.out.alloc _) _ _ [X] rfl (RS_one w2 X) (by have := HPL.out; simp only [List.length_singleton]; omega) (by have := HB2.out.size; simp; omega) ?_; intro v3 w3 hown3 hg3 _)
      go_ret
      refine ⟨⟨_, rfl, ?_⟩, (HB2.out.alloc HB2.out.size _).grown hg3 (by have := HB2.out.size; simp; omega) (fun j hj => (HO2.out.low j hj).1)⟩
      rw [HCM.out, HC.out, HS.out, HX.out]
      exact hown3
set_option maxRecDepth 100000 in
set_option maxHeartbeats 4000000 in
theorem specMuxCut_any (ch : Int) (s : ByteArray) (size : Int) (w : World) :
    Calls Try.prog 12 #[.int .i64 ch, .string s, .int .i64 size] w (StrsPost w (cutM ch s.data.toList size)) := by
  have HSL := Lib.hid (size_list s)
  have HNO := Lib.hid (show ¬ (0 ≤ ch ∧ ch ≤ 2 ∧ s.size ≤ 40 ∧ 1 ≤ size ∧ size ≤ 40) → cutM ch s.data.toList size = [] by
    intro h; unfold cutM cutOkB; rw [HSL.out, decide_eq_false h]; rfl)
  have HND := Lib.hid (show ∀ e w', cutM ch s.data.toList size = [] → e = .returned (.slice (some ⟨w.heap.size, 0, none⟩) 0 0) → w.alloc (.cells #[] 9) = w' → StrsPost w (cutM ch s.data.toList size) e w' by
    rintro e w' h rfl rfl; rw [h]; exact ⟨⟨_, rfl, OS_made w rfl⟩, (Below.refl _ _).alloc (Nat.le_refl _) _⟩)
  by_cases h1 : 0 ≤ ch
  case neg =>
    have HE := Lib.hid (HNO.out (by omega))
    have hd : (decide (0 ≤ ch) && decide (ch ≤ 2)) = false := by rw [Bool.and_eq_false_iff, decide_eq_false_iff_not, decide_eq_false_iff_not]; omega
    go_enter Try.func12, Try.ntmps12
    go_wp2_with (go_at_call 45; refine (l1In_any _ _ _ _).mono ?_; rintro e w' ⟨rfl, rfl⟩)
    all_goals (first | (exfalso; rename_i hh; have := hh.2; rw [hd3] at this; cases this) | skip)
    go_ret
    exact HND.out _ _ HE.out rfl rfl
  by_cases h2 : ch ≤ 2
  case neg =>
    have HE := Lib.hid (HNO.out (by omega))
    have hd : (decide (0 ≤ ch) && decide (ch ≤ 2)) = false := by rw [Bool.and_eq_false_iff, decide_eq_false_iff_not, decide_eq_false_iff_not]; omega
    go_enter Try.func12, Try.ntmps12
    go_wp2_with (go_at_call 45; refine (l1In_any _ _ _ _).mono ?_; rintro e w' ⟨rfl, rfl⟩)
    all_goals (first | (exfalso; rename_i hh; have := hh.2; rw [hd3] at this; cases this) | skip)
    go_ret
    exact HND.out _ _ HE.out rfl rfl
  by_cases h3 : s.size ≤ 40
  case neg =>
    have HE := Lib.hid (HNO.out (by omega))
    go_enter Try.func12, Try.ntmps12
    go_wp2_with (go_at_call 45; refine (l1In_any _ _ _ _).mono ?_; rintro e w' ⟨rfl, rfl⟩)
    all_goals (first | (exfalso; rename_i hh; have := hh.2; rw [hd3] at this; cases this) | skip)
    go_ret
    exact HND.out _ _ HE.out rfl rfl
  by_cases h4 : 1 ≤ size
  case neg =>
    have HE := Lib.hid (HNO.out (by omega))
    have hd2 : (decide (1 ≤ size) && decide (size ≤ 40)) = false := by rw [Bool.and_eq_false_iff, decide_eq_false_iff_not, decide_eq_false_iff_not]; omega
    go_enter Try.func12, Try.ntmps12
    go_wp2_with (go_at_call 45; refine (l1In_any _ _ _ _).mono ?_; rintro e w' ⟨rfl, rfl⟩)
    all_goals (first | (exfalso; rename_i hh; have := hh.2; rw [hd3] at this; cases this) | skip)
    go_ret
    exact HND.out _ _ HE.out rfl rfl
  by_cases h5 : size ≤ 40
  case neg =>
    have HE := Lib.hid (HNO.out (by omega))
    have hd2 : (decide (1 ≤ size) && decide (size ≤ 40)) = false := by rw [Bool.and_eq_false_iff, decide_eq_false_iff_not, decide_eq_false_iff_not]; omega
    have hd3 : (!decide (size ≤ 40)) = true := by rw [decide_eq_false h5]; rfl
    have hd4 : decide (size ≤ 40) = false := decide_eq_false h5
    go_enter Try.func12, Try.ntmps12
    go_wp2_with (go_at_call 45; refine (l1In_any _ _ _ _).mono ?_; rintro e w' ⟨rfl, rfl⟩)
    all_goals (first | (exfalso; rename_i hh; have := hh.2; rw [hd3] at this; cases this) | skip)
    go_ret
    exact HND.out _ _ HE.out rfl rfl
  clear HNO HND
  obtain ⟨c, rfl⟩ := Int.eq_ofNat_of_zero_le h1
  obtain ⟨z, rfl⟩ := Int.eq_ofNat_of_zero_le (show 0 ≤ size by omega)
  have HCM := Lib.hid (show cutM (c : Int) s.data.toList (z : Int) = cutL c z s.data.toList by
    unfold cutM cutOkB
    rw [HSL.out, decide_eq_true ⟨h1, h2, h3, h4, h5⟩]; rfl)
  obtain ⟨i0, hi, hz0, hz1, hz2⟩ := info_parts info_str
  have HI := Lib.hid hi
  have HZ0 := Lib.hid hz0
  have HZ1 := Lib.hid hz1
  have HZ2 := Lib.hid hz2
  clear hi hz0 hz1 hz2
  go_enter Try.func12, Try.ntmps12
  go_wp2_with (go_at_call 45; refine (l1In_any _ _ _ _).mono ?_; rintro e w' ⟨rfl, rfl⟩)
  go_loopw [1, 7] (fun t v wr => ∃ (R : ByteArray) (pre : List (List UInt8)), t = .string R ∧ R.size + pre.length ≤ s.size ∧ cutL c z s.data.toList = pre ++ cutL c z R.data.toList ∧ OS wr w.heap.size v (strs pre) ∧ Below w.heap.size w wr) (fun t _ _ => strLen t)
  case atStart => exact ⟨s, [], rfl, by simp, rfl, OS_made w rfl, (Below.refl _ _).alloc (Nat.le_refl _) _⟩
  case round =>
    obtain ⟨R, pre, rfl, hsz, hcut, hown, hb⟩ := hrel
    have HO := Lib.hid hown
    have HB := Lib.hid hb
    have HC := Lib.hid hcut
    have HPL := Lib.hid (strs_len pre)
    have HRS := Lib.hid (size_list R)
    clear hown hb hcut
    by_cases hlt : z < R.size
    · have HS := Lib.hid (cutL_more (ch := c) (size := z) (l := R.data.toList) (by rw [HRS.out]; exact hlt) (by omega))
      obtain ⟨T, hT⟩ : ∃ T, T = R.extract 0 z := ⟨_, rfl⟩
      obtain ⟨D, hD⟩ : ∃ D, D = R.extract z R.size := ⟨_, rfl⟩
      have HT := Lib.hid (show T.data.toList = R.data.toList.take z by rw [hT]; exact ext_take R z)
      have HD := Lib.hid (show D.data.toList = R.data.toList.drop z by rw [hD]; exact ext_drop R z)
      have hTs : T.size ≤ 40 := by rw [← size_list T, HT.out, List.length_take]; omega
      have hDs : D.size + z = R.size := by rw [← size_list D, HD.out, List.length_drop, HRS.out]; omega
      have hlti : (z : Int) < (R.size : Int) := by omega
      have hs1 : ∀ u : World, (Instr.slice 9 (.string R) none (some (.int .i64 (z : Int))) none).run Try.prog u = .ok (.string T) u := fun u => by rw [hT]; exact mslice_to R z (by omega) u
      have hs2 : ∀ u : World, (Instr.slice 9 (.string R) (some (.int .i64 (z : Int))) none none).run Try.prog u = .ok (.string D) u := fun u => by rw [hD]; exact mslice_from R z (by omega) u
      clear hT hD
      go_wp2_with fail
      refine (frame_any c false T _ (by omega) (by omega)).mono ?_
      rintro e w2 ⟨rfl, hb2⟩
      have HB2 := Lib.hid (HB.out.trans (hb2.mono HB.out.size))
      have HO2 := Lib.hid (HO.out.below hb2)
      clear hb2
      obtain ⟨X, hX⟩ : ∃ X : ByteArray, X = ⟨(pieceL (if false = true then c + 128 else c) T.data.toList).toArray⟩ := ⟨_, rfl⟩
      rw [← hX]
      have HX := Lib.hid (show strs (pre ++ [pieceL c (R.data.toList.take z)]) = strs pre ++ [X] by rw [strs_append, hX, HT.out]; rfl)
      clear hX
      go_wp2_with (at_builtin; refine wpList_append_os _ rfl _ _ 25 rfl w.heap.size i0 Try.underlying25 HI.out HZ0.out HZ1.out HZ2.out _ _ rfl (HO2.out.alloc _) _ _ [X] rfl (RS_one w2 X) (by have := HPL.out; simp only [List.length_singleton]; omega) (by have := HB2.out.size; simp; omega) ?_; intro v3 w3 hown3 hg3 _)
      go_roundw
      case rel =>
        refine ⟨D, pre ++ [pieceL c (R.data.toList.take z)], rfl, by rw [List.length_append]; simp only [List.length_singleton]; omega, ?_, by rw [HX.out]; exact hown3, (HB2.out.alloc HB2.out.size _).grown hg3 (by have := HB2.out.size; simp; omega) (fun j hj => (HO2.out.low j hj).1)⟩
        rw [HC.out, HS.out, HD.out]; simp
      case measure => simp only [strLen]; omega
    · have HS := Lib.hid (cutL_last (ch := c) (size := z) (l := R.data.toList) (by rw [HRS.out]; omega))
      go_wp2_with fail
      refine (frame_any c true R _ (by omega) (by omega)).mono ?_
      rintro e w2 ⟨rfl, hb2⟩
      have HB2 := Lib.hid (HB.out.trans (hb2.mono HB.out.size))
      have HO2 := Lib.hid (HO.out.below hb2)
      clear hb2
      obtain ⟨X, hX⟩ : ∃ X : ByteArray, X = ⟨(pieceL (if true = true then c + 128 else c) R.data.toList).toArray⟩ := ⟨_, rfl⟩
      rw [← hX]
      have HX := Lib.hid (show strs (pre ++ [pieceL (c + 128) R.data.toList]) = strs pre ++ [X] by rw [strs_append, hX]; rfl)
      clear hX
      go_wp2_with (at_builtin; refine wpList_append_os _ rfl _ _ 25 rfl w.heap.size i0 Try.underlying25 HI.out HZ0.out HZ1.out HZ2.out _ _ rfl (HO2.out.alloc _) _ _ [X] rfl (RS_one w2 X) (by have := HPL.out; simp only [List.length_singleton]; omega) (by have := HB2.out.size; simp; omega) ?_; intro v3 w3 hown3 hg3 _)
      go_ret
      refine ⟨⟨_, rfl, ?_⟩, (HB2.out.alloc HB2.out.size _).grown hg3 (by have := HB2.out.size; simp; omega) (fun j hj => (HO2.out.low j hj).1)⟩
      rw [HCM.out, HC.out, HS.out, HX.out]
      exact hown3
end Go.Proofs.Ytplaagkcamjemaa
