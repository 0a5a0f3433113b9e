/- The marks that the exact laws lay: a text for each number. -/
import Derived.Test.YtiknnebeaigkfaaDoorKitA
import Derived.Lib.Strings
namespace Go.Proofs.YtiknnebeaigkfaaDoor
open Go.ChangeShapes Go.WideShapes Go.ChangeAt Go.RowKit
/-- the figures of a number, none of nought -/
def figL (n : Nat) : List UInt8 := if _h : n = 0 then [] else figL (n / 10) ++ [UInt8.ofNat (48 + n % 10)]
termination_by n
decreasing_by omega
theorem figL_zero : figL 0 = [] := by rw [figL]; rfl
theorem figL_pos {n : Nat} (h : 0 < n) : figL n = figL (n / 10) ++ [UInt8.ofNat (48 + n % 10)] := by rw [figL, dif_neg (by omega)]
theorem figL_len (n : Nat) : (figL n).length ≤ n := by
  induction n using Nat.strongRecOn with
  | _ n ih =>
    by_cases h : n = 0
    · subst h; simp [figL_zero]
    · rw [figL_pos (by omega), List.length_append]
      have := ih (n / 10) (by omega)
      simp; omega
def markL (n : Nat) : List UInt8 := 109 :: figL n
theorem str_append (a b : ByteArray) : (a ++ b).data.toList = a.data.toList ++ b.data.toList := by simp
theorem OB_one (e : TypeId) (w : World) (base : Nat) (hb : base ≤ w.heap.size) (c : UInt8) (v : Value) (hv : byteV c = v) : OB e (w.alloc (.cells #[v] e)) base (.slice (some ⟨w.heap.size, 0, none⟩) 1 1) [c] :=
  .inr ⟨w.heap.size, 1, _, (0, 0), by simp, hb, heap_alloc_new w _, .inl rfl, by simp, by simp [maxLen], by simp, by simp [hv]⟩
set_option maxRecDepth 100000 in
set_option maxHeartbeats 1000000 in
theorem markText_any (n : Nat) (w : World) (h0 : 0 < n) (hn : n ≤ 1000000000) :
    Calls Tryd.prog 37 #[.int .i64 n] w fun e w' => e = .returned (.string ⟨(markL n).toArray⟩) ∧ Below w.heap.size w w' := by
  have HL := Lib.hid (figL_len n)
  have hd : decide (n = 0) = false := by simp; omega
  go_enter Tryd.func37, Tryd.ntmps37
  go_wp2
  go_loopw [0, 3] (fun k out wr => ∃ (m : Nat) (s : ByteArray), m ≤ n ∧ k = .int .i64 m ∧ out = .string s ∧ figL n = figL m ++ s.data.toList ∧ Below w.heap.size w wr) (fun k _ _ => (intOf k).toNat)
  case atStart => exact ⟨n, ⟨#[]⟩, Nat.le_refl _, rfl, rfl, by simp, Below.refl _ _⟩
  case round =>
    obtain ⟨m, s, hm, rfl, rfl, hf, hb⟩ := hrel
    have HF := Lib.hid hf
    have HB := Lib.hid hb
    have hsl : s.size ≤ n := by
      have h1 := HL.out
      rw [hf, List.length_append] at h1
      have h2 : s.data.toList.length = s.size := by simp
      omega
    clear hf hb
    by_cases hp : 0 < m
    · have HP := Lib.hid (figL_pos hp)
      obtain ⟨q, hq⟩ : ∃ q, m / 10 = q := ⟨_, rfl⟩
      obtain ⟨r, hr⟩ : ∃ r, m % 10 = r := ⟨_, rfl⟩
      have hqi : (m : Int) / 10 = (q : Int) := by omega
      have hqi2 : (m : Int).tdiv 10 = (q : Int) := by rw [Int.tdiv_eq_ediv_of_nonneg (by omega)]; exact hqi
      have hri : (m : Int) % 10 = (r : Int) := by omega
      have hri2 : (m : Int).tmod 10 = (r : Int) := by rw [Int.tmod_eq_emod_of_nonneg (by omega)]; exact hri
      have hr10 : r < 10 := by omega
      have hqm : q < m := by omega
      rw [hq, hr] at HP
      clear hq hr
      have HC := Lib.hid (show byteV (UInt8.ofNat (48 + r)) = .int .u8 (48 + (r : Int)) by
        unfold byteV; rw [UInt8.toNat_ofNat', Nat.mod_eq_of_lt (show 48 + r < 2 ^ 8 by omega)]; rfl)
      have HOB := Lib.hid (OB_one 5 wr w.heap.size HB.out.size (UInt8.ofNat (48 + r)) _ HC.out)
      go_wp2_with (refine wpList_string_of_OB _ rfl 22 9 5 _ rfl w.heap.size _ _ rfl Tryd.underlying22 Tryd.underlying5 Tryd.underlying9 HOB.out ?_)
      go_roundw
      case rel =>
        refine ⟨q, _, by omega, rfl, rfl, ?_, HB.out.alloc HB.out.size _⟩
        rw [HF.out, HP.out, str_append]
        simp
      case measure => simp [intOf]; omega
    · obtain rfl : m = 0 := by omega
      go_wp2
      go_ret
      refine ⟨?_, HB.out⟩
      have e : (⟨#[109]⟩ : ByteArray) ++ s = ⟨(markL n).toArray⟩ := by
        have h1 : ((⟨#[109]⟩ : ByteArray) ++ s).data.toList = markL n := by
          rw [str_append, markL, HF.out, figL_zero]; rfl
        rw [← h1, Lib.mk_data]
      rw [← e]
      rfl
end Go.Proofs.YtiknnebeaigkfaaDoor
