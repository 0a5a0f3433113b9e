/- strings.Repeat by its contract; the scrambler in the program: ScramPut, ScramGet, ScramOnes. -/
import Derived.Test.YtcljldnaecldnaaScrE
import Derived.Test.YtcljldnaecldnaaScrC
import Derived.Shelf.Strings.Repeat
namespace Go.Proofs.Ytcljldnaecldnaa
open Go.ChangeShapes Go.WideShapes Go.ChangeAt Go.RowKit Go.Conc
def laysRepeat_ren : Go.Shelf.Ren := ⟨fun | 105 => 34 | 212 => 41 | 99 => 42 | 165 => 43 | 166 => 44 | 170 => 45 | 169 => 46 | 263 => 47 | 264 => 48 | 206 => 49 | 240 => 50 | 241 => 51 | 276 => 52 | 277 => 53 | n => n, fun | 9 => 9 | 3 => 3 | 4 => 4 | 20 => 20 | 0 => 0 | 46 => 62 | 109 => 63 | 5 => 5 | 72 => 68 | 76 => 72 | 51 => 77 | 146 => 78 | 53 => 80 | 148 => 81 | 70 => 66 | 37 => 22 | 75 => 71 | 127 => 83 | 164 => 84 | 80 => 75 | n => n, fun | n => n⟩
theorem laysRepeat : Go.Proofs.Lays.n105 Try.prog laysRepeat_ren := {
  mixed := by kernel_rfl
  f99 := Try.func42.trans (congrArg some (by kernel_rfl))
  f105 := Try.func34.trans (congrArg some (by kernel_rfl))
  f165 := Try.func43.trans (congrArg some (by kernel_rfl))
  f166 := Try.func44.trans (congrArg some (by kernel_rfl))
  f169 := Try.func46.trans (congrArg some (by kernel_rfl))
  f170 := Try.func45.trans (congrArg some (by kernel_rfl))
  f206 := Try.func49.trans (congrArg some (by kernel_rfl))
  f212 := Try.func41.trans (congrArg some (by kernel_rfl))
  f240 := Try.func50.trans (congrArg some (by kernel_rfl))
  f241 := Try.func51.trans (congrArg some (by kernel_rfl))
  f263 := Try.func47.trans (congrArg some (by kernel_rfl))
  f264 := Try.func48.trans (congrArg some (by kernel_rfl))
  f276 := Try.func52.trans (congrArg some (by kernel_rfl))
  f277 := Try.func53.trans (congrArg some (by kernel_rfl))
  t0 := Try.underlying0
  a0 := Try.isAgg0
  z0 := Try.sizeOf0
  v0 := Try.zeroValue0
  t3 := Try.underlying3
  a3 := Try.isAgg3
  z3 := Try.sizeOf3
  v3 := Try.zeroValue3
  t4 := Try.underlying4
  a4 := Try.isAgg4
  z4 := Try.sizeOf4
  v4 := Try.zeroValue4
  t5 := Try.underlying5
  a5 := Try.isAgg5
  z5 := Try.sizeOf5
  v5 := Try.zeroValue5
  t9 := Try.underlying9
  a9 := Try.isAgg9
  z9 := Try.sizeOf9
  v9 := Try.zeroValue9
  t20 := Try.underlying20
  a20 := Try.isAgg20
  z20 := Try.sizeOf20
  v20 := Try.zeroValue20
  t37 := Try.underlying22
  a37 := Try.isAgg22
  z37 := Try.sizeOf22
  v37 := Try.zeroValue22
  t46 := Try.underlying62
  a46 := Try.isAgg62
  z46 := Try.sizeOf62
  v46 := Try.zeroValue62
  t51 := Try.underlying77
  a51 := Try.isAgg77
  z51 := Try.sizeOf77
  v51 := Try.zeroValue77
  t53 := Try.underlying80
  a53 := Try.isAgg80
  z53 := Try.sizeOf80
  v53 := Try.zeroValue80
  t70 := Try.underlying66
  a70 := Try.isAgg66
  z70 := Try.sizeOf66
  v70 := Try.zeroValue66
  t72 := Try.underlying68
  a72 := Try.isAgg68
  z72 := Try.sizeOf68
  v72 := Try.zeroValue68
  t75 := Try.underlying71
  a75 := Try.isAgg71
  z75 := Try.sizeOf71
  v75 := Try.zeroValue71
  t76 := Try.underlying72
  a76 := Try.isAgg72
  z76 := Try.sizeOf72
  v76 := Try.zeroValue72
  t109 := Try.underlying63
  a109 := Try.isAgg63
  z109 := Try.sizeOf63
  v109 := Try.zeroValue63
  t127 := Try.underlying83
  a127 := Try.isAgg83
  z127 := Try.sizeOf83
  v127 := Try.zeroValue83
  t146 := Try.underlying78
  a146 := Try.isAgg78
  z146 := Try.sizeOf78
  v146 := Try.zeroValue78
  t148 := Try.underlying81
  a148 := Try.isAgg81
  z148 := Try.sizeOf81
  v148 := Try.zeroValue81
  t164 := Try.underlying84
  a164 := Try.isAgg84
  z164 := Try.sizeOf84
  v164 := Try.zeroValue84 }
theorem extraRepeat : Go.Proofs.Builder.Extra Try.prog laysRepeat_ren := {
  sizeBuilder := by kernel_rfl
  liesBuilder := by kernel_rfl
  t5 := laysRepeat.t5
  a5 := laysRepeat.a5
  z5 := laysRepeat.z5
  v5 := laysRepeat.v5
  infoByte := by kernel_rfl
  cellsByte := by kernel_rfl
  sizeByte := by kernel_rfl
  neB5 := by decide }
theorem repeatL_nought (n : Nat) : Lib.repeatL [48] n = List.replicate n (48 : UInt8) := by
  induction n with
  | zero => rfl
  | succ n ih => simp_all [Lib.repeatL, List.replicate_succ]
theorem repeat_noughts (n : Nat) (w : World) (hn : n ≤ 1200) :
    Calls Try.prog 34 #[.string ⟨#[48]⟩, .int .i64 n] w fun e w' => e = .returned (.string ⟨(List.replicate n (48 : UInt8)).toArray⟩) ∧ Below w.heap.size w w' := by
  rw [← repeatL_nought]
  exact Go.Proofs.Any.strings_Repeat laysRepeat extraRepeat ⟨#[48]⟩ n w (by omega) (by show 1 * n ≤ _; omega)
/-- what both sides answer -/
def scOkB (st : Int) (s : ByteArray) : Bool := stB st && okB s.data.toList
def endS (f : Nat → Bool → Nat × Bool) (st : Int) (s : ByteArray) : Int := if scOkB st s then ((mealy f st.toNat s.data.toList).1 : Nat) else -1
def outS (f : Nat → Bool → Nat × Bool) (st : Int) (s : ByteArray) : ByteArray := if scOkB st s then ⟨(mealy f st.toNat s.data.toList).2.toArray⟩ else ⟨#[]⟩
theorem scOk_parts {st : Int} {s : ByteArray} (h : scOkB st s = true) : (0 ≤ st ∧ st ≤ 127) ∧ okB s.data.toList = true := by
  unfold scOkB stB at h
  rw [Bool.and_eq_true, Bool.and_eq_true, decide_eq_true_iff, decide_eq_true_iff] at h
  exact h
theorem implScPut_any (st : Int) (s : ByteArray) (w : World) (hs : s.size ≤ maxLen) :
    Calls Try.prog 11 #[.int .i64 st, .string s] w fun e w' => e = .returned (.tuple #[.int .i64 (endS scP st s), .string (outS scP st s)]) ∧ Below w.heap.size w w' := by
  cases hok : scOkB st s with
  | false =>
    have HE := Lib.hid (show endS scP st s = -1 by unfold endS; rw [hok]; rfl)
    have HO := Lib.hid (show outS scP st s = ⟨#[]⟩ by unfold outS; rw [hok]; rfl)
    unfold scOkB at hok
    have HK := Lib.hid hok
    clear hok
    go_enter Try.func11, Try.ntmps11
    go_wp2_with (go_at_call 24; refine (runPut_no st s _ hs HK.out).mono ?_; rintro e w' ⟨rfl, rfl⟩)
    go_ret2
    exact ⟨by rw [HE.out, HO.out]; rfl, Below.refl _ _⟩
  | true =>
    have HE := Lib.hid (show endS scP st s = ((mealy scP st.toNat s.data.toList).1 : Nat) by unfold endS; rw [hok]; rfl)
    have HO := Lib.hid (show outS scP st s = ⟨(mealy scP st.toNat s.data.toList).2.toArray⟩ by unfold outS; rw [hok]; rfl)
    obtain ⟨⟨h1, h2⟩, h3⟩ := scOk_parts hok
    clear hok
    obtain ⟨n, rfl⟩ := Int.eq_ofNat_of_zero_le h1
    rw [Int.toNat_natCast] at HE HO
    have H3 := Lib.hid h3
    clear h3
    go_enter Try.func11, Try.ntmps11
    go_wp2_with (go_at_call 24; refine (runPut_yes n s _ (by omega) H3.out).mono ?_; rintro e w1 ⟨rfl, hb1⟩; have HB1 := Lib.hid hb1; clear hb1)
    go_ret2
    exact ⟨by rw [HE.out, HO.out]; rfl, HB1.out⟩
theorem specScPut_any (st : Int) (s : ByteArray) (w : World) (hs : s.size ≤ maxLen) :
    Calls Try.prog 12 #[.int .i64 st, .string s] w fun e w' => e = .returned (.tuple #[.int .i64 (endS scP st s), .string (outS scP st s)]) ∧ Below w.heap.size w w' := by
  cases hok : scOkB st s with
  | false =>
    refine (specScramPut_no st s w hs hok).mono ?_
    rintro e w' ⟨rfl, rfl⟩
    refine ⟨?_, Below.refl _ _⟩
    unfold endS outS; rw [hok]; rfl
  | true =>
    obtain ⟨⟨h1, h2⟩, h3⟩ := scOk_parts hok
    obtain ⟨n, rfl⟩ := Int.eq_ofNat_of_zero_le h1
    refine (specScramPut_yes n s w (by omega) h3).mono ?_
    rintro e w' ⟨rfl, hb⟩
    refine ⟨?_, hb⟩
    unfold endS outS; rw [hok]; rfl
theorem implScGet_any (st : Int) (s : ByteArray) (w : World) (hs : s.size ≤ maxLen) :
    Calls Try.prog 13 #[.int .i64 st, .string s] w fun e w' => e = .returned (.tuple #[.int .i64 (endS scG st s), .string (outS scG st s)]) ∧ Below w.heap.size w w' := by
  cases hok : scOkB st s with
  | false =>
    have HE := Lib.hid (show endS scG st s = -1 by unfold endS; rw [hok]; rfl)
    have HO := Lib.hid (show outS scG st s = ⟨#[]⟩ by unfold outS; rw [hok]; rfl)
    unfold scOkB at hok
    have HK := Lib.hid hok
    clear hok
    go_enter Try.func13, Try.ntmps13
    go_wp2_with (go_at_call 24; refine (runGet_no st s _ hs HK.out).mono ?_; rintro e w' ⟨rfl, rfl⟩)
    go_ret2
    exact ⟨by rw [HE.out, HO.out]; rfl, Below.refl _ _⟩
  | true =>
    have HE := Lib.hid (show endS scG st s = ((mealy scG st.toNat s.data.toList).1 : Nat) by unfold endS; rw [hok]; rfl)
    have HO := Lib.hid (show outS scG st s = ⟨(mealy scG st.toNat s.data.toList).2.toArray⟩ by unfold outS; rw [hok]; rfl)
    obtain ⟨⟨h1, h2⟩, h3⟩ := scOk_parts hok
    clear hok
    obtain ⟨n, rfl⟩ := Int.eq_ofNat_of_zero_le h1
    rw [Int.toNat_natCast] at HE HO
    have H3 := Lib.hid h3
    clear h3
    go_enter Try.func13, Try.ntmps13
    go_wp2_with (go_at_call 24; refine (runGet_yes n s _ (by omega) H3.out).mono ?_; rintro e w1 ⟨rfl, hb1⟩; have HB1 := Lib.hid hb1; clear hb1)
    go_ret2
    exact ⟨by rw [HE.out, HO.out]; rfl, HB1.out⟩
theorem specScGet_any (st : Int) (s : ByteArray) (w : World) (hs : s.size ≤ maxLen) :
    Calls Try.prog 15 #[.int .i64 st, .string s] w fun e w' => e = .returned (.tuple #[.int .i64 (endS scG st s), .string (outS scG st s)]) ∧ Below w.heap.size w w' := by
  cases hok : scOkB st s with
  | false =>
    refine (specScramGet_no st s w hs hok).mono ?_
    rintro e w' ⟨rfl, rfl⟩
    refine ⟨?_, Below.refl _ _⟩
    unfold endS outS; rw [hok]; rfl
  | true =>
    obtain ⟨⟨h1, h2⟩, h3⟩ := scOk_parts hok
    obtain ⟨n, rfl⟩ := Int.eq_ofNat_of_zero_le h1
    refine (specScramGet_yes n s w (by omega) h3).mono ?_
    rintro e w' ⟨rfl, hb⟩
    refine ⟨?_, hb⟩
    unfold endS outS; rw [hok]; rfl
theorem ones_out (st : Nat) (n : Nat) (hs : st < 128) (hn : n ≤ 1200) : outS scP st ⟨(List.replicate n (48 : UInt8)).toArray⟩ = ⟨(onesL st n).toArray⟩ := by
  unfold outS
  rw [if_pos (by unfold scOkB stB; rw [decide_eq_true (show 0 ≤ (st : Int) by omega), decide_eq_true (show (st : Int) ≤ 127 by omega), noughts_ok hn]; rfl)]
  rfl
theorem implOnes_any (st many : Int) (w : World) :
    Calls Try.prog 19 #[.int .i64 st, .int .i64 many] w fun e w' => e = .returned (.string (onesWB st many)) ∧ Below w.heap.size w w' := by
  by_cases h1 : many < 0
  · have HE := Lib.hid (show onesWB st many = ⟨#[]⟩ by unfold onesWB onesOkB; rw [decide_eq_false (show ¬ 0 ≤ many by omega)]; simp)
    go_enter Try.func19, Try.ntmps19
    go_wp2
    go_ret
    exact ⟨by rw [HE.out]; rfl, Below.refl _ _⟩
  · by_cases h2 : 1200 < many
    · have HE := Lib.hid (show onesWB st many = ⟨#[]⟩ by unfold onesWB onesOkB; rw [decide_eq_false (show ¬ many ≤ 1200 by omega)]; simp)
      go_enter Try.func19, Try.ntmps19
      go_wp2
      go_ret
      exact ⟨by rw [HE.out]; rfl, Below.refl _ _⟩
    · obtain ⟨n, rfl⟩ := Int.eq_ofNat_of_zero_le (show 0 ≤ many by omega)
      have HE := Lib.hid (show outS scP st ⟨(List.replicate n (48 : UInt8)).toArray⟩ = onesWB st n by
        cases hst : stB st with
        | false => unfold outS onesWB scOkB onesOkB; rw [hst]; rfl
        | true =>
          have h := hst
          unfold stB at h
          rw [Bool.and_eq_true, decide_eq_true_iff, decide_eq_true_iff] at h
          obtain ⟨m, rfl⟩ := Int.eq_ofNat_of_zero_le h.1
          rw [ones_out m n (by omega) (by omega)]
          unfold onesWB onesOkB
          rw [hst, decide_eq_true (show 0 ≤ (n : Int) by omega), decide_eq_true (show (n : Int) ≤ 1200 by omega)]
          rfl)
      have hmax : (⟨(List.replicate n (48 : UInt8)).toArray⟩ : ByteArray).size ≤ maxLen := by
        rw [show (⟨(List.replicate n (48 : UInt8)).toArray⟩ : ByteArray).size = n by simp [ByteArray.size]]
        unfold maxLen; omega
      go_enter Try.func19, Try.ntmps19
      go_wp2_with (first | (go_at_call 34; refine (repeat_noughts n _ (by omega)).mono ?_; rintro e w1 ⟨rfl, hb1⟩; have HB1 := Lib.hid hb1; clear hb1) | (go_at_call 11; refine (implScPut_any st _ _ hmax).mono ?_; rintro e w2 ⟨rfl, hb2⟩; rw [HE.out]; have HB2 := Lib.hid hb2; clear hb2))
      go_ret
      exact ⟨rfl, HB1.out.trans (HB2.out.mono HB1.out.size)⟩
end Go.Proofs.Ytcljldnaecldnaa
