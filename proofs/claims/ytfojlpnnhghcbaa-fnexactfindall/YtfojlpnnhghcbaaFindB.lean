/- Whether a finder is ok, in the program and in the model; the delimiter of a codec. -/
import Derived.Test.YtfojlpnnhghcbaaFindA
import Derived.Test.YtfojlpnnhghcbaaIdx
namespace Go.Proofs.Ytfojlpnnhghcbaa
open Go.ChangeShapes Go.WideShapes Go.ChangeAt Go.RowKit
set_option maxHeartbeats 1000000 in
theorem l7ConfOk_any (a b d m : Int) (w : World) :
    Calls Try.prog 44 #[cfV a b d m] w fun e w' => e = .returned (.bool (confB ⟨a, b, d, m⟩)) ∧ Below w.heap.size w w' := by
  cases h1 : inB a 1 3 with
  | false =>
    have HE := Lib.hid (show confB ⟨a, b, d, m⟩ = false by simp [confB, h1])
    go_enter Try.func44, Try.ntmps44
    go_wp2_with (go_at_call 66; refine (l1In_any _ _ _ _).mono ?_; rintro e w' ⟨rfl, rfl⟩; rw [h1])
    go_ret
    exact ⟨by rw [HE.out]; rfl, (Below.refl _ _).alloc (Nat.le_refl _) _⟩
  | true =>
    cases h2 : kindB b with
    | false =>
      have HE := Lib.hid (show confB ⟨a, b, d, m⟩ = false by simp [confB, h2])
      go_enter Try.func44, Try.ntmps44
      go_wp2_with (first | (go_at_call 66; refine (l1In_any _ _ _ _).mono ?_; rintro e w' ⟨rfl, rfl⟩; rw [h1]) | (go_at_call 67; refine (l1Kind_any _ _).mono ?_; rintro e w' ⟨rfl, rfl⟩; rw [h2]))
      go_ret
      exact ⟨by rw [HE.out]; rfl, (Below.refl _ _).alloc (Nat.le_refl _) _⟩
    | true =>
      cases h3 : inB d 0 40 with
      | false =>
        have HE := Lib.hid (show confB ⟨a, b, d, m⟩ = false by simp [confB, h3])
        go_enter Try.func44, Try.ntmps44
        go_wp2_with (first | (go_at_call 66; refine (l1In_any _ _ _ _).mono ?_; rintro e w' ⟨rfl, rfl⟩; first | rw [h1] | rw [h3]) | (go_at_call 67; refine (l1Kind_any _ _).mono ?_; rintro e w' ⟨rfl, rfl⟩; rw [h2]))
        go_ret
        exact ⟨by rw [HE.out]; rfl, (Below.refl _ _).alloc (Nat.le_refl _) _⟩
      | true =>
        cases h4 : mapOkB m with
        | false =>
          have HE := Lib.hid (show confB ⟨a, b, d, m⟩ = false by simp [confB, h4])
          go_enter Try.func44, Try.ntmps44
          go_wp2_with (first | (go_at_call 66; refine (l1In_any _ _ _ _).mono ?_; rintro e w' ⟨rfl, rfl⟩; first | rw [h1] | rw [h3]) | (go_at_call 67; refine (l1Kind_any _ _).mono ?_; rintro e w' ⟨rfl, rfl⟩; rw [h2]) | (go_at_call 68; refine (l5Map_any _ _).mono ?_; rintro e w' ⟨rfl, rfl⟩; rw [h4]))
          go_ret
          exact ⟨by rw [HE.out]; rfl, (Below.refl _ _).alloc (Nat.le_refl _) _⟩
        | true =>
          by_cases h5 : a = 1
          · subst h5
            have HE := Lib.hid (show confB ⟨1, b, d, m⟩ = true by simp [confB, h1, h2, h3, h4])
            go_enter Try.func44, Try.ntmps44
            go_wp2_with (first | (go_at_call 66; refine (l1In_any _ _ _ _).mono ?_; rintro e w' ⟨rfl, rfl⟩; first | rw [h1] | rw [h3]) | (go_at_call 67; refine (l1Kind_any _ _).mono ?_; rintro e w' ⟨rfl, rfl⟩; rw [h2]) | (go_at_call 68; refine (l5Map_any _ _).mono ?_; rintro e w' ⟨rfl, rfl⟩; rw [h4]))
            go_ret
            exact ⟨by rw [HE.out]; rfl, (Below.refl _ _).alloc (Nat.le_refl _) _⟩
          · have h5b : (a == 1) = false := by simpa using h5
            have HE := Lib.hid (show confB ⟨a, b, d, m⟩ = (m == 0) by
              have : decide (m = 0) = (m == 0) := by rw [Bool.eq_iff_iff]; simp
              simp [confB, h1, h2, h3, h4, h5, this])
            go_enter Try.func44, Try.ntmps44
            go_wp2_with (first | (go_at_call 66; refine (l1In_any _ _ _ _).mono ?_; rintro e w' ⟨rfl, rfl⟩; first | rw [h1] | rw [h3]) | (go_at_call 67; refine (l1Kind_any _ _).mono ?_; rintro e w' ⟨rfl, rfl⟩; rw [h2]) | (go_at_call 68; refine (l5Map_any _ _).mono ?_; rintro e w' ⟨rfl, rfl⟩; rw [h4]))
            go_ret
            exact ⟨by rw [HE.out]; rfl, (Below.refl _ _).alloc (Nat.le_refl _) _⟩
theorem specConfOk_any (a b d m : Int) (w : World) :
    Calls Try.prog 17 #[cfV a b d m] w fun e w' => e = .returned (.bool (confB ⟨a, b, d, m⟩)) ∧ Below w.heap.size w w' := by
  go_enter Try.func17, Try.ntmps17
  go_wp2_with (go_at_call 44; refine (l7ConfOk_any a b d m _).mono ?_; rintro e w4 ⟨rfl, hb4⟩)
  go_ret
  exact ⟨rfl, alloc_below hb4⟩
theorem toConf_any (a b d m : Int) (w : World) :
    Calls Try.prog 31 #[cfV a b d m] w fun e w' => e = .returned (cfV a b d m) ∧ Below w.heap.size w w' := by
  have hz : ∀ w : World, (zeroValue 24).run Try.prog w = .ok (.agg #[.int .i64 0, .int .i64 0, .int .i64 0, .int .i64 0]) w := fun w => by kernel_rfl
  go_enter Try.func31, Try.ntmps31
  go_wp2
  exact bodyPost_ret (v := cfV a b d m) (by simp [results, Try.results31, go_sem]) rfl ⟨rfl, by first | exact (below2 _ _ _).alloc (by simp; omega) _ | exact below2 _ _ _⟩
end Go.Proofs.Ytfojlpnnhghcbaa
