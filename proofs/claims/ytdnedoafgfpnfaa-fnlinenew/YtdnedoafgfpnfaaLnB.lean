/- LineOk, in the program and in the model. -/
import Derived.Test.YtdnedoafgfpnfaaLnA
namespace Go.Proofs.Ytdnedoafgfpnfaa
open Go.ChangeShapes Go.WideShapes Go.ChangeAt Go.RowKit
set_option maxRecDepth 100000 in
set_option maxHeartbeats 4000000 in
theorem implLineOk_any (a b d m nx : Int) (vm : Value) (ms : List ByteArray) (ag at_ ab : Option Addr) (ng cg nt ct nb cb : Nat) (T H : ByteArray) (to ho : Bool) (w : World) (B : Nat) (h : RS w B vm ms) (hB : B ≤ w.heap.size) (wa : (Lit.int .i64 a).wf = true)
    (hT : T.size ≤ maxLen) (hH : H.size ≤ maxLen) (hl : ms.length ≤ maxLen) (hz : ∀ s ∈ ms, s.size ≤ maxLen) :
    Calls Try.prog 11 #[lnV a b d m vm nx (.slice ag ng cg) T to H ho (.slice at_ nt ct) (.slice ab nb cb)] w fun e w' => e = .returned (.bool (lineB ⟨a, b, d, m⟩ ms nx ng ⟨T.data.toList, to⟩ ⟨H.data.toList, ho⟩ nt nb)) ∧ Below w.heap.size w w' := by
  obtain ⟨A, cap, rfl⟩ := h.shape
  have HB := Lib.hid ((Below.refl _ w).alloc (Nat.le_refl _) (.cells #[.int .i64 a, .int .i64 b, .int .i64 d, .int .i64 m, .slice A ms.length cap, .int .i64 nx, .slice ag ng cg, .string T, .bool to, .string H, .bool ho, .slice at_ nt ct, .slice ab nb cb] 31))
  have hk := BK.new w #[.int .i64 a, .int .i64 b, .int .i64 d, .int .i64 m, .slice A ms.length cap, .int .i64 nx, .slice ag ng cg, .string T, .bool to, .string H, .bool ho, .slice at_ nt ct, .slice ab nb cb] 31
  obtain ⟨c0, c1, c2, c3, c4, c5, c6, c7, c8, c9, c10, c11, c12⟩ := cells13 hk
  have HRM := Lib.hid (h.below ((Below.refl B w).alloc hB (.cells #[.int .i64 a, .int .i64 b, .int .i64 d, .int .i64 m, .slice A ms.length cap, .int .i64 nx, .slice ag ng cg, .string T, .bool to, .string H, .bool ho, .slice at_ nt ct, .slice ab nb cb] 31)))
  have HBW := Lib.hid (show B ≤ (w.alloc (.cells #[.int .i64 a, .int .i64 b, .int .i64 d, .int .i64 m, .slice A ms.length cap, .int .i64 nx, .slice ag ng cg, .string T, .bool to, .string H, .bool ho, .slice at_ nt ct, .slice ab nb cb] 31)).heap.size by simp; omega)
  have HK := Lib.hid hk
  have HZ := Lib.hid hz
  clear h hk hz
  have hlm : ms.length ≤ 9223372036854775807 := by unfold maxLen at hl; omega
  go_enter Try.func11, Try.ntmps11
  go_wp2_with fail
  refine (implFindOkD_any a b d m T to _ wa hT).mono ?_
  rintro e x1 ⟨rfl, hbx⟩
  have hk := HK.out.from hbx
  obtain ⟨c0, c1, c2, c3, c4, c5, c6, c7, c8, c9, c10, c11, c12⟩ := cells13 hk
  have HRM := Lib.hid (HRM.out.below (hbx.mono HBW.out))
  have HBW := Lib.hid (Nat.le_trans HBW.out hbx.size)
  have HB := Lib.hid (HB.out.trans (hbx.mono HB.out.size))
  have HK := Lib.hid hk
  clear hk hbx
  cases hF : okF ⟨a, b, d, m⟩ ⟨T.data.toList, to⟩ with
  | false =>
    have HE := Lib.hid (show lineB ⟨a, b, d, m⟩ ms nx ng ⟨T.data.toList, to⟩ ⟨H.data.toList, ho⟩ nt nb = false by simp [lineB, hF])
    go_wp2
    go_ret
    exact ⟨by rw [HE.out]; rfl, HB.out⟩
  | true =>
    have HF := Lib.hid hF
    clear hF
    go_wp2_with fail
    refine (implFindOkD_any a b d m H ho _ wa hH).mono ?_
    rintro e x2 ⟨rfl, hbx⟩
    have hk := HK.out.from hbx
    obtain ⟨c0, c1, c2, c3, c4, c5, c6, c7, c8, c9, c10, c11, c12⟩ := cells13 hk
    have HRM := Lib.hid (HRM.out.below (hbx.mono HBW.out))
    have HBW := Lib.hid (Nat.le_trans HBW.out hbx.size)
    have HB := Lib.hid (HB.out.trans (hbx.mono HB.out.size))
    have HK := Lib.hid hk
    clear hk hbx
    cases hF : okF ⟨a, b, d, m⟩ ⟨H.data.toList, ho⟩ with
    | false =>
      have HE := Lib.hid (show lineB ⟨a, b, d, m⟩ ms nx ng ⟨T.data.toList, to⟩ ⟨H.data.toList, ho⟩ nt nb = false by simp [lineB, hF])
      go_wp2
      go_ret
      exact ⟨by rw [HE.out]; rfl, HB.out⟩
    | true =>
      have HH := Lib.hid hF
      clear hF
      go_wp2_with fail
      refine (msgsOk_any a b d m _ ms _ B HRM.out HBW.out hl HZ.out).mono ?_
      rintro e x3 ⟨rfl, hbx⟩
      have hk := HK.out.from hbx
      obtain ⟨c0, c1, c2, c3, c4, c5, c6, c7, c8, c9, c10, c11, c12⟩ := cells13 hk
      have HRM := Lib.hid (HRM.out.below (hbx.mono HBW.out))
      have HBW := Lib.hid (Nat.le_trans HBW.out hbx.size)
      have HB := Lib.hid (HB.out.trans (hbx.mono HB.out.size))
      have HK := Lib.hid hk
      clear hk hbx
      cases hF : msgsB d ms with
      | false =>
        have HE := Lib.hid (show lineB ⟨a, b, d, m⟩ ms nx ng ⟨T.data.toList, to⟩ ⟨H.data.toList, ho⟩ nt nb = false by simp [lineB, hF])
        go_wp2
        go_ret
        exact ⟨by rw [HE.out]; rfl, HB.out⟩
      | true =>
        have HM := Lib.hid hF
        clear hF
        rcases (show nx < 0 ∨ 0 ≤ nx by omega) with h1 | h1
        · have HE := Lib.hid (show lineB ⟨a, b, d, m⟩ ms nx ng ⟨T.data.toList, to⟩ ⟨H.data.toList, ho⟩ nt nb = false by simp [lineB]; omega)
          go_wp2
          go_ret
          exact ⟨by rw [HE.out]; rfl, HB.out⟩
        rcases (show (ms.length : Int) < nx ∨ nx ≤ (ms.length : Int) by omega) with h2 | h2
        · have HE := Lib.hid (show lineB ⟨a, b, d, m⟩ ms nx ng ⟨T.data.toList, to⟩ ⟨H.data.toList, ho⟩ nt nb = false by simp [lineB]; omega)
          go_wp2
          go_ret
          exact ⟨by rw [HE.out]; rfl, HB.out⟩
        rcases Nat.lt_or_ge ms.length ng with h3 | h3
        · have HE := Lib.hid (show lineB ⟨a, b, d, m⟩ ms nx ng ⟨T.data.toList, to⟩ ⟨H.data.toList, ho⟩ nt nb = false by simp [lineB]; omega)
          go_wp2
          go_ret
          exact ⟨by rw [HE.out]; rfl, HB.out⟩
        rcases Nat.lt_or_ge 5 nt with h4 | h4
        · have HE := Lib.hid (show lineB ⟨a, b, d, m⟩ ms nx ng ⟨T.data.toList, to⟩ ⟨H.data.toList, ho⟩ nt nb = false by simp [lineB]; omega)
          go_wp2
          go_ret
          exact ⟨by rw [HE.out]; rfl, HB.out⟩
        rcases Nat.lt_or_ge 5 nb with h5 | h5
        · have hdec : decide ((nb : Int) ≤ 5) = false := decide_eq_false (by omega)
          have HE := Lib.hid (show lineB ⟨a, b, d, m⟩ ms nx ng ⟨T.data.toList, to⟩ ⟨H.data.toList, ho⟩ nt nb = false by simp [lineB]; omega)
          go_wp2
          go_ret
          exact ⟨by rw [HE.out]; rfl, HB.out⟩
        have hdec : decide ((nb : Int) ≤ 5) = true := decide_eq_true (by omega)
        have HE := Lib.hid (show lineB ⟨a, b, d, m⟩ ms nx ng ⟨T.data.toList, to⟩ ⟨H.data.toList, ho⟩ nt nb = true by simp [lineB, HF.out, HH.out, HM.out]; omega)
        go_wp2
        go_ret
        exact ⟨by rw [HE.out]; rfl, HB.out⟩
set_option maxRecDepth 100000 in
set_option maxHeartbeats 4000000 in
theorem l8Ok_any (a b d m nx : Int) (vm : Value) (ms : List ByteArray) (ag at_ ab : Option Addr) (ng cg nt ct nb cb : Nat) (T H : ByteArray) (to ho : Bool) (w : World) (B : Nat) (h : RS w B vm ms) (hB : B ≤ w.heap.size) (_wa : (Lit.int .i64 a).wf = true)
    (hT : T.size ≤ maxLen) (hH : H.size ≤ maxLen) (hl : ms.length ≤ maxLen) (hz : ∀ s ∈ ms, s.size ≤ maxLen) :
    Calls Try.prog 42 #[lnV a b d m vm nx (.slice ag ng cg) T to H ho (.slice at_ nt ct) (.slice ab nb cb)] w fun e w' => e = .returned (.bool (lineB ⟨a, b, d, m⟩ ms nx ng ⟨T.data.toList, to⟩ ⟨H.data.toList, ho⟩ nt nb)) ∧ Below w.heap.size w w' := by
  obtain ⟨A, cap, rfl⟩ := h.shape
  have HB := Lib.hid ((Below.refl _ w).alloc (Nat.le_refl _) (.cells #[.int .i64 a, .int .i64 b, .int .i64 d, .int .i64 m, .slice A ms.length cap, .int .i64 nx, .slice ag ng cg, .string T, .bool to, .string H, .bool ho, .slice at_ nt ct, .slice ab nb cb] 31))
  have hk := BK.new w #[.int .i64 a, .int .i64 b, .int .i64 d, .int .i64 m, .slice A ms.length cap, .int .i64 nx, .slice ag ng cg, .string T, .bool to, .string H, .bool ho, .slice at_ nt ct, .slice ab nb cb] 31
  obtain ⟨c0, c1, c2, c3, c4, c5, c6, c7, c8, c9, c10, c11, c12⟩ := cells13 hk
  have HRM := Lib.hid (h.below ((Below.refl B w).alloc hB (.cells #[.int .i64 a, .int .i64 b, .int .i64 d, .int .i64 m, .slice A ms.length cap, .int .i64 nx, .slice ag ng cg, .string T, .bool to, .string H, .bool ho, .slice at_ nt ct, .slice ab nb cb] 31)))
  have HBW := Lib.hid (show B ≤ (w.alloc (.cells #[.int .i64 a, .int .i64 b, .int .i64 d, .int .i64 m, .slice A ms.length cap, .int .i64 nx, .slice ag ng cg, .string T, .bool to, .string H, .bool ho, .slice at_ nt ct, .slice ab nb cb] 31)).heap.size by simp; omega)
  have HK := Lib.hid hk
  have HZ := Lib.hid hz
  clear h hk hz
  have hlm : ms.length ≤ 9223372036854775807 := by unfold maxLen at hl; omega
  go_enter Try.func42, Try.ntmps42
  go_wp2_with fail
  refine (l7ConfOk_any a b d m _).mono ?_
  rintro e x1 ⟨rfl, hbx⟩
  have hk := HK.out.from hbx
  obtain ⟨c0, c1, c2, c3, c4, c5, c6, c7, c8, c9, c10, c11, c12⟩ := cells13 hk
  have HRM := Lib.hid (HRM.out.below (hbx.mono HBW.out))
  have HBW := Lib.hid (Nat.le_trans HBW.out hbx.size)
  have HB := Lib.hid (HB.out.trans (hbx.mono HB.out.size))
  have HK := Lib.hid hk
  clear hk hbx
  cases hC : confB ⟨a, b, d, m⟩ with
  | false =>
    have HE := Lib.hid (show lineB ⟨a, b, d, m⟩ ms nx ng ⟨T.data.toList, to⟩ ⟨H.data.toList, ho⟩ nt nb = false by simp [lineB, okF, hC])
    go_wp2
    go_ret
    exact ⟨by rw [HE.out]; rfl, HB.out⟩
  | true =>
    have HC := Lib.hid hC
    have hd := (confB_yes hC).2.2.1
    clear hC
    go_wp2_with fail
    refine (l8MsgsOk_any a b d m _ ms _ B HRM.out HBW.out hl HZ.out hd).mono ?_
    rintro e x3 ⟨rfl, hbx⟩
    have hk := HK.out.from hbx
    obtain ⟨c0, c1, c2, c3, c4, c5, c6, c7, c8, c9, c10, c11, c12⟩ := cells13 hk
    have HRM := Lib.hid (HRM.out.below (hbx.mono HBW.out))
    have HBW := Lib.hid (Nat.le_trans HBW.out hbx.size)
    have HB := Lib.hid (HB.out.trans (hbx.mono HB.out.size))
    have HK := Lib.hid hk
    clear hk hbx
    cases hF : msgsB d ms with
    | false =>
      have HE := Lib.hid (show lineB ⟨a, b, d, m⟩ ms nx ng ⟨T.data.toList, to⟩ ⟨H.data.toList, ho⟩ nt nb = false by simp [lineB, hF])
      go_wp2
      go_ret
      exact ⟨by rw [HE.out]; rfl, HB.out⟩
    | true =>
      have HM := Lib.hid hF
      clear hF
      go_wp2_with fail
      refine (l1In_any nx 0 _ _).mono ?_
      rintro e x4 ⟨rfl, hw⟩
      obtain rfl := hw.symm
      rcases Decidable.em (¬ (0 ≤ nx ∧ nx ≤ (ms.length : Int))) with h12 | h12n
      · have hin : inB nx 0 (ms.length : Int) = false := by simp [inB]; omega
        rw [hin]
        have HE := Lib.hid (show lineB ⟨a, b, d, m⟩ ms nx ng ⟨T.data.toList, to⟩ ⟨H.data.toList, ho⟩ nt nb = false by simp [lineB]; omega)
        go_wp2
        go_ret
        exact ⟨by rw [HE.out]; rfl, HB.out⟩
      have h12 : 0 ≤ nx ∧ nx ≤ (ms.length : Int) := Decidable.not_not.1 h12n
      have hin : inB nx 0 (ms.length : Int) = true := by simp [inB]; omega
      clear h12n
      rw [hin]
      rcases Nat.lt_or_ge ms.length ng with h3 | h3
      · have HE := Lib.hid (show lineB ⟨a, b, d, m⟩ ms nx ng ⟨T.data.toList, to⟩ ⟨H.data.toList, ho⟩ nt nb = false by simp [lineB]; omega)
        go_wp2
        go_ret
        exact ⟨by rw [HE.out]; rfl, HB.out⟩
      go_wp2_with fail
      refine (l7Ok_any a b d m T to _ hT).mono ?_
      rintro e x5 ⟨rfl, hbx⟩
      have hk := HK.out.from hbx
      obtain ⟨c0, c1, c2, c3, c4, c5, c6, c7, c8, c9, c10, c11, c12⟩ := cells13 hk
      have HRM := Lib.hid (HRM.out.below (hbx.mono HBW.out))
      have HBW := Lib.hid (Nat.le_trans HBW.out hbx.size)
      have HB := Lib.hid (HB.out.trans (hbx.mono HB.out.size))
      have HK := Lib.hid hk
      clear hk hbx
      cases hF : okF ⟨a, b, d, m⟩ ⟨T.data.toList, to⟩ with
      | false =>
        have HE := Lib.hid (show lineB ⟨a, b, d, m⟩ ms nx ng ⟨T.data.toList, to⟩ ⟨H.data.toList, ho⟩ nt nb = false by simp [lineB, hF])
        go_wp2
        go_ret
        exact ⟨by rw [HE.out]; rfl, HB.out⟩
      | true =>
        have HF := Lib.hid hF
        clear hF
        go_wp2_with fail
        refine (l7Ok_any a b d m H ho _ hH).mono ?_
        rintro e x6 ⟨rfl, hbx⟩
        have hk := HK.out.from hbx
        obtain ⟨c0, c1, c2, c3, c4, c5, c6, c7, c8, c9, c10, c11, c12⟩ := cells13 hk
        have HRM := Lib.hid (HRM.out.below (hbx.mono HBW.out))
        have HBW := Lib.hid (Nat.le_trans HBW.out hbx.size)
        have HB := Lib.hid (HB.out.trans (hbx.mono HB.out.size))
        have HK := Lib.hid hk
        clear hk hbx
        cases hF : okF ⟨a, b, d, m⟩ ⟨H.data.toList, ho⟩ with
        | false =>
          have HE := Lib.hid (show lineB ⟨a, b, d, m⟩ ms nx ng ⟨T.data.toList, to⟩ ⟨H.data.toList, ho⟩ nt nb = false by simp [lineB, hF])
          go_wp2
          go_ret
          exact ⟨by rw [HE.out]; rfl, HB.out⟩
        | true =>
          have HH := Lib.hid hF
          clear hF
          rcases Nat.lt_or_ge 5 nt with h4 | h4
          · have HE := Lib.hid (show lineB ⟨a, b, d, m⟩ ms nx ng ⟨T.data.toList, to⟩ ⟨H.data.toList, ho⟩ nt nb = false by simp [lineB]; omega)
            go_wp2
            go_ret
            exact ⟨by rw [HE.out]; rfl, HB.out⟩
          rcases Nat.lt_or_ge 5 nb with h5 | h5
          · have hdec : decide ((nb : Int) ≤ 5) = false := decide_eq_false (by omega)
            have HE := Lib.hid (show lineB ⟨a, b, d, m⟩ ms nx ng ⟨T.data.toList, to⟩ ⟨H.data.toList, ho⟩ nt nb = false by simp [lineB]; omega)
            go_wp2
            go_ret
            exact ⟨by rw [HE.out]; rfl, HB.out⟩
          have hdec : decide ((nb : Int) ≤ 5) = true := decide_eq_true (by omega)
          have HE := Lib.hid (show lineB ⟨a, b, d, m⟩ ms nx ng ⟨T.data.toList, to⟩ ⟨H.data.toList, ho⟩ nt nb = true by simp [lineB, HF.out, HH.out, HM.out]; omega)
          go_wp2
          go_ret
          exact ⟨by rw [HE.out]; rfl, HB.out⟩
theorem specLineOk_any (a b d m nx : Int) (vm : Value) (ms : List ByteArray) (ag at_ ab : Option Addr) (ng cg nt ct nb cb : Nat) (T H : ByteArray) (to ho : Bool) (w : World) (B : Nat) (h : RS w B vm ms) (hB : B ≤ w.heap.size) (wa : (Lit.int .i64 a).wf = true)
    (hT : T.size ≤ maxLen) (hH : H.size ≤ maxLen) (hl : ms.length ≤ maxLen) (hz : ∀ s ∈ ms, s.size ≤ maxLen) :
    Calls Try.prog 19 #[lnV a b d m vm nx (.slice ag ng cg) T to H ho (.slice at_ nt ct) (.slice ab nb cb)] w fun e w' => e = .returned (.bool (lineB ⟨a, b, d, m⟩ ms nx ng ⟨T.data.toList, to⟩ ⟨H.data.toList, ho⟩ nt nb)) ∧ Below w.heap.size w w' := by
  have HRM := Lib.hid (fun o => h.below ((Below.refl B w).alloc hB o))
  have HZ := Lib.hid hz
  obtain ⟨A, cap, rfl⟩ := h.shape
  clear h hz
  go_enter Try.func19, Try.ntmps19
  go_wp2_with fail
  refine (l8Ok_any a b d m nx _ ms ag at_ ab ng cg nt ct nb cb T H to ho _ B (HRM.out _) (by simp; omega) wa hT hH hl HZ.out).mono ?_
  rintro e x1 ⟨rfl, hb⟩
  have HB := Lib.hid (((Below.refl _ w).alloc (Nat.le_refl _) _ : Below w.heap.size w (w.alloc _)).trans (hb.mono (by simp)))
  clear hb
  go_wp2
  go_ret
  exact ⟨rfl, HB.out⟩
end Go.Proofs.Ytdnedoafgfpnfaa
