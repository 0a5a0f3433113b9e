/- What bytes between two ends come to: evaluated, in the program and in the model. -/
import Derived.Test.YtcegpcggdcgjbaaGreatDoorKitFindC
import Derived.Test.YtcegpcggdcgjbaaGreatDoorBk
namespace Go.Proofs.YtcegpcggdcgjbaaGreatDoor
open Go.ChangeShapes Go.WideShapes Go.ChangeAt Go.RowKit
def evZ (o : Option Ev) : Ev := o.getD ⟨0, []⟩
abbrev evW (e : Ev) : Value := .agg #[.int .i64 e.kind, .string ⟨e.text.toArray⟩]
/-- what is made of what a codec's read tells -/
def evR (c : Cf) (r : List UInt8 × Int) : Option Ev := if r.2 = 1 then some (evT c r.1) else if r.2 = 0 then none else some ⟨r.2, []⟩
theorem evalL_rd (c : Cf) (t : List UInt8) (ht : t.length ≠ 0) : evalL c t = evR c (rdE c t) := by
  unfold evalL rdE
  rw [if_neg ht]
  by_cases h1 : c.codec = 1
  · have hr : readL c t = (unR c.map.toNat t, true) := by unfold readL; rw [if_pos h1]
    rw [hr, if_pos h1]
    by_cases h5 : t.getLast? = some 125
    · rw [if_pos ⟨h1, h5⟩, if_pos h5]; rfl
    · rw [if_neg (fun h => h5 h.2), if_neg h5, if_neg (by simp)]
      by_cases h0 : (unR c.map.toNat t).length = 0
      · rw [if_pos ⟨h1, h0⟩, if_pos h0]; rfl
      · rw [if_neg (fun h => h0 h.2), if_neg h0]; rfl
  · rw [if_neg (fun h => h1 h.1), if_neg h1]
    unfold orF
    cases hr : (readL c t).2 with
    | false => rw [if_pos rfl, if_neg (by simp)]; rfl
    | true => rw [if_neg (by simp), if_neg (fun h => h1 h.1), if_pos rfl]; rfl
/-- the box of a configuration, and the box of the result -/
def E2 (w W : World) (a b d m : Int) : Prop := BK W w.heap.size #[.int .i64 a, .int .i64 b, .int .i64 d, .int .i64 m] 30 ∧ BK W (w.heap.size + 1) #[.int .i64 0, .string ⟨#[]⟩] 110 ∧ Below w.heap.size w W
theorem E2.start (w : World) (a b d m : Int) : E2 w ((w.alloc (.cells #[.int .i64 a, .int .i64 b, .int .i64 d, .int .i64 m] 30)).alloc (.cells #[.int .i64 0, .string ⟨#[]⟩] 110)) a b d m := by
  have h2 := BK.new (w.alloc (.cells #[.int .i64 a, .int .i64 b, .int .i64 d, .int .i64 m] 30)) #[.int .i64 0, .string ⟨#[]⟩] 110
  rw [World.size_alloc] at h2
  exact ⟨(BK.new w _ _).alloc _, h2, below2 _ _ _⟩
theorem E2.from {w W W' : World} {a b d m : Int} (h : E2 w W a b d m) (hb : Below W.heap.size W W') : E2 w W' a b d m := ⟨h.1.from hb, h.2.1.from hb, h.2.2.trans (hb.mono h.2.2.size)⟩
theorem E2.facts {w W : World} {a b d m : Int} (h : E2 w W a b d m) :
    (W.cell? ⟨w.heap.size, 0, none⟩ = some (.int .i64 a) ∧ W.cell? ⟨w.heap.size, 1, none⟩ = some (.int .i64 b) ∧ W.cell? ⟨w.heap.size, 2, none⟩ = some (.int .i64 d) ∧ W.cell? ⟨w.heap.size, 3, none⟩ = some (.int .i64 m)) ∧
    (W.cell? ⟨w.heap.size + 1, 0, none⟩ = some (.int .i64 0) ∧ W.cell? ⟨w.heap.size + 1, 1, none⟩ = some (.string ⟨#[]⟩)) ∧ W.frozen? ⟨w.heap.size + 1, 0, none⟩ = false ∧ W.frozen? ⟨w.heap.size + 1, 1, none⟩ = false :=
  ⟨⟨h.1.cell rfl, h.1.cell rfl, h.1.cell rfl, h.1.cell rfl⟩, ⟨h.2.1.cell rfl, h.2.1.cell rfl⟩, h.2.1.free 0, h.2.1.free 1⟩
theorem E2.done {w W : World} {a b d m : Int} (h : E2 w W a b d m) (x y : Value) : Below w.heap.size w ((W.setCell ⟨w.heap.size + 1, 0, none⟩ x).setCell ⟨w.heap.size + 1, 1, none⟩ y) := (h.2.2.setCell (by simp) _).setCell (by simp) _
set_option maxRecDepth 100000 in
set_option maxHeartbeats 4000000 in
theorem endEvent_any (a b d m : Int) (t : TypeId) (v : Value) (fd fw fr : Nat) (rd rw_ rr : Value) (s : ByteArray) (o : Bool) (w : World) (hc : confB ⟨a, b, d, m⟩ = true) (HW : Way ⟨a, b, d, m⟩ t v fd fw fr rd rw_ rr)
    (hs : s.size ≤ 600) (he : o = false → endOf ⟨a, b, d, m⟩ ∉ s.data.toList) :
    Calls Tryz.prog 130 #[cfV a b d m, .iface t v, .string s, .bool o] w fun e w' => e = .returned (evW (evZ (endE ⟨a, b, d, m⟩ ⟨s.data.toList, o⟩))) ∧ Below w.heap.size w w' := by
  obtain ⟨_, hkb, hd, _, _⟩ := confB_yes hc
  simp only at hkb hd
  obtain ⟨hd0, hd1⟩ := hd
  obtain ⟨hk0, hk4⟩ := kind_ge hkb
  have hz := zero_event
  cases o with
  | true =>
    have HE := Lib.hid (show evZ (endE ⟨a, b, d, m⟩ ⟨s.data.toList, true⟩) = ⟨5, []⟩ from rfl)
    clear HW he hc hkb
    go_enter Tryz.func130, Tryz.ntmps130
    go_wp2
    exact bodyPost_ret (v := .agg #[.int .i64 5, .string ⟨#[]⟩]) (by simp [results, Tryz.results130, go_sem]) rfl ⟨by rw [HE.out], below2 _ _ _⟩
  | false =>
    have HSL := Lib.hid (size_list s)
    by_cases h0 : s.size = 0
    · obtain rfl := sz0 h0
      have HE := Lib.hid (show evZ (endE ⟨a, b, d, m⟩ ⟨(⟨#[]⟩ : ByteArray).data.toList, false⟩) = ⟨0, []⟩ from rfl)
      clear HW he hc hkb
      go_enter Tryz.func130, Tryz.ntmps130
      go_wp2
      exact bodyPost_ret (v := .agg #[.int .i64 0, .string ⟨#[]⟩]) (by simp [results, Tryz.results130, go_sem]) rfl ⟨by rw [HE.out], below2 _ _ _⟩
    · have h1 : s.toList ≠ [] := by rw [Lib.toList_data]; intro e; exact h0 (by rw [← HSL.out, e]; rfl)
      have h2 : s.toList.isEmpty = false := by cases hh : s.toList with | nil => exact absurd hh h1 | cons x l => rfl
      have HE := Lib.hid (show endE ⟨a, b, d, m⟩ ⟨s.data.toList, false⟩ = evR ⟨a, b, d, m⟩ (rdE ⟨a, b, d, m⟩ s.data.toList) from by
        show evalL _ _ = _
        exact evalL_rd _ _ (by rw [HSL.out]; exact h0))
      have HR := Lib.hid (fun w => HW.rc w s (by omega) hs (he rfl))
      have q1 := HW.rm
      have q2 := HW.re
      clear HW he
      obtain ⟨x, k, hx⟩ : ∃ x k, rdE ⟨a, b, d, m⟩ s.data.toList = (x, k) := ⟨_, _, rfl⟩
      rw [hx] at HE HR
      simp only at HR
      clear hx
      obtain ⟨X, rfl⟩ : ∃ X : ByteArray, X.data.toList = x := ⟨⟨x.toArray⟩, rfl⟩
      rw [Lib.mk_data] at HR
      by_cases hk1 : k = 1
      · subst hk1
        have HE1 := Lib.hid (show evZ (endE ⟨a, b, d, m⟩ ⟨s.data.toList, false⟩) = evT ⟨a, b, d, m⟩ X.data.toList by rw [HE.out]; rfl)
        have HXL := Lib.hid (size_list X)
        by_cases hl1 : (X.size : Int) < b
        · have HV := Lib.hid (show evT ⟨a, b, d, m⟩ X.data.toList = ⟨4, []⟩ by unfold evT; rw [HXL.out, if_pos hl1])
          go_enter Tryz.func130, Tryz.ntmps130
          go_wp2_with fail
          refine (HR.out _).mono ?_
          rintro e w1 ⟨rfl, hb1⟩
          have hE := (E2.start w a b d m).from hb1
          obtain ⟨⟨c0, c1, c2, c3⟩, ⟨e0, e1⟩, f0, f1⟩ := hE.facts
          have HF := Lib.hid hE
          clear hb1 hE
          go_wp2
          exact bodyPost_ret (v := .agg #[.int .i64 4, .string ⟨#[]⟩]) (by simp [results, Tryz.results130, go_sem, e0, e1]) rfl ⟨by rw [HE1.out, HV.out], HF.out.done _ _⟩

        · by_cases hl2 : d + b < (X.size : Int)
          · have HV := Lib.hid (show evT ⟨a, b, d, m⟩ X.data.toList = ⟨5, []⟩ by unfold evT; rw [HXL.out, if_neg hl1, if_pos hl2])
            go_enter Tryz.func130, Tryz.ntmps130
            go_wp2_with fail
            refine (HR.out _).mono ?_
            rintro e w1 ⟨rfl, hb1⟩
            have hE := (E2.start w a b d m).from hb1
            obtain ⟨⟨c0, c1, c2, c3⟩, ⟨e0, e1⟩, f0, f1⟩ := hE.facts
            have HF := Lib.hid hE
            clear hb1 hE
            go_wp2
            exact bodyPost_ret (v := .agg #[.int .i64 5, .string ⟨#[]⟩]) (by simp [results, Tryz.results130, go_sem, e0, e1]) rfl ⟨by rw [HE1.out, HV.out], HF.out.done _ _⟩

          · cases hg : getB b X.data.toList with
            | true =>
              have HV := Lib.hid (show evT ⟨a, b, d, m⟩ X.data.toList = ⟨1, cutL b X.data.toList⟩ by unfold evT; rw [HXL.out, if_neg hl1, if_neg hl2, if_pos hg])
              have HG := Lib.hid hg
              clear hg
              go_enter Tryz.func130, Tryz.ntmps130
              go_wp2_with fail
              refine (HR.out _).mono ?_
              rintro e w1 ⟨rfl, hb1⟩
              have hE := (E2.start w a b d m).from hb1
              obtain ⟨⟨c0, c1, c2, c3⟩, ⟨e0, e1⟩, f0, f1⟩ := hE.facts
              have HF := Lib.hid hE
              clear hb1 hE
              go_wp2_with fail
              refine (implGet_hit b X _ (by omega) HG.out).mono ?_
              rintro e w2 ⟨rfl, hb2⟩
              have hE := HF.out.from hb2
              obtain ⟨⟨c0, c1, c2, c3⟩, ⟨e0, e1⟩, f0, f1⟩ := hE.facts
              have HF := Lib.hid hE
              clear hb2 hE
              go_wp2
              exact bodyPost_ret (v := .agg #[.int .i64 1, .string ⟨(cutL b X.data.toList).toArray⟩]) (by simp [results, Tryz.results130, go_sem, e0, e1]) rfl ⟨by rw [HE1.out, HV.out], HF.out.done _ _⟩

            | false =>
              have HV := Lib.hid (show evT ⟨a, b, d, m⟩ X.data.toList = ⟨2, []⟩ by unfold evT; rw [HXL.out, if_neg hl1, if_neg hl2, if_neg (by rw [hg]; simp)])
              have HG := Lib.hid hg
              clear hg
              go_enter Tryz.func130, Tryz.ntmps130
              go_wp2_with fail
              refine (HR.out _).mono ?_
              rintro e w1 ⟨rfl, hb1⟩
              have hE := (E2.start w a b d m).from hb1
              obtain ⟨⟨c0, c1, c2, c3⟩, ⟨e0, e1⟩, f0, f1⟩ := hE.facts
              have HF := Lib.hid hE
              clear hb1 hE
              go_wp2_with fail
              refine (implGet_miss b X _ (by omega) HG.out).mono ?_
              rintro e w2 ⟨rfl, hb2⟩
              have hE := HF.out.from hb2
              obtain ⟨⟨c0, c1, c2, c3⟩, ⟨e0, e1⟩, f0, f1⟩ := hE.facts
              have HF := Lib.hid hE
              clear hb2 hE
              go_wp2
              exact bodyPost_ret (v := .agg #[.int .i64 2, .string ⟨#[]⟩]) (by simp [results, Tryz.results130, go_sem, e0, e1]) rfl ⟨by rw [HE1.out, HV.out], HF.out.done _ _⟩

      · have HE1 := Lib.hid (show evZ (endE ⟨a, b, d, m⟩ ⟨s.data.toList, false⟩) = ⟨k, []⟩ by
          rw [HE.out]; unfold evR
          rw [if_neg hk1]
          by_cases hk0 : k = 0
          · subst hk0; rfl
          · rw [if_neg hk0]; rfl)
        have hkb1 : (k != 1) = true := by rw [bne_iff_ne]; exact hk1
        go_enter Tryz.func130, Tryz.ntmps130
        go_wp2_with fail
        refine (HR.out _).mono ?_
        rintro e w1 ⟨rfl, hb1⟩
        have hE := (E2.start w a b d m).from hb1
        obtain ⟨⟨c0, c1, c2, c3⟩, ⟨e0, e1⟩, f0, f1⟩ := hE.facts
        have HF := Lib.hid hE
        clear hb1 hE
        go_wp2
        exact bodyPost_ret (v := .agg #[.int .i64 k, .string ⟨#[]⟩]) (by simp [results, Tryz.results130, go_sem, e0, e1]) rfl ⟨by rw [HE1.out], HF.out.done _ _⟩

end Go.Proofs.YtcegpcggdcgjbaaGreatDoor
/- What bytes between two ends come to, in the model. -/
namespace Go.Proofs.YtcegpcggdcgjbaaGreatDoor
open Go.ChangeShapes Go.WideShapes Go.ChangeAt Go.RowKit
/-- a slice of events of the call's own -/
def EvPost (w : World) (l : List Ev) (e : Ending) (w' : World) : Prop := ∃ v, e = .returned v ∧ RE w' w.heap.size w'.heap.size v l ∧ Below w.heap.size w w'
theorem evPost_none {w w' : World} {l : List Ev} (hl : l = []) (hb : Below w.heap.size w w') : EvPost w l (.returned (.slice none 0 0)) w' := by
  subst hl; exact ⟨_, rfl, RE_nil _ _ _, hb⟩
theorem evPost_one {w w' : World} {l : List Ev} (k : Int) (t : ByteArray) (hl : l = [⟨k, t.data.toList⟩]) (hb : Below w.heap.size w w') : EvPost w l (.returned (.slice (some ⟨w'.heap.size, 0, none⟩) 1 1)) (w'.alloc (.cells #[.int .i64 k, .string t] 110)) := by
  subst hl
  have h := RE_new w' ⟨k, t.data.toList⟩
  rw [show (⟨(⟨k, t.data.toList⟩ : Ev).text.toArray⟩ : ByteArray) = t from Lib.mk_data t] at h
  exact ⟨_, rfl, h.mono hb.size (by simp), hb.alloc hb.size _⟩
theorem evR_cases (c : Cf) (x : List UInt8) : evR c (x, 1) = some (evT c x) := rfl
set_option maxRecDepth 100000 in
set_option maxHeartbeats 8000000 in
theorem l7Event_any (a b d m : Int) (s : ByteArray) (w : World) (hc : confB ⟨a, b, d, m⟩ = true) (hs : s.size ≤ 600) (he : endOf ⟨a, b, d, m⟩ ∉ s.data.toList) :
    Calls Tryz.prog 113 #[cfV a b d m, .string s] w (EvPost w (evalL ⟨a, b, d, m⟩ s.data.toList).toList) := by
  obtain ⟨_, hkb, hd, _, _⟩ := confB_yes hc
  simp only at hkb hd
  obtain ⟨hd0, hd1⟩ := hd
  obtain ⟨hk0, hk4⟩ := kind_ge hkb
  have hk2 : 2 ≤ b := by have := kind_or hkb; omega
  have HSL := Lib.hid (size_list s)
  by_cases h0 : s.size = 0
  · obtain rfl := sz0 h0
    have HE := Lib.hid (show (evalL ⟨a, b, d, m⟩ (⟨#[]⟩ : ByteArray).data.toList).toList = [] from rfl)
    clear he hc hkb
    go_enter Tryz.func113, Tryz.ntmps113
    go_wp2
    go_ret
    exact evPost_none HE.out ((Below.refl _ _).alloc (Nat.le_refl _) _)
  have h1 : s.toList ≠ [] := by rw [Lib.toList_data]; intro e; exact h0 (by rw [← HSL.out, e]; rfl)
  have h2 : s.toList.isEmpty = false := by cases hh : s.toList with | nil => exact absurd hh h1 | cons x l => rfl
  have HEv := Lib.hid (evalL_rd ⟨a, b, d, m⟩ s.data.toList (by rw [HSL.out]; exact h0))
  by_cases ha : a = 1
  · subst ha
    have hla := last_at s (by omega)
    obtain ⟨n, hn⟩ : ∃ n, n = s.size - 1 := ⟨_, rfl⟩
    have hnl : n < s.size := by omega
    have hsi : (s.size : Int) - 1 = (n : Int) := by omega
    have hla' : s.data.toList.getLast? = some s[n] := by rw [hla]; congr 1; simp only [hn]
    have HN := Lib.hid hn
    clear hn hla
    by_cases hc5 : s[n].toNat = 125
    · have hb5 : ((s[n].toNat : Int) == 125) = true := by rw [beq_iff_eq]; omega
      have hl : s.data.toList.getLast? = some 125 := by rw [hla']; congr 1; exact UInt8.toNat_inj.1 hc5
      have HE := Lib.hid (show (evalL ⟨1, b, d, m⟩ s.data.toList).toList = [⟨3, []⟩] by rw [HEv.out]; unfold rdE; rw [if_pos rfl, if_pos hl]; rfl)
      clear hl hla' hc5 hc hkb he
      go_enter Tryz.func113, Tryz.ntmps113
      go_wp2
      go_ret
      have h3 := evPost_one (w := w) (w' := w.alloc (.cells #[.int .i64 1, .int .i64 b, .int .i64 d, .int .i64 m] 30)) 3 ⟨#[]⟩ HE.out ((Below.refl _ _).alloc (Nat.le_refl _) _)
      rw [World.size_alloc] at h3
      exact h3
    · have hb5 : ((s[n].toNat : Int) == 125) = false := by rw [beq_eq_false_iff_ne]; omega
      have hl : s.data.toList.getLast? ≠ some 125 := by rw [hla']; intro e; injection e with e; exact hc5 (by rw [e]; rfl)
      have HR := Lib.hid (fun w => l7Read_any 1 b d m s w hc hs he (fun _ => hl))
      obtain ⟨x, ok, hx⟩ : ∃ x ok, readL ⟨1, b, d, m⟩ s.data.toList = (x, ok) := ⟨_, _, rfl⟩
      have hok : ok = true := by have : (readL ⟨1, b, d, m⟩ s.data.toList).2 = true := rfl; rw [hx] at this; exact this
      subst hok
      have HRD := Lib.hid (show rdE ⟨1, b, d, m⟩ s.data.toList = if x.length = 0 then ([], 0) else (x, 1) by
        have hx1 : unR m.toNat s.data.toList = x := by have : (readL ⟨1, b, d, m⟩ s.data.toList).1 = unR m.toNat s.data.toList := rfl; rw [hx] at this; exact this.symm
        unfold rdE; rw [if_pos rfl, if_neg hl]; simp only [hx1])
      rw [hx] at HR
      simp only at HR
      clear hx hl hla' hc5 hc he
      obtain ⟨X, rfl⟩ : ∃ X : ByteArray, X.data.toList = x := ⟨⟨x.toArray⟩, rfl⟩
      rw [Lib.mk_data] at HR
      have HXL := Lib.hid (size_list X)
      by_cases hX0 : X.size = 0
      · obtain rfl := sz0 hX0
        have HE := Lib.hid (show (evalL ⟨1, b, d, m⟩ s.data.toList).toList = [] by rw [HEv.out, HRD.out, if_pos (by rfl)]; rfl)
        go_enter Tryz.func113, Tryz.ntmps113
        go_wp2_with fail
        refine (HR.out _).mono ?_
        rintro e w1 ⟨rfl, hb1⟩
        obtain ⟨c0, c1, c2, c3⟩ := four_cells hb1
        have HB := Lib.hid (alloc_below hb1)
        clear hb1
        go_wp2
        go_ret
        exact evPost_none HE.out HB.out
      · have HE1 := Lib.hid (show (evalL ⟨1, b, d, m⟩ s.data.toList).toList = [evT ⟨1, b, d, m⟩ X.data.toList] by rw [HEv.out, HRD.out, if_neg (by rw [HXL.out]; exact hX0)]; rfl)
        have g1 : X.toList ≠ [] := by rw [Lib.toList_data]; intro e; exact hX0 (by rw [← HXL.out, e]; rfl)
        have g2 : X.toList.isEmpty = false := by cases hh : X.toList with | nil => exact absurd hh g1 | cons x l => rfl
        by_cases hl1 : (X.size : Int) < b
        · have HV := Lib.hid (show evT ⟨1, b, d, m⟩ X.data.toList = ⟨4, []⟩ by unfold evT; rw [HXL.out, if_pos hl1])
          go_enter Tryz.func113, Tryz.ntmps113
          go_wp2_with fail
          refine (HR.out _).mono ?_
          rintro e w1 ⟨rfl, hb1⟩
          obtain ⟨c0, c1, c2, c3⟩ := four_cells hb1
          have HB := Lib.hid (alloc_below hb1)
          clear hb1
          go_wp2
          go_ret
          exact evPost_one 4 ⟨#[]⟩ (HE1.out.trans (congrArg (fun e => [e]) HV.out)) HB.out

        · by_cases hl2 : d + b < (X.size : Int)
          · have HV := Lib.hid (show evT ⟨1, b, d, m⟩ X.data.toList = ⟨5, []⟩ by unfold evT; rw [HXL.out, if_neg hl1, if_pos hl2])
            go_enter Tryz.func113, Tryz.ntmps113
            go_wp2_with fail
            refine (HR.out _).mono ?_
            rintro e w1 ⟨rfl, hb1⟩
            obtain ⟨c0, c1, c2, c3⟩ := four_cells hb1
            have HB := Lib.hid (alloc_below hb1)
            clear hb1
            go_wp2
            go_ret
            exact evPost_one 5 ⟨#[]⟩ (HE1.out.trans (congrArg (fun e => [e]) HV.out)) HB.out

          · cases hg : getB b X.data.toList with
            | true =>
              have HV := Lib.hid (show evT ⟨1, b, d, m⟩ X.data.toList = ⟨1, cutL b X.data.toList⟩ by unfold evT; rw [HXL.out, if_neg hl1, if_neg hl2, if_pos hg])
              have HG := Lib.hid hg
              clear hg
              go_enter Tryz.func113, Tryz.ntmps113
              go_wp2_with fail
              refine (HR.out _).mono ?_
              rintro e w1 ⟨rfl, hb1⟩
              obtain ⟨c0, c1, c2, c3⟩ := four_cells hb1
              have HB := Lib.hid (alloc_below hb1)
              have hw1 : w.heap.size < w1.heap.size := by have := hb1.size; simp at this; omega
              clear hb1
              go_wp2_with fail
              refine (specGet_hit b X _ (by omega) HG.out).mono ?_
              rintro e w2 ⟨rfl, hb2⟩
              have HB2 := Lib.hid (HB.out.trans (hb2.mono HB.out.size))
              clear hb2
              go_wp2
              go_ret
              exact evPost_one 1 ⟨(cutL b X.data.toList).toArray⟩ (HE1.out.trans (congrArg (fun e => [e]) HV.out)) HB2.out

            | false =>
              have HV := Lib.hid (show evT ⟨1, b, d, m⟩ X.data.toList = ⟨2, []⟩ by unfold evT; rw [HXL.out, if_neg hl1, if_neg hl2, if_neg (by rw [hg]; simp)])
              have HG := Lib.hid hg
              clear hg
              go_enter Tryz.func113, Tryz.ntmps113
              go_wp2_with fail
              refine (HR.out _).mono ?_
              rintro e w1 ⟨rfl, hb1⟩
              obtain ⟨c0, c1, c2, c3⟩ := four_cells hb1
              have HB := Lib.hid (alloc_below hb1)
              have hw1 : w.heap.size < w1.heap.size := by have := hb1.size; simp at this; omega
              clear hb1
              go_wp2_with fail
              refine (specGet_miss b X _ (by omega) HG.out).mono ?_
              rintro e w2 ⟨rfl, hb2⟩
              have HB2 := Lib.hid (HB.out.trans (hb2.mono HB.out.size))
              clear hb2
              go_wp2
              go_ret
              exact evPost_one 2 ⟨#[]⟩ (HE1.out.trans (congrArg (fun e => [e]) HV.out)) HB2.out
  · have hab : (a == 1) = false := by simpa using ha
    have HR := Lib.hid (fun w => l7Read_any a b d m s w hc hs he (fun h => absurd h ha))
    obtain ⟨x, ok, hx⟩ : ∃ x ok, readL ⟨a, b, d, m⟩ s.data.toList = (x, ok) := ⟨_, _, rfl⟩
    have HRD := Lib.hid (show rdE ⟨a, b, d, m⟩ s.data.toList = orF (x, ok) by unfold rdE; rw [if_neg ha, hx])
    rw [hx] at HR
    simp only at HR
    clear hx hc he
    obtain ⟨X, rfl⟩ : ∃ X : ByteArray, X.data.toList = x := ⟨⟨x.toArray⟩, rfl⟩
    rw [Lib.mk_data] at HR
    have HXL := Lib.hid (size_list X)
    cases ok with
    | false =>
      have HE := Lib.hid (show (evalL ⟨a, b, d, m⟩ s.data.toList).toList = [⟨6, []⟩] by rw [HEv.out, HRD.out]; rfl)
      go_enter Tryz.func113, Tryz.ntmps113
      go_wp2_with fail
      refine (HR.out _).mono ?_
      rintro e w1 ⟨rfl, hb1⟩
      obtain ⟨c0, c1, c2, c3⟩ := four_cells hb1
      have HB := Lib.hid (alloc_below hb1)
      clear hb1
      go_wp2
      go_ret
      exact evPost_one 6 ⟨#[]⟩ HE.out HB.out
    | true =>
      have HE1 := Lib.hid (show (evalL ⟨a, b, d, m⟩ s.data.toList).toList = [evT ⟨a, b, d, m⟩ X.data.toList] by rw [HEv.out, HRD.out]; rfl)
      by_cases hX0 : X.size = 0
      · obtain rfl := sz0 hX0
        have HV := Lib.hid (show evT ⟨a, b, d, m⟩ (⟨#[]⟩ : ByteArray).data.toList = ⟨4, []⟩ by unfold evT; rw [if_pos (by simp; omega)])
        go_enter Tryz.func113, Tryz.ntmps113
        go_wp2_with fail
        refine (HR.out _).mono ?_
        rintro e w1 ⟨rfl, hb1⟩
        obtain ⟨c0, c1, c2, c3⟩ := four_cells hb1
        have HB := Lib.hid (alloc_below hb1)
        clear hb1
        go_wp2
        go_ret
        exact evPost_one 4 ⟨#[]⟩ (HE1.out.trans (congrArg (fun e => [e]) HV.out)) HB.out
      · have g1 : X.toList ≠ [] := by rw [Lib.toList_data]; intro e; exact hX0 (by rw [← HXL.out, e]; rfl)
        have g2 : X.toList.isEmpty = false := by cases hh : X.toList with | nil => exact absurd hh g1 | cons x l => rfl
        by_cases hl1 : (X.size : Int) < b
        · have HV := Lib.hid (show evT ⟨a, b, d, m⟩ X.data.toList = ⟨4, []⟩ by unfold evT; rw [HXL.out, if_pos hl1])
          go_enter Tryz.func113, Tryz.ntmps113
          go_wp2_with fail
          refine (HR.out _).mono ?_
          rintro e w1 ⟨rfl, hb1⟩
          obtain ⟨c0, c1, c2, c3⟩ := four_cells hb1
          have HB := Lib.hid (alloc_below hb1)
          clear hb1
          go_wp2
          go_ret
          exact evPost_one 4 ⟨#[]⟩ (HE1.out.trans (congrArg (fun e => [e]) HV.out)) HB.out

        · by_cases hl2 : d + b < (X.size : Int)
          · have HV := Lib.hid (show evT ⟨a, b, d, m⟩ X.data.toList = ⟨5, []⟩ by unfold evT; rw [HXL.out, if_neg hl1, if_pos hl2])
            go_enter Tryz.func113, Tryz.ntmps113
            go_wp2_with fail
            refine (HR.out _).mono ?_
            rintro e w1 ⟨rfl, hb1⟩
            obtain ⟨c0, c1, c2, c3⟩ := four_cells hb1
            have HB := Lib.hid (alloc_below hb1)
            clear hb1
            go_wp2
            go_ret
            exact evPost_one 5 ⟨#[]⟩ (HE1.out.trans (congrArg (fun e => [e]) HV.out)) HB.out

          · cases hg : getB b X.data.toList with
            | true =>
              have HV := Lib.hid (show evT ⟨a, b, d, m⟩ X.data.toList = ⟨1, cutL b X.data.toList⟩ by unfold evT; rw [HXL.out, if_neg hl1, if_neg hl2, if_pos hg])
              have HG := Lib.hid hg
              clear hg
              go_enter Tryz.func113, Tryz.ntmps113
              go_wp2_with fail
              refine (HR.out _).mono ?_
              rintro e w1 ⟨rfl, hb1⟩
              obtain ⟨c0, c1, c2, c3⟩ := four_cells hb1
              have HB := Lib.hid (alloc_below hb1)
              have hw1 : w.heap.size < w1.heap.size := by have := hb1.size; simp at this; omega
              clear hb1
              go_wp2_with fail
              refine (specGet_hit b X _ (by omega) HG.out).mono ?_
              rintro e w2 ⟨rfl, hb2⟩
              have HB2 := Lib.hid (HB.out.trans (hb2.mono HB.out.size))
              clear hb2
              go_wp2
              go_ret
              exact evPost_one 1 ⟨(cutL b X.data.toList).toArray⟩ (HE1.out.trans (congrArg (fun e => [e]) HV.out)) HB2.out

            | false =>
              have HV := Lib.hid (show evT ⟨a, b, d, m⟩ X.data.toList = ⟨2, []⟩ by unfold evT; rw [HXL.out, if_neg hl1, if_neg hl2, if_neg (by rw [hg]; simp)])
              have HG := Lib.hid hg
              clear hg
              go_enter Tryz.func113, Tryz.ntmps113
              go_wp2_with fail
              refine (HR.out _).mono ?_
              rintro e w1 ⟨rfl, hb1⟩
              obtain ⟨c0, c1, c2, c3⟩ := four_cells hb1
              have HB := Lib.hid (alloc_below hb1)
              have hw1 : w.heap.size < w1.heap.size := by have := hb1.size; simp at this; omega
              clear hb1
              go_wp2_with fail
              refine (specGet_miss b X _ (by omega) HG.out).mono ?_
              rintro e w2 ⟨rfl, hb2⟩
              have HB2 := Lib.hid (HB.out.trans (hb2.mono HB.out.size))
              clear hb2
              go_wp2
              go_ret
              exact evPost_one 2 ⟨#[]⟩ (HE1.out.trans (congrArg (fun e => [e]) HV.out)) HB2.out
end Go.Proofs.YtcegpcggdcgjbaaGreatDoor
