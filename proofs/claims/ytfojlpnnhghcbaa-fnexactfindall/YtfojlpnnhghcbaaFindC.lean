/- A codec through its interface: its delimiter, how it writes, how it reads. -/
import Derived.Test.YtfojlpnnhghcbaaFindB
import Derived.Test.YtfojlpnnhghcbaaEscG
namespace Go.Proofs.Ytfojlpnnhghcbaa
open Go.ChangeShapes Go.WideShapes Go.ChangeAt Go.RowKit
def orF (g : List UInt8 × Bool) : List UInt8 × Int := if g.2 = true then (g.1, 1) else ([], 6)
/-- what a codec's read tells: the text, and EventFrame, or what is to be reported -/
def rdE (c : Cf) (t : List UInt8) : List UInt8 × Int :=
  if c.codec = 1 then (if t.getLast? = some 125 then ([], 3) else if (unR c.map.toNat t).length = 0 then ([], 0) else (unR c.map.toNat t, 1))
  else orF (readL c t)
structure Way (c : Cf) (t : TypeId) (v : Value) (fd fw fr : Nat) (rd rw rr : Value) : Prop where
  dm : ∀ w : World, (method 264 t v "loop.example/cotterpin/impl.delimiter").run Try.prog w = .ok (fd, rd) w
  de : ∀ w : World, (callFunc fd #[rd]).run Try.prog w = .ok (.enter fd #[rd]) w
  dc : ∀ w : World, Calls Try.prog fd #[rd] w fun e w' => e = .returned (.int .u8 (endOf c).toNat) ∧ Below w.heap.size w w'
  wn : ∀ w : World, (nilAhead 264 t v "loop.example/cotterpin/impl.write").run Try.prog w = .ok (some false) w
  wm : ∀ w : World, (method 264 t v "loop.example/cotterpin/impl.write").run Try.prog w = .ok (fw, rw) w
  we : ∀ (w : World) (s : ByteArray), (callFunc fw #[rw, .string s]).run Try.prog w = .ok (.enter fw #[rw, .string s]) w
  wc : ∀ (w : World) (s : ByteArray), s.size ≤ 600 → Calls Try.prog fw #[rw, .string s] w fun e w' => e = .returned (.string ⟨(writeL c s.data.toList).toArray⟩) ∧ Below w.heap.size w w'
  rm : ∀ w : World, (method 264 t v "loop.example/cotterpin/impl.read").run Try.prog w = .ok (fr, rr) w
  re : ∀ (w : World) (s : ByteArray), (callFunc fr #[rr, .string s]).run Try.prog w = .ok (.enter fr #[rr, .string s]) w
  rc : ∀ (w : World) (s : ByteArray), 0 < s.size → s.size ≤ 600 → endOf c ∉ s.data.toList → Calls Try.prog fr #[rr, .string s] w fun e w' => e = .returned (.tuple #[.string ⟨(rdE c s.data.toList).1.toArray⟩, .int .i64 (rdE c s.data.toList).2]) ∧ Below w.heap.size w w'
theorem frameOr_yes (s : ByteArray) (w : World) : Calls Try.prog 121 #[.string s, .bool true] w fun e w' => e = .returned (.tuple #[.string s, .int .i64 1]) ∧ w = w' := by
  go_enter Try.func121, Try.ntmps121
  go_wp2
  go_ret2
  exact ⟨rfl, rfl⟩
theorem frameOr_no (s : ByteArray) (w : World) : Calls Try.prog 121 #[.string s, .bool false] w fun e w' => e = .returned (.tuple #[.string ⟨#[]⟩, .int .i64 6]) ∧ w = w' := by
  go_enter Try.func121, Try.ntmps121
  go_wp2
  go_ret2
  exact ⟨rfl, rfl⟩
theorem frameOr_any (g : List UInt8 × Bool) (w : World) : Calls Try.prog 121 #[.string ⟨g.1.toArray⟩, .bool g.2] w fun e w' => e = .returned (.tuple #[.string ⟨(orF g).1.toArray⟩, .int .i64 (orF g).2]) ∧ w = w' := by
  obtain ⟨x, o⟩ := g
  cases o with
  | true => exact frameOr_yes _ w
  | false => exact frameOr_no _ w
theorem escDel (m : Int) (w : World) : Calls Try.prog 117 #[.agg #[.int .i64 m]] w fun e w' => e = .returned (.int .u8 126) ∧ Below w.heap.size w w' := by
  go_enter Try.func117, Try.ntmps117
  go_wp2
  go_ret
  exact ⟨rfl, (Below.refl _ _).alloc (Nat.le_refl _) _⟩
theorem zeroDel (w : World) : Calls Try.prog 133 #[.agg #[]] w fun e w' => e = .returned (.int .u8 0) ∧ Below w.heap.size w w' := by
  go_enter Try.func133, Try.ntmps133
  go_wp2
  go_ret
  exact ⟨rfl, (Below.refl _ _).alloc (Nat.le_refl _) _⟩
theorem escWrite (m : Int) (s : ByteArray) (w : World) : Calls Try.prog 119 #[.agg #[.int .i64 m], .string s] w fun e w' => e = .returned (.string ⟨(escA m s.data.toList).toArray⟩) ∧ Below w.heap.size w w' := by
  go_enter Try.func119, Try.ntmps119
  go_wp2_with fail
  refine (implEscPut_any _ _ _).mono ?_
  rintro e w1 ⟨rfl, hb⟩
  have HB := Lib.hid (alloc_below hb)
  clear hb
  go_wp2
  go_ret
  exact ⟨rfl, HB.out⟩
theorem cobsWrite (s : ByteArray) (w : World) : Calls Try.prog 135 #[.agg #[], .string s] w fun e w' => e = .returned (.string ⟨(cobA s.data.toList).toArray⟩) ∧ Below w.heap.size w w' := by
  go_enter Try.func135, Try.ntmps135
  go_wp2_with fail
  refine (implCobs_any _ _).mono ?_
  rintro e w1 ⟨rfl, hb⟩
  have HB := Lib.hid (alloc_below hb)
  clear hb
  go_wp2
  go_ret
  exact ⟨rfl, HB.out⟩
theorem lessWrite (s : ByteArray) (w : World) : Calls Try.prog 148 #[.agg #[], .string s] w fun e w' => e = .returned (.string ⟨(lessA s.data.toList).toArray⟩) ∧ Below w.heap.size w w' := by
  go_enter Try.func148, Try.ntmps148
  go_wp2_with fail
  refine (implLess_any _ _).mono ?_
  rintro e w1 ⟨rfl, hb⟩
  have HB := Lib.hid (alloc_below hb)
  clear hb
  go_wp2
  go_ret
  exact ⟨rfl, HB.out⟩
theorem cobsRead (s : ByteArray) (w : World) : Calls Try.prog 134 #[.agg #[], .string s] w fun e w' => e = .returned (.tuple #[.string ⟨(orF (getA s.data.toList)).1.toArray⟩, .int .i64 (orF (getA s.data.toList)).2]) ∧ Below w.heap.size w w' := by
  go_enter Try.func134, Try.ntmps134
  go_wp2_with fail
  refine (implCobsGet_any _ _).mono ?_
  rintro e w1 ⟨rfl, hb⟩
  have HB := Lib.hid (alloc_below hb)
  clear hb
  go_wp2_with fail
  refine (frameOr_any _ _).mono ?_
  rintro e w2 ⟨rfl, rfl⟩
  go_wp2
  go_ret2
  exact ⟨rfl, HB.out⟩
theorem lessRead (s : ByteArray) (w : World) : Calls Try.prog 147 #[.agg #[], .string s] w fun e w' => e = .returned (.tuple #[.string ⟨(orF (lgetA s.data.toList)).1.toArray⟩, .int .i64 (orF (lgetA s.data.toList)).2]) ∧ Below w.heap.size w w' := by
  go_enter Try.func147, Try.ntmps147
  go_wp2_with fail
  refine (implLessGet_any _ _).mono ?_
  rintro e w1 ⟨rfl, hb⟩
  have HB := Lib.hid (alloc_below hb)
  clear hb
  go_wp2_with fail
  refine (frameOr_any _ _).mono ?_
  rintro e w2 ⟨rfl, rfl⟩
  go_wp2
  go_ret2
  exact ⟨rfl, HB.out⟩
set_option maxHeartbeats 1000000 in
theorem escRead (m : Nat) (s : ByteArray) (w : World) (hm : m ≤ 4294967295) (h0 : 0 < s.size) (hs : s.size ≤ 600) (h6 : (126 : UInt8) ∉ s.data.toList) :
    Calls Try.prog 118 #[.agg #[.int .i64 m], .string s] w fun e w' => e = .returned (.tuple #[.string ⟨(if s.data.toList.getLast? = some 125 then ([], 3) else if (unR m s.data.toList).length = 0 then ([], 0) else (unR m s.data.toList, 1) : List UInt8 × Int).1.toArray⟩, .int .i64 (if s.data.toList.getLast? = some 125 then ([], 3) else if (unR m s.data.toList).length = 0 then ([], 0) else (unR m s.data.toList, 1) : List UInt8 × Int).2]) ∧ Below w.heap.size w w' := by
  have hla := last_at s h0
  obtain ⟨n, hn⟩ : ∃ n, n = s.size - 1 := ⟨_, rfl⟩
  have hnl : n < s.size := by omega
  have hsi : (s.size : Int) - 1 = (n : Int) := by omega
  have hla' : s.data.toList.getLast? = some s[n] := by rw [hla]; congr 1; simp only [hn]
  have HN := Lib.hid hn
  clear hn hla
  by_cases hc : s[n].toNat = 125
  · have hb5 : ((s[n].toNat : Int) == 125) = true := by rw [beq_iff_eq]; omega
    have hl : s.data.toList.getLast? = some 125 := by rw [hla']; congr 1; exact UInt8.toNat_inj.1 hc
    rw [if_pos hl]
    clear hl hla' hc
    go_enter Try.func118, Try.ntmps118
    go_wp2
    go_ret2
    exact ⟨rfl, (Below.refl _ _).alloc (Nat.le_refl _) _⟩
  · have hb5 : ((s[n].toNat : Int) == 125) = false := by rw [beq_eq_false_iff_ne]; omega
    have hl : s.data.toList.getLast? ≠ some 125 := by rw [hla']; intro e; injection e with e; exact hc (by rw [e]; rfl)
    rw [if_neg hl]
    have HL := Lib.hid hl
    have H6 := Lib.hid h6
    clear hl hla' hc h6
    generalize hu : unR m s.data.toList = u
    have HU := Lib.hid hu
    clear hu
    by_cases hz : u.length = 0
    · obtain rfl : u = [] := List.eq_nil_of_length_eq_zero hz
      clear hz
      rw [if_pos (by rfl)]
      go_enter Try.func118, Try.ntmps118
      go_wp2_with fail
      refine (implEscGet_yes m s _ hm (by omega) H6.out HL.out).mono ?_
      rintro e w1 ⟨rfl, hb⟩
      rw [HU.out]
      have HB := Lib.hid (alloc_below hb)
      clear hb
      go_wp2
      go_ret2
      exact ⟨rfl, HB.out⟩
    · have hne : (Value.string ⟨u.toArray⟩) ≠ .string ⟨#[]⟩ := by
        intro e; injection e with e; injection e with e; apply hz; simpa using congrArg Array.size e
      rw [if_neg hz]
      go_enter Try.func118, Try.ntmps118
      go_wp2_with fail
      refine (implEscGet_yes m s _ hm (by omega) H6.out HL.out).mono ?_
      rintro e w1 ⟨rfl, hb⟩
      rw [HU.out]
      have HB := Lib.hid (alloc_below hb)
      clear hb
      have hue : (u == []) = false := by cases u with | nil => simp at hz | cons a l => rfl
      have hue2 : u ≠ [] := by intro e; rw [e] at hz; exact hz rfl
      go_wp2_with fail
      refine (frameOr_yes _ _).mono ?_
      rintro e w2 ⟨rfl, rfl⟩
      go_wp2
      go_ret2
      exact ⟨rfl, HB.out⟩
theorem toNat_map {m : Int} (h : 0 ≤ m ∧ m ≤ 4294967295) : ∃ k : Nat, m = (k : Int) ∧ m.toNat = k ∧ k ≤ 4294967295 := ⟨m.toNat, by omega, rfl, by omega⟩
/-- the codec of a configuration that is ok -/
theorem way_of {a b d m : Int} (h : confB ⟨a, b, d, m⟩ = true) : ∃ t v fd fw fr rd rw rr, wayV a m = .iface t v ∧ Way ⟨a, b, d, m⟩ t v fd fw fr rd rw rr := by
  obtain ⟨h1, _, _, h4, h5⟩ := confB_yes h
  simp only at h1 h4 h5
  have size_of : ∀ s : ByteArray, s.data.toList.length = s.size := size_list
  rcases h1 with rfl | rfl | rfl
  · obtain ⟨k, rfl, hk, hk2⟩ := toNat_map h4
    refine ⟨87, .agg #[.int .i64 k], 117, 119, 118, .agg #[.int .i64 k], .agg #[.int .i64 k], .agg #[.int .i64 k], rfl, ⟨fun w => by kernel_rfl, fun w => by kernel_rfl, fun w => escDel _ w, fun w => by kernel_rfl, fun w => by kernel_rfl, fun w s => by kernel_rfl, fun w s hs => ?_, fun w => by kernel_rfl, fun w s => by kernel_rfl, fun w s h0 hs he => ?_⟩⟩
    · refine (escWrite k s w).mono ?_
      rintro e w' ⟨rfl, hb⟩
      refine ⟨?_, hb⟩
      have : escA k s.data.toList = writeL ⟨1, b, d, k⟩ s.data.toList := by
        unfold escA writeL
        rw [if_pos (by simp [putOkB, mapOkB, size_of]; omega), if_pos rfl]
      rw [this]
    · exact escRead k s w hk2 h0 hs he
  · have hm : m = 0 := by omega
    subst hm
    refine ⟨91, .agg #[], 133, 135, 134, .agg #[], .agg #[], .agg #[], rfl, ⟨fun w => by kernel_rfl, fun w => by kernel_rfl, fun w => zeroDel w, fun w => by kernel_rfl, fun w => by kernel_rfl, fun w s => by kernel_rfl, fun w s hs => ?_, fun w => by kernel_rfl, fun w s => by kernel_rfl, fun w s h0 hs he => ?_⟩⟩
    · refine (cobsWrite s w).mono ?_
      rintro e w' ⟨rfl, hb⟩
      refine ⟨?_, hb⟩
      have : cobA s.data.toList = writeL ⟨2, b, d, 0⟩ s.data.toList := by
        unfold cobA writeL
        rw [if_pos (by rw [size_of]; exact hs), if_neg (by simp), if_pos rfl]
      rw [this]
    · exact cobsRead s w
  · have hm : m = 0 := by omega
    subst hm
    refine ⟨92, .agg #[], 133, 148, 147, .agg #[], .agg #[], .agg #[], rfl, ⟨fun w => by kernel_rfl, fun w => by kernel_rfl, fun w => zeroDel w, fun w => by kernel_rfl, fun w => by kernel_rfl, fun w s => by kernel_rfl, fun w s hs => ?_, fun w => by kernel_rfl, fun w s => by kernel_rfl, fun w s h0 hs he => ?_⟩⟩
    · refine (lessWrite s w).mono ?_
      rintro e w' ⟨rfl, hb⟩
      refine ⟨?_, hb⟩
      have : lessA s.data.toList = writeL ⟨3, b, d, 0⟩ s.data.toList := by
        unfold lessA writeL
        rw [if_pos (by rw [size_of]; exact hs), if_neg (by simp), if_neg (by simp)]
      rw [this]
    · exact lessRead s w
end Go.Proofs.Ytfojlpnnhghcbaa
