/- The draw of messages. -/
import Derived.Test.YtdnedoafgfpnfaaDrawConf
import Derived.Test.YtdnedoafgfpnfaaOs
import Derived.Test.YtdnedoafgfpnfaaKitCob
namespace Go.Proofs.Ytdnedoafgfpnfaa
open Go.ChangeShapes Go.WideShapes Go.ChangeAt Go.RowKit
theorem BK.os' {w w' : World} {base g : Nat} {cs : Array Value} {t : TypeId} {v : Value} {ss : List ByteArray} (h : BK w g cs t) (ht : t ≠ 9) (ho : OS w base v ss) (hg : w.grownBy w' v.ownBlock) : BK w' g cs t := by
  refine h.grown hg (fun e => ?_)
  rcases ho.2 with ⟨rfl, _⟩ | ⟨g', cap', cur', rfl, _, hg', _⟩
  · simp [Value.ownBlock] at e
  · simp [Value.ownBlock] at e
    subst e
    unfold BK at h
    rw [hg'] at h
    injection h with h
    injection h with _ h2 _
    exact ht h2.symm
def MsgsPost (w : World) (B g N : Nat) (e : Ending) (w' : World) : Prop := ∃ (v : Value) (ms : List ByteArray), e = .returned v ∧ OS w' w.heap.size v ms ∧ ms.length ≤ 6 ∧ (∀ s ∈ ms, s.size ≤ 10) ∧ Rd w' B g (N + 300) ∧ w.grownBy w' (some g)
theorem OS.keptg {w w' : World} {base g : Nat} {v : Value} {ss : List ByteArray} (h : OS w base v ss) (hg : w.grownBy w' (some g)) (hb : g < base) : OS w' base v ss := by
  refine h.kept hg ?_
  cases hv : v.ownBlock with
  | none => exact .inl rfl
  | some k => exact .inr (fun e => by injection e with e; have := (h.low k hv).1; omega)
set_option maxRecDepth 100000 in
set_option maxHeartbeats 4000000 in
theorem msgs_any {w : World} {B g N : Nat} (a b d m : Int) (h : Rd w B g N) (hd : -1 ≤ d ∧ d ≤ 41) (hN : N + 300 ≤ 1000000000) :
    Calls Try.prog 31 #[.pointer (some ⟨g, 0, none⟩), cfV a b d m] w (MsgsPost w B g N) := by
  obtain ⟨i0, hi, hz0, hz1, hz2⟩ := info_parts info_str
  have HI := Lib.hid hi
  have HZ0 := Lib.hid hz0
  have HZ1 := Lib.hid hz1
  have HZ2 := Lib.hid hz2
  have hgl := h.lt
  have hd1 := hd.1
  have hd2 := hd.2
  have HR := Lib.hid ((h.alloc (.cells #[.int .i64 a, .int .i64 b, .int .i64 d, .int .i64 m] 24)).alloc (.cells #[] 9))
  have hk := (BK.new w #[.int .i64 a, .int .i64 b, .int .i64 d, .int .i64 m] 24).alloc (.cells #[] 9)
  have HO := Lib.hid (OS_made (w.alloc (.cells #[.int .i64 a, .int .i64 b, .int .i64 d, .int .i64 m] 24)) (base := w.heap.size) (g := w.heap.size + 1) (by simp) (by omega))
  have HG := Lib.hid (grown_alloc (grown_alloc (row := some g) (⟨rfl, rfl, rfl, Nat.le_refl _, fun _ _ _ => rfl⟩ : w.grownBy w (some g)) (.cells #[.int .i64 a, .int .i64 b, .int .i64 d, .int .i64 m] 24)) (.cells #[] 9))
  have HK := Lib.hid hk
  clear h hi hz0 hz1 hz2 hk
  go_enter Try.func31, Try.ntmps31
  go_wp2_with fail
  refine (pick_any _ HR.out (by omega)).mono ?_
  rintro e w1 ⟨⟨x, rfl, hx, _⟩, hr1, hg1⟩
  obtain ⟨h0, h1⟩ := hx (by omega)
  obtain ⟨n0, rfl⟩ := Int.eq_ofNat_of_zero_le h0
  have hn0 : n0 ≤ 6 := by omega
  have HR := Lib.hid hr1
  have HK := Lib.hid (HK.out.grown hg1 (fun e => by injection e with e; omega))
  have HO := Lib.hid (HO.out.keptg hg1 hgl)
  have HG := Lib.hid (grown_trans HG.out hg1)
  clear hr1 hg1 hx h0 h1
  go_wp2_with fail
  go_loopw [5, 6] (fun v n wr => ∃ (k : Nat) (ms : List ByteArray), k ≤ n0 ∧ n = .int .i64 k ∧ ms.length + k = n0 ∧ (∀ s ∈ ms, s.size ≤ 10) ∧ OS wr w.heap.size v ms ∧ BK wr w.heap.size #[.int .i64 a, .int .i64 b, .int .i64 d, .int .i64 m] 24 ∧ Rd wr B g (N + 1 + 40 * ms.length) ∧ w.grownBy wr (some g)) (fun _ n _ => (intOf n).toNat)
  case atStart => exact ⟨n0, [], Nat.le_refl _, rfl, by simp, fun s hs => by simp at hs, HO.out, HK.out, by simpa using HR.out, HG.out⟩
  case round =>
    obtain ⟨k, ms, hk, rfl, hlk, hsz, hown, hbk, hrd, hgr⟩ := hrel
    have c2 := hbk.cell (i := 2) rfl
    have HOr := Lib.hid hown
    have HKr := Lib.hid hbk
    have HRr := Lib.hid hrd
    have HGr := Lib.hid hgr
    have HLK := Lib.hid hlk
    have HSZ := Lib.hid hsz
    have hll : ms.length + k ≤ n0 := by omega
    have hsz0 : w.heap.size ≤ wr.heap.size := hgr.size
    clear hown hbk hrd hgr hlk hsz
    by_cases hkd : 0 < k ∧ 0 < d
    · obtain ⟨hk0, hd0⟩ := hkd
      obtain ⟨dn, rfl⟩ := Int.eq_ofNat_of_zero_le (show 0 ≤ d by omega)
      go_wp2_with fail
      refine (one_any (m := wr.heap.size) [0, 3, 10] 3 (HRr.out.alloc _) (by omega) (by simp) (by simp) (by omega) (list_row wr _ _ _ rfl)).mono ?_
      rintro e w2 ⟨x, hx, rfl, hr2, hg2⟩
      obtain ⟨q, hq, hq10⟩ : ∃ q : Nat, x = (q : Int) ∧ q ≤ 10 := by
        simp only [List.mem_cons, List.not_mem_nil, or_false] at hx
        exact ⟨x.toNat, by omega, by omega⟩
      subst hq
      have HR2 := Lib.hid hr2
      have HG2 := Lib.hid (grown_trans (grown_alloc HGr.out _) hg2)
      have HO2 := Lib.hid ((HOr.out.alloc _).keptg hg2 hgl)
      have HK2 := Lib.hid ((HKr.out.alloc _).grown hg2 (fun e => by injection e with e; omega))
      clear hr2 hg2 hx
      go_wp2_with fail
      refine (bytes_any q HR2.out (by omega) (by omega)).mono ?_
      rintro e w3 ⟨s, rfl, hs, hr3, hg3⟩
      have HR3 := Lib.hid hr3
      have HG3 := Lib.hid (grown_trans HG2.out hg3)
      have HO3 := Lib.hid (HO2.out.keptg hg3 hgl)
      have hk3 := HK2.out.grown hg3 (fun e => by injection e with e; omega)
      have c2 := hk3.cell (i := 2) rfl
      have HK3 := Lib.hid hk3
      clear hr3 hg3 hk3
      have hw1 : IntKind.i64.wrap ((dn : Int) - 1) = (dn : Int) - 1 := by rw [IntKind.wrap_i64]; omega
      by_cases hlong : (dn : Int) - 1 < (s.size : Int)
      · obtain ⟨e1, he1⟩ : ∃ e1 : Nat, (dn : Int) - 1 = (e1 : Int) := ⟨dn - 1, by omega⟩
        have he2 : e1 ≤ s.size := by omega
        have he3 : (0 : Int) ≤ (e1 : Int) := by omega
        have he4 : (e1 : Int) ≤ (s.size : Int) := by omega
        have he5 : IntKind.i64.wrap (e1 : Int) = (e1 : Int) := by rw [IntKind.wrap_i64]; omega
        have hx5 : (s.extract 0 e1).size ≤ 10 := by rw [ByteArray.size_extract]; omega
        go_wp2_with (at_builtin; refine wpList_append_os _ rfl _ _ 25 rfl w.heap.size i0 Try.underlying25 HI.out HZ0.out HZ1.out HZ2.out _ ms rfl (HO3.out.alloc _) _ _ [(s.extract 0 e1)] rfl (RS_one w3 (s.extract 0 e1)) (by simp; omega) (by have := HG3.out.size; simp; omega) ?_; intro v4 w4 hown4 hg4 _)
        go_roundw
        case rel =>
          have hlow := HO3.out.low
          have hne : u5.ownBlock ≠ some g := fun e => by have := (hlow g e).1; omega
          refine ⟨k - 1, ms ++ [(s.extract 0 e1)], by omega, val_int (by omega), by simp; have := HLK.out; omega, fun z hz => ?_, hown4, ?_, ?_, ?_⟩
          · rw [List.mem_append] at hz
            rcases hz with hz | hz
            · exact HSZ.out z hz
            · rw [List.mem_singleton.1 hz]; exact hx5
          · exact (HK3.out.alloc _).os' (by decide) (HO3.out.alloc _) hg4
          · refine ((HR3.out.alloc _).grow hg4 hne (fun j e => ?_)).mono (by simp; omega)
            have h7 := (hlow j e).1
            have hBg : B ≤ g := by obtain ⟨_, _, _, _, _, _, _, _, _, h5, _⟩ := HR3.out; exact h5
            omega
          · exact grown_own (grown_alloc HG3.out _) hg4 (fun j e => (hlow j e).1)
        case measure => simp [intOf]; omega
      · go_wp2_with (at_builtin; refine wpList_append_os _ rfl _ _ 25 rfl w.heap.size i0 Try.underlying25 HI.out HZ0.out HZ1.out HZ2.out _ ms rfl (HO3.out.alloc _) _ _ [s] rfl (RS_one w3 s) (by simp; omega) (by have := HG3.out.size; simp; omega) ?_; intro v4 w4 hown4 hg4 _)
        go_roundw
        case rel =>
          have hlow := HO3.out.low
          have hne : u5.ownBlock ≠ some g := fun e => by have := (hlow g e).1; omega
          refine ⟨k - 1, ms ++ [s], by omega, val_int (by omega), by simp; have := HLK.out; omega, fun z hz => ?_, hown4, ?_, ?_, ?_⟩
          · rw [List.mem_append] at hz
            rcases hz with hz | hz
            · exact HSZ.out z hz
            · rw [List.mem_singleton.1 hz]; omega
          · exact (HK3.out.alloc _).os' (by decide) (HO3.out.alloc _) hg4
          · refine ((HR3.out.alloc _).grow hg4 hne (fun j e => ?_)).mono (by simp; omega)
            have h7 := (hlow j e).1
            have hBg : B ≤ g := by obtain ⟨_, _, _, _, _, _, _, _, _, h5, _⟩ := HR3.out; exact h5
            omega
          · exact grown_own (grown_alloc HG3.out _) hg4 (fun j e => (hlow j e).1)
        case measure => simp [intOf]; omega
    · have hex : ¬ (0 < k) ∨ ¬ (0 < d) := by omega
      rcases hex with hex | hex
      · go_wp2
        go_ret
        exact ⟨_, ms, rfl, HOr.out, by omega, HSZ.out, HRr.out.mono (by omega), HGr.out⟩
      · by_cases hk0 : 0 < k
        · go_wp2
          go_ret
          exact ⟨_, ms, rfl, HOr.out, by omega, HSZ.out, HRr.out.mono (by omega), HGr.out⟩
        · go_wp2
          go_ret
          exact ⟨_, ms, rfl, HOr.out, by omega, HSZ.out, HRr.out.mono (by omega), HGr.out⟩
end Go.Proofs.Ytdnedoafgfpnfaa
