/- A line that came in, opened. -/
import Derived.Test.YtdnedoafgfpnfaaLnD
namespace Go.Proofs.Ytdnedoafgfpnfaa
open Go.ChangeShapes Go.WideShapes Go.ChangeAt Go.RowKit
theorem array13 {cs : Array Value} (h : cs.size = 13) : ∃ c0 c1 c2 c3 c4 c5 c6 c7 c8 c9 c10 c11 c12, cs = #[c0, c1, c2, c3, c4, c5, c6, c7, c8, c9, c10, c11, c12] := by
  rcases cs with ⟨l⟩
  simp only [List.size_toArray] at h
  match l, h with
  | [c0, c1, c2, c3, c4, c5, c6, c7, c8, c9, c10, c11, c12], _ => exact ⟨c0, c1, c2, c3, c4, c5, c6, c7, c8, c9, c10, c11, c12, rfl⟩
section
variable {Hh : Type} {enc : TypeId × Value → Hh} {W : World}
theorem strs_open {n : Nat} {v : Value} {y : DataW Hh × List MemPlace} (h : DataW.trod enc Try.prog W 0 (fun _ => true) true n 25 [v] = some y) : ∃ a len cap zs, v = .slice a len cap ∧ IsStrs W a len cap zs := by
  rcases open_strings Try.underlying25 Try.underlying9 (by kernel_rfl) h with ⟨hcs, _⟩ | ⟨x, l, c, zs, hcs, _, hl, hm, hz, _, hcell, hwz⟩
  · simp only [List.cons.injEq, and_true] at hcs
    exact ⟨none, 0, 0, [], hcs, .inl ⟨rfl, rfl, rfl, rfl⟩⟩
  · simp only [List.cons.injEq, and_true] at hcs
    exact ⟨_, _, _, zs, hcs, .inr ⟨_, rfl, hl, hm, by simpa using hz, hcell, hwz⟩⟩
theorem conf_open {n : Nat} {v0 v1 v2 v3 : Value} {y : DataW Hh × List MemPlace} (h : DataW.trod enc Try.prog W 0 (fun _ => true) true n 45 [v0, v1, v2, v3] = some y) :
    ∃ a b d m : Int, v0 = .int .i64 a ∧ v1 = .int .i64 b ∧ v2 = .int .i64 d ∧ v3 = .int .i64 m ∧ (Lit.int .i64 a).wf = true ∧ (Lit.int .i64 b).wf = true ∧ (Lit.int .i64 d).wf = true ∧ (Lit.int .i64 m).wf = true := by
  have ki : Try.prog.cellsOf 3 = 1 := by kernel_rfl
  obtain ⟨xs, k, _, _, _, hxl, hf⟩ := DataW.trod_struct Try.underlying45 h
  match xs, hxl with
  | [y0, y1, y2, y3], _ =>
    have g0 := hf 0 _ rfl
    have g1 := hf 1 _ rfl
    have g2 := hf 2 _ rfl
    have g3 := hf 3 _ rfl
    simp [ki] at g0 g1 g2 g3
    obtain ⟨a, e0, _, w0⟩ := DataW.trod_int Try.underlying3 g0
    obtain ⟨b, e1, _, w1⟩ := DataW.trod_int Try.underlying3 g1
    obtain ⟨d, e2, _, w2⟩ := DataW.trod_int Try.underlying3 g2
    obtain ⟨m, e3, _, w3⟩ := DataW.trod_int Try.underlying3 g3
    simp only [List.cons.injEq, and_true] at e0 e1 e2 e3
    exact ⟨a, b, d, m, e0, e1, e2, e3, w0, w1, w2, w3⟩
theorem find_open {n : Nat} {v0 v1 : Value} {y : DataW Hh × List MemPlace} (h : DataW.trod enc Try.prog W 0 (fun _ => true) true n 46 [v0, v1] = some y) :
    ∃ (s : ByteArray) (o : Bool), v0 = .string s ∧ v1 = .bool o ∧ s.size ≤ maxLen := by
  have ks : Try.prog.cellsOf 9 = 1 := by kernel_rfl
  have kb : Try.prog.cellsOf 4 = 1 := by kernel_rfl
  obtain ⟨xs, k, _, _, _, hxl, hf⟩ := DataW.trod_struct Try.underlying46 h
  match xs, hxl with
  | [y0, y1], _ =>
    have g0 := hf 0 _ rfl
    have g1 := hf 1 _ rfl
    simp [ks, kb] at g0 g1
    obtain ⟨s, e0, _, w0⟩ := DataW.trod_string Try.underlying9 g0
    obtain ⟨o, e1, _⟩ := DataW.trod_bool Try.underlying4 g1
    simp only [List.cons.injEq, and_true] at e0 e1
    exact ⟨s, o, e0, e1, w0⟩
set_option maxRecDepth 100000 in
theorem isLine_open {r : Reach} {b0 : Nat} {v : Value} {dd : DataW Hh} {p : List MemPlace} (hv : Value.okWide Try.prog W r b0 48 v) (h : DataW.Trod enc Try.prog W 0 (fun _ => true) true 48 v dd p) :
    ∃ (a b d m : Int) (am : Option Addr) (lm cm : Nat) (zm : List ByteArray) (nx : Int) (ag : Option Addr) (lg cg : Nat) (zg : List ByteArray) (T : ByteArray) (to : Bool) (H : ByteArray) (ho : Bool) (at_ : Option Addr) (lt ct : Nat) (zt : List ByteArray) (ab : Option Addr) (lb cb : Nat) (zb : List ByteArray),
      v = lnV a b d m (.slice am lm cm) nx (.slice ag lg cg) T to H ho (.slice at_ lt ct) (.slice ab lb cb) ∧ (Lit.int .i64 a).wf = true ∧ IsStrs W am lm cm zm ∧ (Lit.int .i64 nx).wf = true ∧ IsStrs W ag lg cg zg ∧ T.size ≤ maxLen ∧ H.size ≤ maxLen ∧ IsStrs W at_ lt ct zt ∧ IsStrs W ab lb cb zb := by
  have kc : Try.prog.cellsOf 45 = 4 := by kernel_rfl
  have kf : Try.prog.cellsOf 46 = 2 := by kernel_rfl
  have ki : Try.prog.cellsOf 3 = 1 := by kernel_rfl
  have kl : Try.prog.cellsOf 25 = 1 := by kernel_rfl
  obtain ⟨cs, rfl, hsz⟩ := okWide_struct Try.underlying48 hv
  obtain ⟨c0, c1, c2, c3, c4, c5, c6, c7, c8, c9, c10, c11, c12, rfl⟩ := array13 (hsz.trans (by kernel_rfl))
  obtain ⟨fuel, hf0⟩ := h
  obtain ⟨xs, k, _, _, _, hxl, hf⟩ := DataW.trod_struct Try.underlying48 hf0
  match xs, hxl with
  | [y0, y1, y2, y3, y4, y5, y6, y7], _ =>
    have g0 := hf 0 _ rfl
    have g1 := hf 1 _ rfl
    have g2 := hf 2 _ rfl
    have g3 := hf 3 _ rfl
    have g4 := hf 4 _ rfl
    have g5 := hf 5 _ rfl
    have g6 := hf 6 _ rfl
    have g7 := hf 7 _ rfl
    simp [Value.cells, kc, kf, ki, kl] at g0 g1 g2 g3 g4 g5 g6 g7
    obtain ⟨a, b, d, m, rfl, rfl, rfl, rfl, wa, _⟩ := conf_open g0
    obtain ⟨am, lm, cm, zm, rfl, hm⟩ := strs_open g1
    obtain ⟨nx, e2, _, wn⟩ := DataW.trod_int Try.underlying3 g2
    simp only [List.cons.injEq, and_true] at e2
    subst e2
    obtain ⟨ag, lg, cg, zg, rfl, hg⟩ := strs_open g3
    obtain ⟨T, to, rfl, rfl, hT⟩ := find_open g4
    obtain ⟨H, ho, rfl, rfl, hH⟩ := find_open g5
    obtain ⟨at_, lt, ct, zt, rfl, ht⟩ := strs_open g6
    obtain ⟨ab, lb, cb, zb, rfl, hb⟩ := strs_open g7
    exact ⟨a, b, d, m, am, lm, cm, zm, nx, ag, lg, cg, zg, T, to, H, ho, at_, lt, ct, zt, ab, lb, cb, zb, rfl, wa, hm, wn, hg, hT, hH, ht, hb⟩
end
end Go.Proofs.Ytdnedoafgfpnfaa
