/- Bytes appended in a region that draws its order; a row of one's own beside a cell that is stored into. -/
import Derived.Test.YtcljldnaecldnaaKitA
import Derived.Deep.RegionWith
import Derived.Deep.RegionHeld
namespace Go.Proofs.Ytcljldnaecldnaa
open Go.ChangeShapes Go.WideShapes Go.ChangeAt Go.RowKit
theorem opwp_app {P : Program} {w : World} {o : Oper} {a : Act} {K : Act → World → Prop} {Q : Exit → Act → World → Prop} (s x : Operand) (t : TypeId)
    (ho : o.op = .call { callee := .builtin .append, args := #[s, x], argTypes := #[t, t] })
    (base : Nat) (e : TypeId) (i : TypeInfo) (ht : P.underlying t = some (.slice e)) (hi : P.info? e = some i) (hz : i.zero = some (.int .u8 0))
    (hsize : i.size = 1) (hby : i.bytes = 1) (v : Value) (l : List UInt8) (hs : a.eval s = v) (hown : OB e w base v l)
    (ad : Addr) (m c : Nat) (news : List UInt8) (hx : a.eval x = .slice (some ad) m c) (hm : m = news.length) (hnews : ∀ j u, (news.map byteV)[j]? = some u → w.cell? (ad.add j) = some u)
    (hbytes : l.length + news.length ≤ 140737488355328) (hbase : base ≤ w.heap.size)
    (h : ∀ v' w', OB e w' base v' (l ++ news) → w.grownBy w' v.ownBlock → K (a.put o.dst v') w') : Oper.wp P o a w K Q := by
  subst hm
  obtain ⟨v', w', hr, h2, h3⟩ := run_append_OB (P := P) w base t o.type e i ht hi hz hsize hby v l hown ad c news hnews hbytes hbase
  unfold Oper.wp execOp
  simp only [ho, resolve, invoke, builtin, Sem.run_bind, Sem.run_pure, Result.andThen_ok, List.map_toArray, List.map_cons, List.map_nil, hs, hx, hr]
  exact h v' w' h2 h3
theorem pair_new (w : World) (e : TypeId) (b c : UInt8) {v v2 : Value} (hv : byteV b = v) (hv2 : byteV c = v2) : ∀ j u, ([b, c].map byteV)[j]? = some u → (w.alloc (.cells #[v, v2] e)).cell? ((⟨w.heap.size, 0, none⟩ : Addr).add j) = some u := by
  intro j u hu
  match j, hu with
  | 0, hu => simp at hu; subst hu; simp [Addr.add, hv]
  | 1, hu => simp at hu; subst hu; simp [Addr.add, hv2]
theorem OB.far {e : TypeId} {w : World} {base : Nat} {v : Value} {l : List UInt8} (h : OB e w base v l) {p : Addr} (hp : p.block < base) (x : Value) : OB e (w.setCell p x) base v l := by
  rcases h with hn | ⟨g, cap, cur, fz, rfl, hb, hg, rest⟩
  · exact .inl hn
  · exact .inr ⟨g, cap, cur, fz, rfl, hb, by rw [Below.heap_setCell w p x g (by omega)]; exact hg, rest⟩
end Go.Proofs.Ytcljldnaecldnaa
