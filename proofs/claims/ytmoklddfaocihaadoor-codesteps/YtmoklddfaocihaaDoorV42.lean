import Derived.Test.YtmoklddfaocihaaDoorV40
import Derived.Test.YtmoklddfaocihaaDoorV46
namespace Go.Proofs.YtmoklddfaocihaaDoor
open Go.RowKit

/-- What Run refuses. -/
def rnF (p : Pv) (ev : Int) : Option (Int × Int) := match verF p with
 | .error z => some z
 | .ok _ => if isPl ev 6 = true then none else some (0, 92)
theorem rnF_ok {p : Pv} {k : Kn} {ev : Int} (h : verF p = .ok k) : rnF p ev = if isPl ev 6 = true then none else some (0, 92) := by unfold rnF; rw [h]
theorem rnF_err {p : Pv} {z : Int × Int} {ev : Int} (h : verF p = .error z) : rnF p ev = some z := by unfold rnF; rw [h]
/-- The reference's fault. -/
def Fr (z : Option (Int × Int)) (lim : Nat) (w : World) (f : Value) : Prop := (z = none ∧ f = .agg #[.slice none 0 0, .int .i64 0]) ∨ ∃ a y ao cap b off, z = some (a, y) ∧ f = .agg #[.slice ao 1 cap, .int .i64 y] ∧ y ≠ 0 ∧ FV lim w ao [⟨⟨#[99, 111, 100, 101]⟩, a⟩] b off
theorem Fr.below {z : Option (Int × Int)} {lim : Nat} {w w' : World} {f : Value} (h : Fr z lim w f) (hb : Below lim w w') : Fr z lim w' f := by
 rcases h with h | ⟨a, y, ao, cap, b, off, h1, h2, h3, h4⟩
 ·exact .inl h
 ·exact .inr ⟨a, y, ao, cap, b, off, h1, h2, h3, h4.below hb⟩
theorem Fr.wide {z : Option (Int × Int)} {lim lim' : Nat} {w : World} {f : Value} (h : Fr z lim w f) (hl : lim ≤ lim') : Fr z lim' w f := by
 rcases h with h | ⟨a, y, ao, cap, b, off, h1, h2, h3, h4⟩
 ·exact .inl h
 ·exact .inr ⟨a, y, ao, cap, b, off, h1, h2, h3, h4.wide hl⟩
/-- The world of the law. -/
structure Lr (W : World) (g g' : Pg) (p : Pv) (e : En) (O : Array Value) (z : Option (Int × Int)) (ao : Option Addr) (n cap : Nat) (y : Int) (lim ob fb cb : Nat) (w : World) : Prop where
 pb : w.heap[W.heap.size]? = some (.cells (g.cs p).toArray 27 (0, 0))
 eb : w.heap[W.heap.size + 1]? = some (.cells e.cs.toArray 44 (0, 0))
 ox : w.heap[ob]? = some (.cells O 48 (0, 0))
 fx : w.heap[fb]? = some (.cells #[.slice ao n cap, .int .i64 y] 30 (0, 0))
 cx : w.heap[cb]? = some (.cells (g'.cs p).toArray 27 (0, 0))
 k1 : g.Ok p W.heap.size w
 k2 : g'.Ok p lim w
 sp : Sp g' p lim w
 fa : Fr z lim w (.agg #[.slice ao n cap, .int .i64 y])
 tab : Tab w
 l1 : W.heap.size + 1 < lim
 l2 : ob < lim
 l3 : fb < lim
 l4 : cb < lim
 le : lim ≤ w.heap.size
 bel : Below W.heap.size W w
 z0 : 3 < lim
section
variable {W : World} {g g' : Pg} {p : Pv} {e : En} {O : Array Value} {z : Option (Int × Int)} {ao : Option Addr} {n cap : Nat} {y : Int} {lim ob fb cb : Nat} {w w' : World}
theorem Lr.next (h : Lr W g g' p e O z ao n cap y lim ob fb cb w) (hb : Below lim w w') : Lr W g g' p e O z ao n cap y lim ob fb cb w' :=
 ⟨(hb.block _ (Nat.lt_of_succ_lt h.l1)).trans h.pb, (hb.block _ h.l1).trans h.eb, (hb.block _ h.l2).trans h.ox, (hb.block _ h.l3).trans h.fx, (hb.block _ h.l4).trans h.cx, h.k1.kept hb (by have := h.l1; omega), h.k2.kept hb (Nat.le_refl _), h.sp.kept hb (Nat.le_refl _), h.fa.below hb, h.tab.below hb h.z0, h.l1, h.l2, h.l3, h.l4, Nat.le_trans h.le hb.size, h.bel.trans (hb.mono (by have := h.l1; omega)), h.z0⟩
end
end Go.Proofs.YtmoklddfaocihaaDoor
namespace Go.Proofs.YtmoklddfaocihaaDoor
open Go.RowKit

end Go.Proofs.YtmoklddfaocihaaDoor
