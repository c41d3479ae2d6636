import Derived.Test.YtmoklddfaocihaaDoorV21
import Derived.Test.YtmoklddfaocihaaDoorV16
namespace Go.Proofs.YtmoklddfaocihaaDoor
open Go.RowKit

/-- A program of new memory. -/
structure Po (B : Nat) (g : Pg) (p : Pv) (w : World) : Prop where
 c : w.ownsRow B 42 1 (.slice g.ca p.nc g.cc) p.nc (nums .u64 p.C p.nc)
 s : w.ownsRow B 3 1 (.slice g.sa p.ns g.sc) p.ns (nums .i64 p.S p.ns)
 i : Irow w B (.slice g.ia p.n g.ic) p.n p.op p.arg
 ok : g.Ok p w.heap.size w
theorem own_low {w : World} {B B' n sz : Nat} {t : TypeId} {v : Value} {xs : List Value} (h : w.ownsRow B' t sz v n xs) (hb : B ≤ B') : w.ownsRow B t sz v n xs := by
 refine ⟨h.1, ?_⟩
 rcases h.2 with q | ⟨g, cap, cur, q1, q2, q3⟩
 ·exact .inl q
 ·exact .inr ⟨g, cap, cur, q1, by omega, q3⟩
def blkOfA (a : Option Addr) : Nat := match a with
 | some x => x.block
 | none => 0
/-- A program out of its rows. -/
theorem po_mk {B : Nat} {p : Pv} {w : World} {vc vs vi : Value} (hc : w.ownsRow B 42 1 vc p.nc (nums .u64 p.C p.nc)) (hs : w.ownsRow B 3 1 vs p.ns (nums .i64 p.S p.ns)) (hi : Irow w B vi p.n p.op p.arg) (h1 : p.nc ≤ 256) (h2 : p.ns ≤ 128) (h3 : p.n ≤ 1024) :
  ∃ g : Pg, vc = .slice g.ca p.nc g.cc ∧ vs = .slice g.sa p.ns g.sc ∧ vi = .slice g.ia p.n g.ic ∧ Po B g p w := by
 obtain ⟨ca, cc, rfl, kc⟩ : ∃ ca cc, vc = .slice ca p.nc cc ∧ (0 < p.nc → ca = some ⟨blkOfA ca, 0, none⟩ ∧ blkOfA ca < w.heap.size) ∧ ∀ j, j < p.nc → w.cell? ⟨blkOfA ca, 0 + j, none⟩ = some (.int .u64 (p.C j)) := by
  rcases hc.2 with ⟨rfl, h0⟩ | ⟨g, cap, cur, rfl, _, hq, _⟩
  ·rw [h0]
   exact ⟨none, 0, rfl, fun h => by omega, fun j hj => by omega⟩
  ·refine ⟨_, cap, rfl, fun _ => ⟨rfl, block_lt hq⟩, fun j hj => ?_⟩
   have := hc.cellAt j (by omega)
   rw [Nat.zero_add]
   refine this.trans ?_
   simp [nums, hj]
 obtain ⟨sa, sc, rfl, ks⟩ : ∃ ca cc, vs = .slice ca p.ns cc ∧ (0 < p.ns → ca = some ⟨blkOfA ca, 0, none⟩ ∧ blkOfA ca < w.heap.size) ∧ ∀ j, j < p.ns → w.cell? ⟨blkOfA ca, 0 + j, none⟩ = some (.int .i64 (p.S j)) := by
  rcases hs.2 with ⟨rfl, h0⟩ | ⟨g, cap, cur, rfl, _, hq, _⟩
  ·rw [h0]
   exact ⟨none, 0, rfl, fun h => by omega, fun j hj => by omega⟩
  ·refine ⟨_, cap, rfl, fun _ => ⟨rfl, block_lt hq⟩, fun j hj => ?_⟩
   have := hs.cellAt j (by omega)
   rw [Nat.zero_add]
   refine this.trans ?_
   simp [nums, hj]
 obtain ⟨ia, ic, rfl, _, ki⟩ := irow_val hi
 refine ⟨⟨ca, sa, ia, cc, sc, ic, blkOfA ca, 0, blkOfA sa, 0, blkOfA ia, 0⟩, rfl, rfl, rfl, hc, hs, hi, kc.1, ks.1, fun h => ?_, kc.2, ks.2, fun j hj => ?_, fun j hj => ?_, by omega, by omega, by omega⟩
 ·obtain ⟨g, rfl, _, h2, _⟩ := ki h
  exact ⟨rfl, h2⟩
 ·obtain ⟨g, rfl, _, _, h2⟩ := ki (by omega)
  rw [Nat.zero_add]
  exact (h2 j hj).1
 ·obtain ⟨g, rfl, _, _, h2⟩ := ki (by omega)
  rw [Nat.zero_add]
  exact (h2 j hj).2.1
theorem own_keep {w w' : World} {B n sz : Nat} {t : TypeId} {v : Value} {xs : List Value} (h : w.ownsRow B t sz v n xs) (hb : Below w.heap.size w w') : w'.ownsRow B t sz v n xs :=
 World.ownsRow.kept (row := none) h ⟨hb.os, hb.tape, hb.output, hb.size, fun k hk _ => hb.block k hk⟩ (by cases hv : v.ownBlock <;> simp)
theorem own_offT {w w' : World} {B n sz : Nat} {t t' : TypeId} {v : Value} {xs : List Value} (h : w.ownsRow B t sz v n xs) {q : Nat} {cs : Array Value} {z : Nat × Nat} (hq : w.heap[q]? = some (.cells cs t' z)) (ht : t' ≠ t) (hg : w.grownBy w' (some q)) : w'.ownsRow B t sz v n xs := by
 refine World.ownsRow.kept h hg ?_
 rcases h.2 with ⟨rfl, _⟩ | ⟨g, cap, cur, rfl, _, hc, _⟩
 ·exact .inl rfl
 ·right
  intro e
  simp [Value.ownBlock] at e
  subst e
  rw [hc] at hq
  cases hq
  exact ht rfl
end Go.Proofs.YtmoklddfaocihaaDoor
