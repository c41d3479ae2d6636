import Derived.Test.YtpdjnbpjgpdnkaaGreatDoorV21
import Derived.Test.YtpdjnbpjgpdnkaaGreatDoorV16
namespace Go.Proofs.YtpdjnbpjgpdnkaaGreatDoor
open Go.RowKit

/-- A program of new memory. -/
structure Po (B : Nat) (g : Pg) (p : Pv) (w : World) : Prop where
 c : w.ownsRow B 28 1 (.slice g.ca p.nc g.cc) p.nc (nums .u64 p.C p.nc)
 s : w.ownsRow B 3 1 (.slice g.sa p.ns g.sc) p.ns (nums .i64 p.S p.ns)
 i : Irow w B (.slice g.ia p.n g.ic) p.n p.op p.arg
 ok : g.Ok p w.heap.size w
theorem own_low {w : World} {B B' n sz : Nat} {t : TypeId} {v : Value} {xs : List Value} (h : w.ownsRow B' t sz v n xs) (hb : B ≤ B') : w.ownsRow B t sz v n xs := by
 refine ⟨h.1, ?_⟩
 rcases h.2 with q | ⟨g, cap, cur, q1, q2, q3⟩
 ·exact .inl q
 ·exact .inr ⟨g, cap, cur, q1, by omega, q3⟩
def blkOfA (a : Option Addr) : Nat := match a with
 | some x => x.block
 | none => 0
theorem own_keep {w w' : World} {B n sz : Nat} {t : TypeId} {v : Value} {xs : List Value} (h : w.ownsRow B t sz v n xs) (hb : Below w.heap.size w w') : w'.ownsRow B t sz v n xs :=
 World.ownsRow.kept (row := none) h ⟨hb.os, hb.tape, hb.output, hb.size, fun k hk _ => hb.block k hk⟩ (by cases hv : v.ownBlock <;> simp)
theorem own_offT {w w' : World} {B n sz : Nat} {t t' : TypeId} {v : Value} {xs : List Value} (h : w.ownsRow B t sz v n xs) {q : Nat} {cs : Array Value} {z : Nat × Nat} (hq : w.heap[q]? = some (.cells cs t' z)) (ht : t' ≠ t) (hg : w.grownBy w' (some q)) : w'.ownsRow B t sz v n xs := by
 refine World.ownsRow.kept h hg ?_
 rcases h.2 with ⟨rfl, _⟩ | ⟨g, cap, cur, rfl, _, hc, _⟩
 ·exact .inl rfl
 ·right
  intro e
  simp [Value.ownBlock] at e
  subst e
  rw [hc] at hq
  cases hq
  exact ht rfl
end Go.Proofs.YtpdjnbpjgpdnkaaGreatDoor
