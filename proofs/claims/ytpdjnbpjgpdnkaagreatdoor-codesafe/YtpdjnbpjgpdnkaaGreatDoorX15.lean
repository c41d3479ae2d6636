import Derived.Test.YtpdjnbpjgpdnkaaGreatDoorX13
import Derived.ChangeKeysEq
import Derived.Test.YtpdjnbpjgpdnkaaGreatDoorX11
namespace Go.Proofs.YtpdjnbpjgpdnkaaGreatDoor
open Go.RowKit

/-- Two boxes of programs. -/
structure P2 (W : World) (g1 g2 : Pg) (p : Pv) (w : World) : Prop where
 p1 : w.heap[W.heap.size]? = some (.cells (g1.cs p).toArray 27 (0, 0))
 p2 : w.heap[W.heap.size + 1]? = some (.cells (g2.cs p).toArray 27 (0, 0))
 k1 : g1.Ok p W.heap.size w
 k2 : g2.Ok p W.heap.size w
 bel : Below W.heap.size W w
theorem P2.next {W : World} {g1 g2 : Pg} {p : Pv} {w w' : World} (h : P2 W g1 g2 p w) (hb : Below w.heap.size w w') : P2 W g1 g2 p w' :=
 ⟨(hb.block _ (block_lt h.p1)).trans h.p1, (hb.block _ (block_lt h.p2)).trans h.p2, h.k1.kept hb h.bel.size, h.k2.kept hb h.bel.size, h.bel.trans (hb.mono h.bel.size)⟩
end Go.Proofs.YtpdjnbpjgpdnkaaGreatDoor
namespace Go.Proofs.YtpdjnbpjgpdnkaaGreatDoor
open Go.RowKit

/-- The spare room of a lent program. -/
structure Sp (g : Pg) (p : Pv) (lim : Nat) (w : World) : Prop where
 ca : g.ca = some ⟨g.cb, g.co, none⟩
 cl : g.cb < lim
 cc : p.nc + 1 ≤ g.cc
 c : w.cell? ⟨g.cb, g.co + p.nc, none⟩ = some (.int .u64 71)
 sa : g.sa = some ⟨g.sb, g.so, none⟩
 sl : g.sb < lim
 sc : p.ns + 1 ≤ g.sc
 s : w.cell? ⟨g.sb, g.so + p.ns, none⟩ = some (.int .i64 72)
 ia : g.ia = some ⟨g.ib, g.io, none⟩
 il : g.ib < lim
 ic : p.n + 1 ≤ g.ic
 i0 : w.cell? ⟨g.ib, g.io + p.n * 2, none⟩ = some (.int .i64 73)
 i1 : w.cell? ⟨g.ib, g.io + p.n * 2 + 1, none⟩ = some (.int .i64 74)
theorem Sp.kept {g : Pg} {p : Pv} {lim k : Nat} {w w' : World} (h : Sp g p lim w) (hb : Below k w w') (hk : lim ≤ k) : Sp g p lim w' :=
 ⟨h.ca, h.cl, h.cc, (hb.cell (p := ⟨g.cb, _, none⟩) (Nat.lt_of_lt_of_le h.cl hk)).trans h.c, h.sa, h.sl, h.sc, (hb.cell (p := ⟨g.sb, _, none⟩) (Nat.lt_of_lt_of_le h.sl hk)).trans h.s, h.ia, h.il, h.ic, (hb.cell (p := ⟨g.ib, _, none⟩) (Nat.lt_of_lt_of_le h.il hk)).trans h.i0, (hb.cell (p := ⟨g.ib, _, none⟩) (Nat.lt_of_lt_of_le h.il hk)).trans h.i1⟩
theorem Sp.wide {g : Pg} {p : Pv} {lim lim' : Nat} {w : World} (h : Sp g p lim w) (hl : lim ≤ lim') : Sp g p lim' w :=
 ⟨h.ca, Nat.lt_of_lt_of_le h.cl hl, h.cc, h.c, h.sa, Nat.lt_of_lt_of_le h.sl hl, h.sc, h.s, h.ia, Nat.lt_of_lt_of_le h.il hl, h.ic, h.i0, h.i1⟩
end Go.Proofs.YtpdjnbpjgpdnkaaGreatDoor
namespace Go.Proofs.YtpdjnbpjgpdnkaaGreatDoor
open Go.RowKit

/-- The world of the law. -/
structure Lw (W : World) (g g' : Pg) (p : Pv) (lim cb : Nat) (w : World) : Prop where
 pb : w.heap[W.heap.size]? = some (.cells (g.cs p).toArray 27 (0, 0))
 cb : w.heap[cb]? = some (.cells (g'.cs p).toArray 27 (0, 0))
 k1 : g.Ok p W.heap.size w
 k2 : g'.Ok p lim w
 sp : Sp g' p lim w
 tab : Tab w
 le : lim ≤ w.heap.size
 le2 : W.heap.size ≤ w.heap.size
 bel : Below W.heap.size W w
theorem Lw.next {W : World} {g g' : Pg} {p : Pv} {lim cb : Nat} {w w' : World} (h : Lw W g g' p lim cb w) (hb : Below w.heap.size w w') : Lw W g g' p lim cb w' :=
 ⟨(hb.block _ (block_lt h.pb)).trans h.pb, (hb.block _ (block_lt h.cb)).trans h.cb, h.k1.kept hb h.le2, h.k2.kept hb h.le, h.sp.kept hb h.le, h.tab.below hb h.tab.z, Nat.le_trans h.le hb.size, Nat.le_trans h.le2 hb.size, h.bel.trans (hb.mono h.le2)⟩
theorem Lw.cells {W : World} {g g' : Pg} {p : Pv} {lim cb : Nat} {w : World} (h : Lw W g g' p lim cb w) : (w.cell? ⟨W.heap.size, 0, none⟩ = some (.slice g.ca p.nc g.cc) ∧ w.cell? ⟨W.heap.size, 1, none⟩ = some (.slice g.sa p.ns g.sc) ∧ w.cell? ⟨W.heap.size, 2, none⟩ = some (.int .i64 (p.en 0)) ∧ w.cell? ⟨W.heap.size, 3, none⟩ = some (.int .i64 (p.en 1)) ∧ w.cell? ⟨W.heap.size, 4, none⟩ = some (.int .i64 (p.en 2)) ∧ w.cell? ⟨W.heap.size, 5, none⟩ = some (.int .i64 (p.en 3)) ∧ w.cell? ⟨W.heap.size, 6, none⟩ = some (.int .i64 (p.en 4)) ∧ w.cell? ⟨W.heap.size, 7, none⟩ = some (.int .i64 (p.en 5)) ∧ w.cell? ⟨W.heap.size, 8, none⟩ = some (.slice g.ia p.n g.ic) ∧ W.heap.size < w.heap.size) ∧
  (w.cell? ⟨cb, 0, none⟩ = some (.slice g'.ca p.nc g'.cc) ∧ w.cell? ⟨cb, 1, none⟩ = some (.slice g'.sa p.ns g'.sc) ∧ w.cell? ⟨cb, 2, none⟩ = some (.int .i64 (p.en 0)) ∧ w.cell? ⟨cb, 3, none⟩ = some (.int .i64 (p.en 1)) ∧ w.cell? ⟨cb, 4, none⟩ = some (.int .i64 (p.en 2)) ∧ w.cell? ⟨cb, 5, none⟩ = some (.int .i64 (p.en 3)) ∧ w.cell? ⟨cb, 6, none⟩ = some (.int .i64 (p.en 4)) ∧ w.cell? ⟨cb, 7, none⟩ = some (.int .i64 (p.en 5)) ∧ w.cell? ⟨cb, 8, none⟩ = some (.slice g'.ia p.n g'.ic) ∧ cb < w.heap.size) :=
 ⟨⟨block_cell h.pb 0, block_cell h.pb 1, block_cell h.pb 2, block_cell h.pb 3, block_cell h.pb 4, block_cell h.pb 5, block_cell h.pb 6, block_cell h.pb 7, block_cell h.pb 8, block_lt h.pb⟩, ⟨block_cell h.cb 0, block_cell h.cb 1, block_cell h.cb 2, block_cell h.cb 3, block_cell h.cb 4, block_cell h.cb 5, block_cell h.cb 6, block_cell h.cb 7, block_cell h.cb 8, block_lt h.cb⟩⟩
/-- What an error of the program and a fault of the reference have in common. -/
def Er (w : World) (v f : Value) : Prop := (v = .nilIface ∧ f = .agg #[.slice none 0 0, .int .i64 0]) ∨ ∃ a y ao cap b off, f = .agg #[.slice ao 1 cap, .int .i64 y] ∧ y ≠ 0 ∧ Ft w.heap.size w v a y ∧ FV w.heap.size w ao [⟨⟨#[99, 111, 100, 101]⟩, a⟩] b off
theorem Er.next {w w' : World} {v f : Value} (h : Er w v f) (hb : Below w.heap.size w w') : Er w' v f := by
 rcases h with ⟨rfl, rfl⟩ | ⟨a, y, ao, cap, b, off, rfl, hy, h1, h2⟩
 ·exact .inl ⟨rfl, rfl⟩
 ·exact .inr ⟨a, y, ao, cap, b, off, rfl, hy, h1.kept hb, h2.next hb⟩
end Go.Proofs.YtpdjnbpjgpdnkaaGreatDoor
namespace Go.Proofs.YtpdjnbpjgpdnkaaGreatDoor
open Go.RowKit

end Go.Proofs.YtpdjnbpjgpdnkaaGreatDoor
