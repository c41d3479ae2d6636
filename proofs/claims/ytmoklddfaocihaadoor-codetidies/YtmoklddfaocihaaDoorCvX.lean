import Derived.Test.YtmoklddfaocihaaDoorCvW
namespace Go.Proofs.YtmoklddfaocihaaDoor
open Go.RowKit

/-- The spare room of a lent program. -/
structure Sp (g : Pg) (p : Pv) (lim : Nat) (w : World) : Prop where
  ca : g.ca = some ⟨g.cb, g.co, none⟩
  cl : g.cb < lim
  cc : p.nc + 1 ≤ g.cc
  c : w.cell? ⟨g.cb, g.co + p.nc, none⟩ = some (.int .u64 71)
  sa : g.sa = some ⟨g.sb, g.so, none⟩
  sl : g.sb < lim
  sc : p.ns + 1 ≤ g.sc
  s : w.cell? ⟨g.sb, g.so + p.ns, none⟩ = some (.int .i64 72)
  ia : g.ia = some ⟨g.ib, g.io, none⟩
  il : g.ib < lim
  ic : p.n + 1 ≤ g.ic
  i0 : w.cell? ⟨g.ib, g.io + p.n * 2, none⟩ = some (.int .i64 73)
  i1 : w.cell? ⟨g.ib, g.io + p.n * 2 + 1, none⟩ = some (.int .i64 74)
theorem Sp.kept {g : Pg} {p : Pv} {lim k : Nat} {w w' : World} (h : Sp g p lim w) (hb : Below k w w') (hk : lim ≤ k) : Sp g p lim w' :=
  ⟨h.ca, h.cl, h.cc, (hb.cell (p := ⟨g.cb, _, none⟩) (Nat.lt_of_lt_of_le h.cl hk)).trans h.c, h.sa, h.sl, h.sc, (hb.cell (p := ⟨g.sb, _, none⟩) (Nat.lt_of_lt_of_le h.sl hk)).trans h.s, h.ia, h.il, h.ic, (hb.cell (p := ⟨g.ib, _, none⟩) (Nat.lt_of_lt_of_le h.il hk)).trans h.i0, (hb.cell (p := ⟨g.ib, _, none⟩) (Nat.lt_of_lt_of_le h.il hk)).trans h.i1⟩
theorem Sp.wide {g : Pg} {p : Pv} {lim lim' : Nat} {w : World} (h : Sp g p lim w) (hl : lim ≤ lim') : Sp g p lim' w :=
  ⟨h.ca, Nat.lt_of_lt_of_le h.cl hl, h.cc, h.c, h.sa, Nat.lt_of_lt_of_le h.sl hl, h.sc, h.s, h.ia, Nat.lt_of_lt_of_le h.il hl, h.ic, h.i0, h.i1⟩
set_option maxRecDepth 10000 in
set_option maxHeartbeats 3200000 in
theorem keptT {W : World} {g1 g2 : Pg} {p : Pv} (h1 : g1.Ok p W.heap.size W) (h2 : g2.Ok p W.heap.size W) (hs : Sp g1 p W.heap.size W) :
    Calls Tryd.prog 11 #[.agg (g1.cs p).toArray, .agg (g2.cs p).toArray] W fun e w' => e = .returned (.bool true) ∧ Hid (Below W.heap.size W w') := by
  obtain ⟨W2, hW2⟩ : ∃ W2, (W.alloc (.cells (g1.cs p).toArray 27)).alloc (.cells (g2.cs p).toArray 27) = W2 := ⟨_, rfl⟩
  have HS := hide (p2_new h1 h2 hW2)
  have HW2 := hide hW2
  have hlc := h1.lc
  have hls := h1.ls
  have hli := h1.li
  have HSM := hide (sameT (HS.out.k1.wide HS.out.bel.size) (HS.out.k2.wide HS.out.bel.size))
  have HSP := hide hs
  clear h1 h2 hW2 hs
  have y0 := block_cell HS.out.p1 0
  have y1 := block_cell HS.out.p1 1
  have y2 := block_cell HS.out.p1 2
  have y3 := block_cell HS.out.p1 3
  have y4 := block_cell HS.out.p1 4
  have y5 := block_cell HS.out.p1 5
  have y6 := block_cell HS.out.p1 6
  have y7 := block_cell HS.out.p1 7
  have y8 := block_cell HS.out.p1 8
  have yl := block_lt HS.out.p1
  have x0 := block_cell HS.out.p2 0
  have x1 := block_cell HS.out.p2 1
  have x2 := block_cell HS.out.p2 2
  have x3 := block_cell HS.out.p2 3
  have x4 := block_cell HS.out.p2 4
  have x5 := block_cell HS.out.p2 5
  have x6 := block_cell HS.out.p2 6
  have x7 := block_cell HS.out.p2 7
  have x8 := block_cell HS.out.p2 8
  have xl := block_lt HS.out.p2
  simp [Pg.cs] at y0 y1 y2 y3 y4 y5 y6 y7 y8 x0 x1 x2 x3 x4 x5 x6 x7 x8
  simp only [Pg.cs] at HW2 HSM ⊢
  go_enter Tryd.func11, Tryd.ntmps11
  go_upto_region 1 with fail
  rw [HW2.out]
  clear HW2
  go_wp2_with fail
  refine HSM.out.mono ?_
  rintro e w3 ⟨rfl, G3⟩
  have HS3 := hide (HS.out.next G3.out)
  have hsp := HSP.out.kept HS3.out.bel (Nat.le_refl _)
  have sz := HS3.out.bel.size
  have z0 := block_cell HS3.out.p1 0
  have z1 := block_cell HS3.out.p1 1
  have z8 := block_cell HS3.out.p1 8
  have zl := block_lt HS3.out.p1
  have u0 := block_cell HS3.out.p2 0
  have u1 := block_cell HS3.out.p2 1
  have u8 := block_cell HS3.out.p2 8
  have ul := block_lt HS3.out.p2
  simp [Pg.cs] at z0 z1 z8 u0 u1 u8
  rw [hsp.ca] at z0
  rw [hsp.sa] at z1
  rw [hsp.ia] at z8
  have k1 := hsp.cc
  have k2 := hsp.sc
  have k3 := hsp.ic
  have c1 := hsp.c
  have c2 := hsp.s
  have c3 := hsp.i0
  have c4 := hsp.i1
  have l1 : g1.cb < w3.heap.size := Nat.lt_of_lt_of_le hsp.cl sz
  have l2 : g1.sb < w3.heap.size := Nat.lt_of_lt_of_le hsp.sl sz
  have l3 : g1.ib < w3.heap.size := Nat.lt_of_lt_of_le hsp.il sz
  have HD := hide HS3.out.bel
  clear hsp HSP HSM y0 y1 y2 y3 y4 y5 y6 y7 y8 yl x0 x1 x2 x3 x4 x5 x6 x7 x8 xl HS G3 sz HS3
  go_wp2
  go_ret
  exact ⟨rfl, HD⟩
end Go.Proofs.YtmoklddfaocihaaDoor
