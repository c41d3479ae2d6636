import Derived.Test.YtggpaljilpbmhaaGreatDoorZ23
import Derived.ChangeKeysEq
import Derived.Test.YtggpaljilpbmhaaGreatDoorZ43
import Derived.Test.YtggpaljilpbmhaaGreatDoorZ24
namespace Go.Proofs.YtggpaljilpbmhaaGreatDoor
open Go.RowKit

set_option maxRecDepth 10000 in
set_option maxHeartbeats 1600000 in
theorem sameIntsT {W : World} {a1 a2 : Option Addr} {b1 o1 b2 o2 n c1 c2 : Nat} (f : Nat → Int) (h1 : 0 < n → a1 = some ⟨b1, o1, none⟩ ∧ b1 < W.heap.size) (h2 : 0 < n → a2 = some ⟨b2, o2, none⟩ ∧ b2 < W.heap.size)
  (v1 : ∀ j, j < n → W.cell? ⟨b1, o1 + j, none⟩ = some (.int .i64 (f j))) (v2 : ∀ j, j < n → W.cell? ⟨b2, o2 + j, none⟩ = some (.int .i64 (f j))) (hn : n ≤ 140737488355328) :
  Calls Tryz.prog 31 #[.slice a1 n c1, .slice a2 n c2] W fun e w' => e = .returned (.bool true) ∧ Hid (Below W.heap.size W w') := by
 have H1 := hide h1
 have H2 := hide h2
 have V1 := hide v1
 have V2 := hide v2
 clear h1 h2 v1 v2
 go_enter Tryz.func31, Tryz.ntmps31
 go_upto_region 4 with fail
 go_loopw [5] (fun i wr => ∃ j : Nat, j ≤ n ∧ i = .int .i64 (j : Nat) ∧ Hid (Below W.heap.size W wr)) (fun i _ => n - (intOf i).toNat)
 case atStart => exact ⟨0, by omega, rfl, Below.refl _ _⟩
 case round =>
  obtain ⟨j, hj, rfl, HB⟩ := hrel
  by_cases hlt : j < n
  ·obtain ⟨e1, l1⟩ := H1.out (by omega)
   obtain ⟨e2, l2⟩ := H2.out (by omega)
   have x1 : wr.cell? ⟨b1, o1 + j, none⟩ = some (.int .i64 (f j)) := (HB.out.cell (p := ⟨b1, _, none⟩) l1).trans (V1.out j hlt)
   have x2 : wr.cell? ⟨b2, o2 + j, none⟩ = some (.int .i64 (f j)) := (HB.out.cell (p := ⟨b2, _, none⟩) l2).trans (V2.out j hlt)
   have k1 : b1 < wr.heap.size := Nat.lt_of_lt_of_le l1 HB.out.size
   have k2 : b2 < wr.heap.size := Nat.lt_of_lt_of_le l2 HB.out.size
   have HD : Hid (Below W.heap.size W wr.drew) := HB.out.drew
   subst e1
   subst e2
   clear l1 l2 HB
   go_upto_region 6 with fail
   go_region
   go_wp2
   go_roundw
   case rel => exact ⟨j + 1, by omega, by go_num, HD.out⟩
   case measure => simp [intOf]; omega
  ·obtain rfl : j = n := by omega
   go_wp2
   go_ret
   exact ⟨rfl, HB⟩
theorem eqItems_self (xs : Array Value) (w : World) : ∀ is : List Nat, (∀ i ∈ is, ∃ x, xs[i * 1]? = some (.int .i64 x)) → (Op.eqItems 9999 3 1 xs xs is).run Tryz.prog w = .ok true w
 | [], _ => rfl
 | i :: is, h => by
  obtain ⟨x, hx⟩ := h i (by simp)
  have ih := eqItems_self xs w is (fun j hj => h j (by simp [hj]))
  have hp := run_part_plain (P := Tryz.prog) w (e := 3) (by kernel_rfl) hx
  have he : (Op.equalIn 9999 3 (.int .i64 x) (.int .i64 x)).run Tryz.prog w = .ok true w := by
   rw [show 9999 = 9998 + 1 from rfl, run_equalIn_int w 9998 3 .i64 .i64 x x Tryz.underlying3]
   simp
  simp only [Op.eqItems, Sem.run_bind, hp, Result.andThen_ok, he, Bool.not_true, Bool.false_eq_true, if_false, ih]
theorem eq6 (a0 a1 a2 a3 a4 a5 : Int) (w : World) : (Op.equalIn 10000 24 (.agg #[.int .i64 a0, .int .i64 a1, .int .i64 a2, .int .i64 a3, .int .i64 a4, .int .i64 a5]) (.agg #[.int .i64 a0, .int .i64 a1, .int .i64 a2, .int .i64 a3, .int .i64 a4, .int .i64 a5])).run Tryz.prog w = .ok true w := by
 obtain ⟨i0, hi, hz0, hz1, hz2⟩ := info_parts Tryz.infoI
 have hc : Tryz.prog.cellsOf 3 = 1 := by kernel_rfl
 rw [show 10000 = 9999 + 1 from rfl, run_equalIn_array w 9999 _ _ Tryz.underlying24 hi, hc]
 refine eqItems_self _ w _ (fun i hm => ?_)
 have : i < 6 := by simpa using hm
 match i, this with
 | 0, _ => exact ⟨_, rfl⟩
 | 1, _ => exact ⟨_, rfl⟩
 | 2, _ => exact ⟨_, rfl⟩
 | 3, _ => exact ⟨_, rfl⟩
 | 4, _ => exact ⟨_, rfl⟩
 | 5, _ => exact ⟨_, rfl⟩
/-- Two boxes of programs. -/
structure P2 (W : World) (g1 g2 : Pg) (p : Pv) (w : World) : Prop where
 p1 : w.heap[W.heap.size]? = some (.cells (g1.cs p).toArray 27 (0, 0))
 p2 : w.heap[W.heap.size + 1]? = some (.cells (g2.cs p).toArray 27 (0, 0))
 k1 : g1.Ok p W.heap.size w
 k2 : g2.Ok p W.heap.size w
 bel : Below W.heap.size W w
theorem P2.next {W : World} {g1 g2 : Pg} {p : Pv} {w w' : World} (h : P2 W g1 g2 p w) (hb : Below w.heap.size w w') : P2 W g1 g2 p w' :=
 ⟨(hb.block _ (block_lt h.p1)).trans h.p1, (hb.block _ (block_lt h.p2)).trans h.p2, h.k1.kept hb h.bel.size, h.k2.kept hb h.bel.size, h.bel.trans (hb.mono h.bel.size)⟩
theorem p2_new {W W2 : World} {g1 g2 : Pg} {p : Pv} (h1 : g1.Ok p W.heap.size W) (h2 : g2.Ok p W.heap.size W) (hW : (W.alloc (.cells (g1.cs p).toArray 27)).alloc (.cells (g2.cs p).toArray 27) = W2) : P2 W g1 g2 p W2 := by
 have e1 : (W.alloc (.cells (g1.cs p).toArray 27)).heap.size = W.heap.size + 1 := by simp
 have B2 : Below W.heap.size W W2 := by rw [← hW]; exact (below_alloc1 W _).alloc (by simp) _
 refine ⟨?_, ?_, h1.kept B2 (Nat.le_refl _), h2.kept B2 (Nat.le_refl _), B2⟩
 ·rw [← hW]
  exact ((below_alloc1 _ _).block _ (by rw [e1]; omega)).trans (alloc_atK _ _)
 ·rw [← hW, ← e1]
  exact alloc_atK _ _
set_option maxRecDepth 10000 in
set_option maxHeartbeats 3200000 in
theorem sameT {W : World} {g1 g2 : Pg} {p : Pv} (h1 : g1.Ok p W.heap.size W) (h2 : g2.Ok p W.heap.size W) :
  Calls Tryz.prog 11 #[.agg (g1.cs p).toArray, .agg (g2.cs p).toArray] W fun e w' => e = .returned (.bool true) ∧ Hid (Below W.heap.size W w') := by
 obtain ⟨W2, hW2⟩ : ∃ W2, (W.alloc (.cells (g1.cs p).toArray 27)).alloc (.cells (g2.cs p).toArray 27) = W2 := ⟨_, rfl⟩
 have HS := hide (p2_new h1 h2 hW2)
 have HW2 := hide hW2
 have hlc := h1.lc
 have hls := h1.ls
 have hli := h1.li
 have HSI : Hid (Calls Tryz.prog 31 #[.slice g1.sa p.ns g1.sc, .slice g2.sa p.ns g2.sc] W2 fun e w' => e = .returned (.bool true) ∧ Hid (Below W2.heap.size W2 w')) :=
  sameIntsT p.S (fun e => ⟨(h1.hs e).1, Nat.lt_of_lt_of_le (h1.hs e).2 HS.out.bel.size⟩) (fun e => ⟨(h2.hs e).1, Nat.lt_of_lt_of_le (h2.hs e).2 HS.out.bel.size⟩) HS.out.k1.vs HS.out.k2.vs hls
 clear h1 h2 hW2
 have y0 := block_cell HS.out.p1 0
 have y1 := block_cell HS.out.p1 1
 have y2 := block_cell HS.out.p1 2
 have y3 := block_cell HS.out.p1 3
 have y4 := block_cell HS.out.p1 4
 have y5 := block_cell HS.out.p1 5
 have y6 := block_cell HS.out.p1 6
 have y7 := block_cell HS.out.p1 7
 have y8 := block_cell HS.out.p1 8
 have yl := block_lt HS.out.p1
 have x0 := block_cell HS.out.p2 0
 have x1 := block_cell HS.out.p2 1
 have x2 := block_cell HS.out.p2 2
 have x3 := block_cell HS.out.p2 3
 have x4 := block_cell HS.out.p2 4
 have x5 := block_cell HS.out.p2 5
 have x6 := block_cell HS.out.p2 6
 have x7 := block_cell HS.out.p2 7
 have x8 := block_cell HS.out.p2 8
 have xl := block_lt HS.out.p2
 simp [Pg.cs] at y0 y1 y2 y3 y4 y5 y6 y7 y8 x0 x1 x2 x3 x4 x5 x6 x7 x8
 simp only [Pg.cs] at HW2 ⊢
 have heq := eq6 (p.en 0) (p.en 1) (p.en 2) (p.en 3) (p.en 4) (p.en 5) W2
 go_enter Tryz.func11, Tryz.ntmps11
 go_upto_region 1 with fail
 rw [HW2.out]
 clear HW2
 go_wp2_with fail
 refine HSI.out.mono ?_
 rintro e w3 ⟨rfl, G3⟩
 have HS3 := hide (HS.out.next G3.out)
 have z0 := block_cell HS3.out.p1 0
 have z8 := block_cell HS3.out.p1 8
 have zl := block_lt HS3.out.p1
 have u0 := block_cell HS3.out.p2 0
 have u8 := block_cell HS3.out.p2 8
 have ul := block_lt HS3.out.p2
 simp [Pg.cs] at z0 z8 u0 u8
 clear y0 y1 y2 y3 y4 y5 y6 y7 y8 yl x0 x1 x2 x3 x4 x5 x6 x7 x8 xl HS G3 HSI
 go_upto_region 4 with fail
 clear z0 z8 zl u0 u8 ul
 go_loopw [5] (fun i wr => ∃ j : Nat, j ≤ p.nc ∧ i = .int .i64 (j : Nat) ∧ Hid (P2 W g1 g2 p wr)) (fun i _ => p.nc - (intOf i).toNat)
 case atStart => exact ⟨0, by omega, rfl, HS3.out⟩
 case round =>
  obtain ⟨j, hj, rfl, HS⟩ := hrel
  clear HS3
  have z0 := block_cell HS.out.p1 0
  have zl := block_lt HS.out.p1
  have x0 := block_cell HS.out.p2 0
  have xl := block_lt HS.out.p2
  simp [Pg.cs] at z0 x0
  by_cases hlt : j < p.nc
  ·obtain ⟨e1, l1⟩ := HS.out.k1.hc (by omega)
   obtain ⟨e2, l2⟩ := HS.out.k2.hc (by omega)
   have v1 := HS.out.k1.vc j hlt
   have v2 := HS.out.k2.vc j hlt
   have k1 : g1.cb < wr.heap.size := Nat.lt_of_lt_of_le l1 HS.out.bel.size
   have k2 : g2.cb < wr.heap.size := Nat.lt_of_lt_of_le l2 HS.out.bel.size
   have HD := hide (HS.out.next (Below.refl _ _).drew)
   rw [e1] at z0
   rw [e2] at x0
   clear e1 e2 l1 l2 HS
   go_upto_region 6 with fail
   go_region
   go_wp2
   go_roundw
   case rel => exact ⟨j + 1, by omega, by go_num, HD.out⟩
   case measure => simp [intOf]; omega
  ·obtain rfl : j = p.nc := by omega
   go_upto_region 9 with fail
   clear z0 zl x0 xl
   go_loopw [6] (fun i wr => ∃ j : Nat, j ≤ p.n ∧ i = .int .i64 (j : Nat) ∧ Hid (P2 W g1 g2 p wr)) (fun i _ => p.n - (intOf i).toNat)
   case atStart => exact ⟨0, by omega, rfl, HS.out⟩
   case round =>
    obtain ⟨j, hj, rfl, HS4⟩ := hrel
    clear HS
    have z8 := block_cell HS4.out.p1 8
    have zl := block_lt HS4.out.p1
    have x8 := block_cell HS4.out.p2 8
    have xl := block_lt HS4.out.p2
    simp [Pg.cs] at z8 x8
    by_cases hlt : j < p.n
    ·obtain ⟨e1, l1⟩ := HS4.out.k1.hi (by omega)
     obtain ⟨e2, l2⟩ := HS4.out.k2.hi (by omega)
     have v1 := HS4.out.k1.vo j hlt
     have v2 := HS4.out.k2.vo j hlt
     have v3 := HS4.out.k1.va j hlt
     have v4 := HS4.out.k2.va j hlt
     have k1 : g1.ib < wr.heap.size := Nat.lt_of_lt_of_le l1 HS4.out.bel.size
     have k2 : g2.ib < wr.heap.size := Nat.lt_of_lt_of_le l2 HS4.out.bel.size
     have HD := hide (HS4.out.next (Below.refl _ _).drew)
     rw [e1] at z8
     rw [e2] at x8
     clear e1 e2 l1 l2 HS4
     go_upto_region 11 with fail
     go_region
     go_wp2
     go_roundw
     case rel => exact ⟨j + 1, by omega, by go_num, HD.out⟩
     case measure => simp [intOf]; omega
    ·obtain rfl : j = p.n := by omega
     have HD := hide HS4.out.bel
     go_wp2
     go_ret
     exact ⟨rfl, HD⟩
end Go.Proofs.YtggpaljilpbmhaaGreatDoor
namespace Go.Proofs.YtggpaljilpbmhaaGreatDoor
open Go.RowKit

/-- The spare room of a lent program. -/
structure Sp (g : Pg) (p : Pv) (lim : Nat) (w : World) : Prop where
 ca : g.ca = some ⟨g.cb, g.co, none⟩
 cl : g.cb < lim
 cc : p.nc + 1 ≤ g.cc
 c : w.cell? ⟨g.cb, g.co + p.nc, none⟩ = some (.int .u64 71)
 sa : g.sa = some ⟨g.sb, g.so, none⟩
 sl : g.sb < lim
 sc : p.ns + 1 ≤ g.sc
 s : w.cell? ⟨g.sb, g.so + p.ns, none⟩ = some (.int .i64 72)
 ia : g.ia = some ⟨g.ib, g.io, none⟩
 il : g.ib < lim
 ic : p.n + 1 ≤ g.ic
 i0 : w.cell? ⟨g.ib, g.io + p.n * 2, none⟩ = some (.int .i64 73)
 i1 : w.cell? ⟨g.ib, g.io + p.n * 2 + 1, none⟩ = some (.int .i64 74)
theorem Sp.kept {g : Pg} {p : Pv} {lim k : Nat} {w w' : World} (h : Sp g p lim w) (hb : Below k w w') (hk : lim ≤ k) : Sp g p lim w' :=
 ⟨h.ca, h.cl, h.cc, (hb.cell (p := ⟨g.cb, _, none⟩) (Nat.lt_of_lt_of_le h.cl hk)).trans h.c, h.sa, h.sl, h.sc, (hb.cell (p := ⟨g.sb, _, none⟩) (Nat.lt_of_lt_of_le h.sl hk)).trans h.s, h.ia, h.il, h.ic, (hb.cell (p := ⟨g.ib, _, none⟩) (Nat.lt_of_lt_of_le h.il hk)).trans h.i0, (hb.cell (p := ⟨g.ib, _, none⟩) (Nat.lt_of_lt_of_le h.il hk)).trans h.i1⟩
theorem Sp.wide {g : Pg} {p : Pv} {lim lim' : Nat} {w : World} (h : Sp g p lim w) (hl : lim ≤ lim') : Sp g p lim' w :=
 ⟨h.ca, Nat.lt_of_lt_of_le h.cl hl, h.cc, h.c, h.sa, Nat.lt_of_lt_of_le h.sl hl, h.sc, h.s, h.ia, Nat.lt_of_lt_of_le h.il hl, h.ic, h.i0, h.i1⟩
set_option maxRecDepth 10000 in
set_option maxHeartbeats 3200000 in
theorem keptT {W : World} {g1 g2 : Pg} {p : Pv} (h1 : g1.Ok p W.heap.size W) (h2 : g2.Ok p W.heap.size W) (hs : Sp g1 p W.heap.size W) :
  Calls Tryz.prog 18 #[.agg (g1.cs p).toArray, .agg (g2.cs p).toArray] W fun e w' => e = .returned (.bool true) ∧ Hid (Below W.heap.size W w') := by
 obtain ⟨W2, hW2⟩ : ∃ W2, (W.alloc (.cells (g1.cs p).toArray 27)).alloc (.cells (g2.cs p).toArray 27) = W2 := ⟨_, rfl⟩
 have HS := hide (p2_new h1 h2 hW2)
 have HW2 := hide hW2
 have hlc := h1.lc
 have hls := h1.ls
 have hli := h1.li
 have HSM := hide (sameT (HS.out.k1.wide HS.out.bel.size) (HS.out.k2.wide HS.out.bel.size))
 have HSP := hide hs
 clear h1 h2 hW2 hs
 have y0 := block_cell HS.out.p1 0
 have y1 := block_cell HS.out.p1 1
 have y2 := block_cell HS.out.p1 2
 have y3 := block_cell HS.out.p1 3
 have y4 := block_cell HS.out.p1 4
 have y5 := block_cell HS.out.p1 5
 have y6 := block_cell HS.out.p1 6
 have y7 := block_cell HS.out.p1 7
 have y8 := block_cell HS.out.p1 8
 have yl := block_lt HS.out.p1
 have x0 := block_cell HS.out.p2 0
 have x1 := block_cell HS.out.p2 1
 have x2 := block_cell HS.out.p2 2
 have x3 := block_cell HS.out.p2 3
 have x4 := block_cell HS.out.p2 4
 have x5 := block_cell HS.out.p2 5
 have x6 := block_cell HS.out.p2 6
 have x7 := block_cell HS.out.p2 7
 have x8 := block_cell HS.out.p2 8
 have xl := block_lt HS.out.p2
 simp [Pg.cs] at y0 y1 y2 y3 y4 y5 y6 y7 y8 x0 x1 x2 x3 x4 x5 x6 x7 x8
 simp only [Pg.cs] at HW2 HSM ⊢
 go_enter Tryz.func18, Tryz.ntmps18
 go_upto_region 1 with fail
 rw [HW2.out]
 clear HW2
 go_wp2_with fail
 refine HSM.out.mono ?_
 rintro e w3 ⟨rfl, G3⟩
 have HS3 := hide (HS.out.next G3.out)
 have hsp := HSP.out.kept HS3.out.bel (Nat.le_refl _)
 have sz := HS3.out.bel.size
 have z0 := block_cell HS3.out.p1 0
 have z1 := block_cell HS3.out.p1 1
 have z8 := block_cell HS3.out.p1 8
 have zl := block_lt HS3.out.p1
 have u0 := block_cell HS3.out.p2 0
 have u1 := block_cell HS3.out.p2 1
 have u8 := block_cell HS3.out.p2 8
 have ul := block_lt HS3.out.p2
 simp [Pg.cs] at z0 z1 z8 u0 u1 u8
 rw [hsp.ca] at z0
 rw [hsp.sa] at z1
 rw [hsp.ia] at z8
 have k1 := hsp.cc
 have k2 := hsp.sc
 have k3 := hsp.ic
 have c1 := hsp.c
 have c2 := hsp.s
 have c3 := hsp.i0
 have c4 := hsp.i1
 have l1 : g1.cb < w3.heap.size := Nat.lt_of_lt_of_le hsp.cl sz
 have l2 : g1.sb < w3.heap.size := Nat.lt_of_lt_of_le hsp.sl sz
 have l3 : g1.ib < w3.heap.size := Nat.lt_of_lt_of_le hsp.il sz
 have HD := hide HS3.out.bel
 clear hsp HSP HSM y0 y1 y2 y3 y4 y5 y6 y7 y8 yl x0 x1 x2 x3 x4 x5 x6 x7 x8 xl HS G3 sz HS3
 go_wp2
 go_ret
 exact ⟨rfl, HD⟩
end Go.Proofs.YtggpaljilpbmhaaGreatDoor
namespace Go.Proofs.YtggpaljilpbmhaaGreatDoor
open Go.RowKit

theorem hand_ne {p : Pv} {k : Kn} {i d : Nat} {l : List Bool} {y : Int} (h : handF p k i d l = .error y) : y ≠ 0 := by
 unfold handF at h
 split at h
 ·cases h; decide
 ·split at h
  ·cases h; decide
  ·split at h
   ·cases h
   ·split at h
    ·cases h; decide
    ·cases h
theorem bind_ne {r : Except Int Kn} {f : Kn → Except Int Kn} {y : Int} (h : bindK r f = .error y) (h1 : ∀ z, r = .error z → z ≠ 0) (h2 : ∀ k z, f k = .error z → z ≠ 0) : y ≠ 0 := by
 cases r with
 | ok k => exact h2 k y h
 | error z => cases h; exact h1 y rfl
theorem vis_ne {p : Pv} {k : Kn} {i : Nat} {y : Int} (h : visitF p k i = .error y) : y ≠ 0 := by
 unfold visitF at h
 split at h
 ·cases h; decide
 ·split at h
  ·cases h; decide
  ·split at h
   ·cases h; decide
   ·split at h
    ·cases h
    ·split at h
     ·exact hand_ne h
     ·split at h
      ·exact bind_ne h (fun z e => hand_ne e) (fun k z e => hand_ne e)
      ·split at h
       ·exact bind_ne h (fun z e => hand_ne e) (fun k z e => hand_ne e)
       ·exact hand_ne h
theorem go_ne {p : Pv} {a y : Int} : ∀ {j : Nat}, goF p j = .error (a, y) → y ≠ 0
 | 0, h => by cases h
 | j + 1, h => by
  unfold goF at h
  split at h
  ·rename_i z e
   cases h
   exact go_ne e
  ·split at h
   ·split at h
    ·cases h
    ·rename_i z e
     cases h
     exact vis_ne e
   ·cases h
theorem ver_ne {p : Pv} {a y : Int} (h : verF p = .error (a, y)) : y ≠ 0 := by
 rw [verF_stat] at h
 cases e : statF p with
 | some z => rw [e] at h; cases h; exact stat_ne e
 | none => rw [e] at h; exact go_ne h
/-- The world of the law. -/
structure Lw (W : World) (g g' : Pg) (p : Pv) (lim cb : Nat) (w : World) : Prop where
 pb : w.heap[W.heap.size]? = some (.cells (g.cs p).toArray 27 (0, 0))
 cb : w.heap[cb]? = some (.cells (g'.cs p).toArray 27 (0, 0))
 k1 : g.Ok p W.heap.size w
 k2 : g'.Ok p lim w
 sp : Sp g' p lim w
 tab : Tab w
 le : lim ≤ w.heap.size
 le2 : W.heap.size ≤ w.heap.size
 bel : Below W.heap.size W w
theorem Lw.next {W : World} {g g' : Pg} {p : Pv} {lim cb : Nat} {w w' : World} (h : Lw W g g' p lim cb w) (hb : Below w.heap.size w w') : Lw W g g' p lim cb w' :=
 ⟨(hb.block _ (block_lt h.pb)).trans h.pb, (hb.block _ (block_lt h.cb)).trans h.cb, h.k1.kept hb h.le2, h.k2.kept hb h.le, h.sp.kept hb h.le, h.tab.below hb h.tab.z, Nat.le_trans h.le hb.size, Nat.le_trans h.le2 hb.size, h.bel.trans (hb.mono h.le2)⟩
theorem Lw.cells {W : World} {g g' : Pg} {p : Pv} {lim cb : Nat} {w : World} (h : Lw W g g' p lim cb w) : (w.cell? ⟨W.heap.size, 0, none⟩ = some (.slice g.ca p.nc g.cc) ∧ w.cell? ⟨W.heap.size, 1, none⟩ = some (.slice g.sa p.ns g.sc) ∧ w.cell? ⟨W.heap.size, 2, none⟩ = some (.int .i64 (p.en 0)) ∧ w.cell? ⟨W.heap.size, 3, none⟩ = some (.int .i64 (p.en 1)) ∧ w.cell? ⟨W.heap.size, 4, none⟩ = some (.int .i64 (p.en 2)) ∧ w.cell? ⟨W.heap.size, 5, none⟩ = some (.int .i64 (p.en 3)) ∧ w.cell? ⟨W.heap.size, 6, none⟩ = some (.int .i64 (p.en 4)) ∧ w.cell? ⟨W.heap.size, 7, none⟩ = some (.int .i64 (p.en 5)) ∧ w.cell? ⟨W.heap.size, 8, none⟩ = some (.slice g.ia p.n g.ic) ∧ W.heap.size < w.heap.size) ∧
  (w.cell? ⟨cb, 0, none⟩ = some (.slice g'.ca p.nc g'.cc) ∧ w.cell? ⟨cb, 1, none⟩ = some (.slice g'.sa p.ns g'.sc) ∧ w.cell? ⟨cb, 2, none⟩ = some (.int .i64 (p.en 0)) ∧ w.cell? ⟨cb, 3, none⟩ = some (.int .i64 (p.en 1)) ∧ w.cell? ⟨cb, 4, none⟩ = some (.int .i64 (p.en 2)) ∧ w.cell? ⟨cb, 5, none⟩ = some (.int .i64 (p.en 3)) ∧ w.cell? ⟨cb, 6, none⟩ = some (.int .i64 (p.en 4)) ∧ w.cell? ⟨cb, 7, none⟩ = some (.int .i64 (p.en 5)) ∧ w.cell? ⟨cb, 8, none⟩ = some (.slice g'.ia p.n g'.ic) ∧ cb < w.heap.size) :=
 ⟨⟨block_cell h.pb 0, block_cell h.pb 1, block_cell h.pb 2, block_cell h.pb 3, block_cell h.pb 4, block_cell h.pb 5, block_cell h.pb 6, block_cell h.pb 7, block_cell h.pb 8, block_lt h.pb⟩, ⟨block_cell h.cb 0, block_cell h.cb 1, block_cell h.cb 2, block_cell h.cb 3, block_cell h.cb 4, block_cell h.cb 5, block_cell h.cb 6, block_cell h.cb 7, block_cell h.cb 8, block_lt h.cb⟩⟩
/-- What an error of the program and a fault of the reference have in common. -/
def Er (w : World) (v f : Value) : Prop := (v = .nilIface ∧ f = .agg #[.slice none 0 0, .int .i64 0]) ∨ ∃ a y ao cap b off, f = .agg #[.slice ao 1 cap, .int .i64 y] ∧ y ≠ 0 ∧ Ft w.heap.size w v a y ∧ FV w.heap.size w ao [⟨⟨#[99, 111, 100, 101]⟩, a⟩] b off
theorem Er.next {w w' : World} {v f : Value} (h : Er w v f) (hb : Below w.heap.size w w') : Er w' v f := by
 rcases h with ⟨rfl, rfl⟩ | ⟨a, y, ao, cap, b, off, rfl, hy, h1, h2⟩
 ·exact .inl ⟨rfl, rfl⟩
 ·exact .inr ⟨a, y, ao, cap, b, off, rfl, hy, h1.kept hb, h2.next hb⟩
end Go.Proofs.YtggpaljilpbmhaaGreatDoor
namespace Go.Proofs.YtggpaljilpbmhaaGreatDoor
open Go.RowKit

/-- What lend hands out. -/
def Ln (W : World) (p : Pv) (e : Ending) (w' : World) : Prop := ∃ g' : Pg, e = .returned (.agg (g'.cs p).toArray) ∧ Hid (g'.Ok p w'.heap.size w' ∧ Sp g' p w'.heap.size w' ∧ Below W.heap.size W w')
end Go.Proofs.YtggpaljilpbmhaaGreatDoor
namespace Go.Proofs.YtggpaljilpbmhaaGreatDoor
open Go.RowKit

/-- Numbers as they lie in a row. -/
def nums (k : IntKind) (f : Nat → Int) (n : Nat) : List Value := (List.range n).map (fun j => Value.int k (f j))
theorem nums_next (k : IntKind) (f : Nat → Int) (n : Nat) : nums k f (n + 1) = nums k f n ++ [.int k (f n)] := by
 simp [nums, List.range_succ]
end Go.Proofs.YtggpaljilpbmhaaGreatDoor
