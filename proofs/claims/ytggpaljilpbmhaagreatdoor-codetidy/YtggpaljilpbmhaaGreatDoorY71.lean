import Derived.Test.YtggpaljilpbmhaaGreatDoorY22
namespace Go.Proofs.YtggpaljilpbmhaaGreatDoor
open Go.RowKit

/-- Where a row that is owned lies. -/
theorem own_place {w : World} {B n sz cap b off : Nat} {t : TypeId} {ao : Option Addr} {xs : List Value} (h : w.ownsRow B t sz (.slice ao n cap) n xs) (ha : ao = some ⟨b, off, none⟩) : off = 0 ∧ b < w.heap.size ∧ ∀ j, j < n * sz → w.cell? ⟨b, off + j, none⟩ = xs[j]? := by
 subst ha
 rcases h.2 with ⟨e, _⟩ | ⟨gb, cp, cur, e, _⟩
 ·cases e
 ·cases e
  refine ⟨rfl, (h.lt b rfl).2, fun j hj => ?_⟩
  rw [Nat.zero_add]
  exact h.cellAt j hj
theorem Po.remake {B : Nat} {g : Pg} {p p' : Pv} {w w' : World} (h : Po B g p w) (e1 : p'.nc = p.nc) (e2 : p'.ns = p.ns) (e3 : p'.n = p.n) (hc : w'.ownsRow B 28 1 (.slice g.ca p'.nc g.cc) p'.nc (nums .u64 p'.C p'.nc)) (hs : w'.ownsRow B 3 1 (.slice g.sa p'.ns g.sc) p'.ns (nums .i64 p'.S p'.ns)) (hi : Irow w' B (.slice g.ia p'.n g.ic) p'.n p'.op p'.arg) : Po B g p' w' := by
 have kc : 0 < p'.nc → g.ca = some ⟨g.cb, g.co, none⟩ := fun e => (h.ok.hc (by omega)).1
 have ks : 0 < p'.ns → g.sa = some ⟨g.sb, g.so, none⟩ := fun e => (h.ok.hs (by omega)).1
 have ki : 0 < p'.n → g.ia = some ⟨g.ib, g.io, none⟩ := fun e => (h.ok.hi (by omega)).1
 refine ⟨hc, hs, hi, fun e => ⟨kc e, (own_place hc (kc e)).2.1⟩, fun e => ⟨ks e, (own_place hs (ks e)).2.1⟩, fun e => ⟨ki e, (own_place hi (ki e)).2.1⟩, fun j hj => ?_, fun j hj => ?_, fun j hj => ?_, fun j hj => ?_, by rw [e1]; exact h.ok.lc, by rw [e2]; exact h.ok.ls, by rw [e3]; exact h.ok.li⟩
 ·rw [(own_place hc (kc (by omega))).2.2 j (by omega)]
  simp [nums, hj]
 ·rw [(own_place hs (ks (by omega))).2.2 j (by omega)]
  simp [nums, hj]
 ·rw [(own_place hi (ki (by omega))).2.2 (j * 2) (by omega)]
  exact nums2_o hj
 ·have := (own_place hi (ki (by omega))).2.2 (j * 2 + 1) (by omega)
  rw [← Nat.add_assoc] at this
  rw [this]
  exact nums2_a hj
theorem Po.low {B B' : Nat} {g : Pg} {p : Pv} {w : World} (h : Po B' g p w) (hb : B ≤ B') : Po B g p w := ⟨own_low h.c hb, own_low h.s hb, own_low h.i hb, h.ok⟩
theorem Po.next {B : Nat} {g : Pg} {p : Pv} {w w' : World} (h : Po B g p w) (hb : Below w.heap.size w w') : Po B g p w' := h.remake rfl rfl rfl (own_keep h.c hb) (own_keep h.s hb) (own_keep h.i hb)
/-- A store elsewhere. -/
theorem Po.off {B : Nat} {g : Pg} {p : Pv} {w w' : World} (h : Po B g p w) {q : Nat} {cs : Array Value} {t : TypeId} {z : Nat × Nat} (hq : w.heap[q]? = some (.cells cs t z)) (h1 : t ≠ 28) (h2 : t ≠ 3) (h3 : t ≠ 42) (hg : w.grownBy w' (some q)) : Po B g p w' :=
 h.remake rfl rfl rfl (own_offT h.c hq h1 hg) (own_offT h.s hq h2 hg) (own_offT h.i hq h3 hg)
/-- What reached answers. -/
def Rc (W : World) (p : Pv) (r : Except (Int × Int) Kn) (e : Ending) (w' : World) : Prop := match r with
 | .ok k => ∃ g', e = .returned (.tuple #[.agg (g'.cs (cutF p (kOf k))).toArray, .nilIface]) ∧ Hid (Po W.heap.size g' (cutF p (kOf k)) w' ∧ Below W.heap.size W w')
 | .error (a, y) => ∃ g, e = .returned (.tuple #[.agg zP, .iface 74 (.pointer (some ⟨g, 0, none⟩))]) ∧ Hid (Ft w'.heap.size w' (.iface 74 (.pointer (some ⟨g, 0, none⟩))) a y ∧ Below W.heap.size W w')
theorem two_new {W W2 : World} {cs : Array Value} (hW : (W.alloc (.cells cs 27)).alloc (.cells zP 27) = W2) : W2.heap[W.heap.size]? = some (.cells cs 27 (0, 0)) ∧ W2.heap[W.heap.size + 1]? = some (.cells zP 27 (0, 0)) ∧ Below W.heap.size W W2 := by
 have e1 : (W.alloc (.cells cs 27)).heap.size = W.heap.size + 1 := by simp
 refine ⟨?_, ?_, ?_⟩
 ·rw [← hW]
  exact ((below_alloc1 _ _).block _ (by rw [e1]; omega)).trans (alloc_atK _ _)
 ·rw [← hW, ← e1]
  exact alloc_atK _ _
 ·rw [← hW]
  exact (below_alloc1 W _).alloc (by simp) _
/-- A fault stays where a program is stored. -/
theorem ft_off {w w' : World} {v : Value} {a y : Int} {q : Nat} {cs : Array Value} {t : TypeId} (h : Ft w.heap.size w v a y) (hq : w.heap[q]? = some (.cells cs t (0, 0))) (hcs : ∀ x, cs[0]? ≠ some (.string x)) (hg : w.grownBy w' (some q)) : Ft w'.heap.size w' v a y := by
 obtain ⟨gb, u, h1, h2, h3, h4, h5, h6⟩ := h
 have hne : gb ≠ q := by
  rintro rfl
  rw [block_cell hq 0] at h3
  exact hcs _ h3
 have hb : w'.heap[gb]? = w.heap[gb]? := hg.block gb h2 (by simpa using hne)
 have hc : ∀ i, w'.cell? ⟨gb, i, none⟩ = w.cell? ⟨gb, i, none⟩ := fun i => World.cell?_of_block hb
 exact ⟨gb, u, h1, Nat.lt_of_lt_of_le h2 hg.size, (hc 0).trans h3, (hc 1).trans h4, (hc 2).trans h5, h6⟩
set_option maxRecDepth 10000 in
set_option maxHeartbeats 6400000 in
theorem reachedC {W : World} {g : Pg} {p : Pv} (h : g.Ok p W.heap.size W) (hT : Tab W) :
  Calls Tryz.prog 23 #[.agg (g.cs p).toArray] W (Rc W p (verF p)) := by
 have hmf : ∀ (fn : Fn) (first cap : Array Value) (w : World), (Instr.makeFunc fn first cap).run Tryz.prog w = .ok (.func fn first cap) w := fun _ _ _ _ => rfl
 obtain ⟨W2, hW2⟩ : ∃ W2, (W.alloc (.cells (g.cs p).toArray 27)).alloc (.cells zP 27) = W2 := ⟨_, rfl⟩
 obtain ⟨p2, r2, B2⟩ := two_new hW2
 have HWK := hide (walkedC ((h.kept B2 (Nat.le_refl _)).wide B2.size) (hT.below B2 hT.z))
 have y0 := block_cell p2 0
 have y1 := block_cell p2 1
 have y2 := block_cell p2 2
 have y3 := block_cell p2 3
 have y4 := block_cell p2 4
 have y5 := block_cell p2 5
 have y6 := block_cell p2 6
 have y7 := block_cell p2 7
 have y8 := block_cell p2 8
 have yl := block_lt p2
 simp [Pg.cs] at y0 y1 y2 y3 y4 y5 y6 y7 y8
 have HP2 := hide p2
 have HR2 := hide r2
 have HB2 := hide B2
 have HOK := hide h
 have HTB := hide hT
 have HW2 := hide hW2
 obtain ⟨r, hr⟩ : ∃ r, verF p = r := ⟨_, rfl⟩
 have HVR := hide hr
 rw [hr] at HWK ⊢
 have HCS : Hid (g.cs p = [.slice g.ca p.nc g.cc, .slice g.sa p.ns g.sc, .int .i64 (p.en 0), .int .i64 (p.en 1), .int .i64 (p.en 2), .int .i64 (p.en 3), .int .i64 (p.en 4), .int .i64 (p.en 5), .slice g.ia p.n g.ic]) := rfl
 have HZ : Hid (zP = #[.slice none 0 0, .slice none 0 0, .int .i64 0, .int .i64 0, .int .i64 0, .int .i64 0, .int .i64 0, .int .i64 0, .slice none 0 0]) := rfl
 rw [HCS.out, HZ.out] at HW2
 rw [HCS.out] at HWK ⊢
 clear h hT hW2 p2 r2 B2 hr
 go_enter Tryz.func23, Tryz.ntmps23
 go_upto_region 1 with fail
 rw [HW2.out]
 clear HW2
 go_wp2_with fail
 refine HWK.out.mono ?_
 intro e w3 hh
 cases r with
 | error z =>
  obtain ⟨a, y⟩ := z
  obtain ⟨gf, rfl, G⟩ := hh
  obtain ⟨w4, hw4⟩ : ∃ w4, w3.alloc (.cells #[.slice none 0 0] 70) = w4 := ⟨_, rfl⟩
  have B4 : Below w3.heap.size w3 w4 := by rw [← hw4]; exact below_alloc1 _ _
  have b34 := G.out.2.trans (B4.mono G.out.2.size)
  have r4 : w4.heap[W.heap.size + 1]? = some (.cells zP 27 (0, 0)) := (b34.block _ (block_lt HR2.out)).trans HR2.out
  have s9 : ∀ wf, set9 w4 (W.heap.size + 1) (.slice none 0 0) (.slice none 0 0) (.int .i64 0) (.int .i64 0) (.int .i64 0) (.int .i64 0) (.int .i64 0) (.int .i64 0) (.slice none 0 0) = wf → wf.heap[W.heap.size + 1]? = some (.cells zP 27 (0, 0)) ∧ Ft wf.heap.size wf (.iface 74 (.pointer (some ⟨gf, 0, none⟩))) a y ∧ Below W.heap.size W wf := fun wf hwf => by
   obtain ⟨q1, q2⟩ := set9_blk r4 rfl (.slice none 0 0) (.slice none 0 0) (.int .i64 0) (.int .i64 0) (.int .i64 0) (.int .i64 0) (.int .i64 0) (.int .i64 0) (.slice none 0 0)
   rw [hwf] at q1 q2
   have bb := HB2.out.trans (b34.mono HB2.out.size)
   exact ⟨q1, ft_off (G.out.1.kept B4) r4 (fun x => by simp [zP]) q2, bb.trans ((Below.refl _ w4).grown q2 bb.size (fun x hx => by cases hx; omega))⟩
  have HS9 := hide s9
  have t0 := block_cell r4 0
  have t1 := block_cell r4 1
  have t2 := block_cell r4 2
  have t3 := block_cell r4 3
  have t4 := block_cell r4 4
  have t5 := block_cell r4 5
  have t6 := block_cell r4 6
  have t7 := block_cell r4 7
  have t8 := block_cell r4 8
  have f0 := block_free r4 0
  have f1 := block_free r4 1
  have f2 := block_free r4 2
  have f3 := block_free r4 3
  have f4 := block_free r4 4
  have f5 := block_free r4 5
  have f6 := block_free r4 6
  have f7 := block_free r4 7
  have f8 := block_free r4 8
  have tl := block_lt r4
  simp [zP] at t0 t1 t2 t3 t4 t5 t6 t7 t8
  have HW4 := hide hw4
  clear hw4 G b34 B4 r4 s9 HWK y0 y1 y2 y3 y4 y5 y6 y7 y8 yl
  go_upto_region 2 with fail
  rw [HW4.out]
  clear HW4
  go_wp2
  generalize hwf : World.setCell _ ⟨W.heap.size + 1, 8, none⟩ _ = wf
  obtain ⟨hblk, hft, hbel⟩ := HS9.out wf hwf
  have c0 := block_cell hblk 0
  have c1 := block_cell hblk 1
  have c2 := block_cell hblk 2
  have c3 := block_cell hblk 3
  have c4 := block_cell hblk 4
  have c5 := block_cell hblk 5
  have c6 := block_cell hblk 6
  have c7 := block_cell hblk 7
  have c8 := block_cell hblk 8
  simp [zP] at c0 c1 c2 c3 c4 c5 c6 c7 c8
  have HE : Hid (Ft wf.heap.size wf (.iface 74 (.pointer (some ⟨gf, 0, none⟩))) a y ∧ Below W.heap.size W wf) := ⟨hft, hbel⟩
  refine bodyPost_ret (v := .tuple #[.agg #[.slice none 0 0, .slice none 0 0, .int .i64 0, .int .i64 0, .int .i64 0, .int .i64 0, .int .i64 0, .int .i64 0, .slice none 0 0], .iface 74 (.pointer (some ⟨gf, 0, none⟩))]) (by simp [results, Tryz.results23, go_sem, c0, c1, c2, c3, c4, c5, c6, c7, c8]) rfl ?_
  exact ⟨gf, rfl, HE⟩
 | ok k =>
  obtain ⟨hb, rfl, G⟩ := hh
  obtain ⟨w4, hw4⟩ : ∃ w4, w3.alloc (.cells #[.slice (some ⟨hb, 0, none⟩) p.n p.n] 70) = w4 := ⟨_, rfl⟩
  have B4 : Below w3.heap.size w3 w4 := by rw [← hw4]; exact below_alloc1 _ _
  have A4 : w4.heap[w3.heap.size]? = some (.cells #[.slice (some ⟨hb, 0, none⟩) p.n p.n] 70 (0, 0)) := by rw [← hw4]; exact alloc_atK _ _
  have b34 := G.out.2.trans (B4.mono G.out.2.size)
  have bW4 := HB2.out.trans (b34.mono HB2.out.size)
  have p4 : w4.heap[W.heap.size]? = some (.cells (g.cs p).toArray 27 (0, 0)) := (b34.block _ (block_lt HP2.out)).trans HP2.out
  have r4 : w4.heap[W.heap.size + 1]? = some (.cells zP 27 (0, 0)) := (b34.block _ (block_lt HR2.out)).trans HR2.out
  have hw : Wf p := ver_wf HVR.out
  obtain ⟨cs, q1, q2⟩ := G.out.1
  have q4 : w4.heap[hb]? = some (.cells cs 78 (0, 0)) := (B4.block _ (block_lt q1)).trans q1
  have HFC := hide (filtC (W := w4) (g := g) (p := p) ((HOK.out.kept bW4 (Nat.le_refl _)).wide bW4.size) (HTB.out.below bW4 HTB.out.z) hw 55 (.pointer (some ⟨w3.heap.size, 0, none⟩)) (kOf k) (fun a w => by kernel_rfl) (fun i w hi hbl => knownC (hb := hb) (n := p.n) (k := k) ((hbl.cell (p := ⟨w3.heap.size, 0, none⟩) (block_lt A4)).trans (block_cell A4 0)) ⟨cs, (hbl.block _ (block_lt q4)).trans q4, q2⟩ i hi))
  have z0 := block_cell p4 0
  have z1 := block_cell p4 1
  have z2 := block_cell p4 2
  have z3 := block_cell p4 3
  have z4 := block_cell p4 4
  have z5 := block_cell p4 5
  have z6 := block_cell p4 6
  have z7 := block_cell p4 7
  have z8 := block_cell p4 8
  have zl := block_lt p4
  simp [Pg.cs] at z0 z1 z2 z3 z4 z5 z6 z7 z8
  have HR4 := hide r4
  have HBW := hide bW4
  have HW4 := hide hw4
  rw [HCS.out] at HFC
  clear hw4 G b34 B4 r4 p4 HWK y0 y1 y2 y3 y4 y5 y6 y7 y8 yl A4 bW4 q1 q2 q4 hw
  go_upto_region 2 with fail
  rw [HW4.out]
  clear HW4
  go_wp2_with fail
  refine HFC.out.mono ?_
  rintro e w5 ⟨g', rfl, G5⟩
  have r5 : w5.heap[W.heap.size + 1]? = some (.cells zP 27 (0, 0)) := (G5.out.2.block _ (block_lt HR4.out)).trans HR4.out
  have HS9 : Hid (∀ wf, set9 w5 (W.heap.size + 1) (.slice g'.ca (cutF p (kOf k)).nc g'.cc) (.slice g'.sa (cutF p (kOf k)).ns g'.sc) (.int .i64 ((cutF p (kOf k)).en 0)) (.int .i64 ((cutF p (kOf k)).en 1)) (.int .i64 ((cutF p (kOf k)).en 2)) (.int .i64 ((cutF p (kOf k)).en 3)) (.int .i64 ((cutF p (kOf k)).en 4)) (.int .i64 ((cutF p (kOf k)).en 5)) (.slice g'.ia (cutF p (kOf k)).n g'.ic) = wf → wf.heap[W.heap.size + 1]? = some (.cells (g'.cs (cutF p (kOf k))).toArray 27 (0, 0)) ∧ Po W.heap.size g' (cutF p (kOf k)) wf ∧ Below W.heap.size W wf) := fun wf hwf => by
   obtain ⟨q1, q2⟩ := set9_blk r5 rfl (.slice g'.ca (cutF p (kOf k)).nc g'.cc) (.slice g'.sa (cutF p (kOf k)).ns g'.sc) (.int .i64 ((cutF p (kOf k)).en 0)) (.int .i64 ((cutF p (kOf k)).en 1)) (.int .i64 ((cutF p (kOf k)).en 2)) (.int .i64 ((cutF p (kOf k)).en 3)) (.int .i64 ((cutF p (kOf k)).en 4)) (.int .i64 ((cutF p (kOf k)).en 5)) (.slice g'.ia (cutF p (kOf k)).n g'.ic)
   rw [hwf] at q1 q2
   have bb := HBW.out.trans (G5.out.2.mono HBW.out.size)
   exact ⟨q1, (G5.out.1.low HBW.out.size).off r5 (by decide) (by decide) (by decide) q2, bb.trans ((Below.refl _ w5).grown q2 bb.size (fun x hx => by cases hx; omega))⟩
  have t0 := block_cell r5 0
  have t1 := block_cell r5 1
  have t2 := block_cell r5 2
  have t3 := block_cell r5 3
  have t4 := block_cell r5 4
  have t5 := block_cell r5 5
  have t6 := block_cell r5 6
  have t7 := block_cell r5 7
  have t8 := block_cell r5 8
  have f0 := block_free r5 0
  have f1 := block_free r5 1
  have f2 := block_free r5 2
  have f3 := block_free r5 3
  have f4 := block_free r5 4
  have f5 := block_free r5 5
  have f6 := block_free r5 6
  have f7 := block_free r5 7
  have f8 := block_free r5 8
  have tl := block_lt r5
  simp [zP] at t0 t1 t2 t3 t4 t5 t6 t7 t8
  have HCG : Hid (g'.cs (cutF p (kOf k)) = [.slice g'.ca (cutF p (kOf k)).nc g'.cc, .slice g'.sa (cutF p (kOf k)).ns g'.sc, .int .i64 ((cutF p (kOf k)).en 0), .int .i64 ((cutF p (kOf k)).en 1), .int .i64 ((cutF p (kOf k)).en 2), .int .i64 ((cutF p (kOf k)).en 3), .int .i64 ((cutF p (kOf k)).en 4), .int .i64 ((cutF p (kOf k)).en 5), .slice g'.ia (cutF p (kOf k)).n g'.ic]) := rfl
  rw [HCG.out]
  clear HFC G5 r5 z0 z1 z2 z3 z4 z5 z6 z7 z8 zl HR4 HBW
  go_wp2
  generalize hwf : World.setCell _ ⟨W.heap.size + 1, 8, none⟩ _ = wf
  obtain ⟨hblk, hpo, hbel⟩ := HS9.out wf hwf
  have c0 := block_cell hblk 0
  have c1 := block_cell hblk 1
  have c2 := block_cell hblk 2
  have c3 := block_cell hblk 3
  have c4 := block_cell hblk 4
  have c5 := block_cell hblk 5
  have c6 := block_cell hblk 6
  have c7 := block_cell hblk 7
  have c8 := block_cell hblk 8
  simp [Pg.cs] at c0 c1 c2 c3 c4 c5 c6 c7 c8
  have HE : Hid (Po W.heap.size g' (cutF p (kOf k)) wf ∧ Below W.heap.size W wf) := ⟨hpo, hbel⟩
  refine bodyPost_ret (v := .tuple #[.agg #[.slice g'.ca (cutF p (kOf k)).nc g'.cc, .slice g'.sa (cutF p (kOf k)).ns g'.sc, .int .i64 ((cutF p (kOf k)).en 0), .int .i64 ((cutF p (kOf k)).en 1), .int .i64 ((cutF p (kOf k)).en 2), .int .i64 ((cutF p (kOf k)).en 3), .int .i64 ((cutF p (kOf k)).en 4), .int .i64 ((cutF p (kOf k)).en 5), .slice g'.ia (cutF p (kOf k)).n g'.ic], .nilIface]) (by simp [results, Tryz.results23, go_sem, c0, c1, c2, c3, c4, c5, c6, c7, c8]) rfl ?_
  exact ⟨g', rfl, HE⟩
end Go.Proofs.YtggpaljilpbmhaaGreatDoor
namespace Go.Proofs.YtggpaljilpbmhaaGreatDoor
open Go.RowKit

/-- The ways while they are shortened: those ahead of j are, that of j stands at c. -/
def argS (p : Pv) (j : Nat) (c : Int) (x : Nat) : Int := if x < j then (shortF p).arg x else if x = j then c else p.arg x
/-- How far a chain of jumps may still go. -/
def mesS (p : Pv) (gb j : Nat) (w : World) : Nat := match w.cell? ⟨gb, j * 2 + 1, none⟩ with
 | some (.int _ c) => if p.op c.toNat = 25 then p.n - c.toNat + 1 else 0
 | _ => 0
/-- The row while its ways are shortened. -/
structure Sw (W : World) (B : Nat) (p : Pv) (gb cap : Nat) (a : Nat → Int) (w : World) : Prop where
 row : Irow w B (.slice (some ⟨gb, 0, none⟩) p.n cap) p.n p.op a
 tab : Tab w
 bel : Below B W w
 gr : W.grownBy w (some gb)
theorem Sw.set {W : World} {B : Nat} {p : Pv} {gb cap : Nat} {a a' : Nat → Int} {w : World} {j : Nat} {x : Int} (h : Sw W B p gb cap a w) (hj : j < p.n) (hz : 10 < B) (ha : ∀ y, y < p.n → (if y = j then x else a y) = a' y) : Sw W B p gb cap a' (w.setCell ⟨gb, j * 2 + 1, none⟩ (.int .i64 x)) := by
 have hg := grown_setT w gb (j * 2 + 1) (.int .i64 x)
 have hb : Below B w (w.setCell ⟨gb, j * 2 + 1, none⟩ (.int .i64 x)) := (Below.refl _ w).setCell (p := ⟨gb, j * 2 + 1, none⟩) (World.ownsRow.lt h.row gb rfl).1 _
 exact ⟨irow_congr (irow_set h.row hj) (fun _ _ => rfl) ha, h.tab.below hb hz, h.bel.trans hb, grown_tr h.gr hg⟩
theorem Sw.congr {W : World} {B : Nat} {p : Pv} {gb cap : Nat} {a a' : Nat → Int} {w : World} (h : Sw W B p gb cap a w) (ha : ∀ y, y < p.n → a y = a' y) : Sw W B p gb cap a' w := ⟨irow_congr h.row (fun _ _ => rfl) ha, h.tab, h.bel, h.gr⟩
theorem Sw.cells {W : World} {B : Nat} {p : Pv} {gb cap : Nat} {a : Nat → Int} {w : World} (h : Sw W B p gb cap a w) : p.n ≤ cap ∧ (∀ j, j < p.n → w.cell? ⟨gb, j * 2, none⟩ = some (.int .i64 (p.op j)) ∧ w.cell? ⟨gb, j * 2 + 1, none⟩ = some (.int .i64 (a j)) ∧ w.frozen? ⟨gb, j * 2 + 1, none⟩ = false) ∧ (0 < p.n → gb < w.heap.size) := by
 obtain ⟨_, _, e, h1, h2⟩ := irow_val h.row
 cases e
 refine ⟨h1, fun j hj => ?_, fun hn => ?_⟩
 ·obtain ⟨_, e, _, _, h3⟩ := h2 (by omega)
  cases e
  exact h3 j hj
 ·obtain ⟨_, e, _, h3, _⟩ := h2 hn
  cases e
  exact h3
/-- Where the way of j stands. -/
def IvS (p : Pv) (j : Nat) (wy : Bool) (c : Int) : Prop := (wy = false → c = p.arg j) ∧ (wy = true → ∃ t : Nat, c = t ∧ t < p.n ∧ finF p p.n t = finF p p.n (p.arg j).toNat ∧ (p.op t = 25 → j < t))
set_option maxRecDepth 10000 in
set_option maxHeartbeats 6400000 in
theorem shortC {W : World} {B : Nat} {p : Pv} {k : Kn} {gb cap : Nat} (hw : Wf p) (hf : Flow p k) (hall : ∀ i, i < p.n → (k i).isSome = true) (hT : Tab W) (hz : 10 < B) (h : Irow W B (.slice (some ⟨gb, 0, none⟩) p.n cap) p.n p.op p.arg) :
  Calls Tryz.prog 24 #[.slice (some ⟨gb, 0, none⟩) p.n cap] W fun e w' => e = .returned (.tuple #[]) ∧ Hid (Sw W B p gb cap (shortF p).arg w') := by
 have hn := hw.sz.2.2
 have H0 : Hid (Sw W B p gb cap (argS p 0 (p.arg 0)) W) := ⟨irow_congr h (fun _ _ => rfl) (fun y _ => by unfold argS; rw [if_neg (by omega)]; split; rename_i q; rw [q]; rfl), hT, Below.refl _ _, ⟨rfl, rfl, rfl, Nat.le_refl _, fun _ _ _ => rfl⟩⟩
 have HW := hide hw
 have HF := hide hf
 have HA := hide hall
 have HZ := hide hz
 have hcap := H0.out.cells.1
 clear hw hf hall hT hz h
 go_enter Tryz.func24, Tryz.ntmps24
 go_wp2
 go_loopw [5] (fun i wr => ∃ j : Nat, j ≤ p.n ∧ i = .int .i64 (j : Nat) ∧ Hid (Sw W B p gb cap (argS p j (p.arg j)) wr)) (fun i _ => p.n - (intOf i).toNat)
 case atStart => exact ⟨0, by omega, rfl, H0.out⟩
 case round =>
  obtain ⟨j, hj, rfl, HJ⟩ := hrel
  clear H0
  by_cases hlt : j < p.n
  ·have hii := HW.out.ins j hlt
   have hop := op_nat hii
   obtain ⟨o, ho⟩ : ∃ o : Nat, p.op j = o := ⟨_, hop.2.2⟩
   have ho2 : o ≤ 32 := by omega
   obtain ⟨wo, hwo⟩ : ∃ wo, wo = wr := ⟨_, rfl⟩
   rw [← hwo] at HJ ⊢
   clear hwo
   obtain ⟨wy, hwy⟩ : ∃ wy, wayP ((o : Nat) : Int) = wy := ⟨_, rfl⟩
   have HWY := hide hwy
   have HOO := hide ho
   have HIN := hide hii
   clear hop
   have HIV : Hid (IvS p j wy (p.arg j)) := by
    refine ⟨fun e => rfl, fun e => ?_⟩
    have hwp : wayP (p.op j) = true := by rw [ho, hwy]; exact e
    have hpl := isPl_nat (hii.way hwp)
    obtain ⟨l, hl⟩ := Option.isSome_iff_exists.1 (HA.out j hlt)
    obtain ⟨l', hm⟩ := mem_way (l := l) hwp
    have g := (HF.out.fl j l hlt hl).2 _ hm
    refine ⟨(p.arg j).toNat, hpl.1, hpl.2, rfl, fun e25 => ?_⟩
    rcases Nat.lt_or_ge j (p.arg j).toNat with q | q
    ·exact q
    ·have := g.2.1 q
     simp only at this
     rw [e25] at this
     exact absurd this (by decide)
   clear hwy ho hii
   go_upto_block 2 with fail
   go_wp2
   go_loopw [] (fun wr => ∃ c : Int, Hid (Sw W B p gb cap (argS p j c) wr ∧ IvS p j wy c)) (fun wr => mesS p gb j wr)
   case atStart => exact ⟨p.arg j, HJ.out, HIV.out⟩
   case round =>
    obtain ⟨c, HC⟩ := hrel
    clear HJ HIV
    have HIW := hide (isWayC o ho2 HC.out.1.tab)
    rw [HWY.out] at HIW
    obtain ⟨c0, c1, c2⟩ := HC.out.1.cells.2.1 j hlt
    rw [HOO.out] at c0
    have cl := HC.out.1.cells.2.2 (by omega)
    have hself : argS p j c j = c := by unfold argS; rw [if_neg (by omega), if_pos rfl]
    rw [hself] at c1
    cases wy with
    | false =>
     have hcj := HC.out.2.1 rfl
     have HN : Hid (Sw W B p gb cap (argS p (j + 1) (p.arg (j + 1))) wr) := HC.out.1.congr (fun y _ => by
      unfold argS
      by_cases q : y = j
      ·subst q
       rw [if_neg (by omega), if_pos rfl, if_pos (by omega)]
       show _ = (if wayP (p.op y) = true then _ else _)
       rw [if_neg (by rw [HOO.out, HWY.out]; decide)]
       exact hcj
      ·by_cases q2 : y < j
       ·rw [if_pos q2, if_pos (by omega)]
       ·rw [if_neg q2, if_neg q, if_neg (by omega)]
        split
        ·rename_i q3; rw [q3]
        ·rfl)
     clear HC hself hcj
     go_wp2_with fail
     refine HIW.out.mono ?_
     rintro e w5 ⟨rfl, hw5⟩
     subst hw5
     clear HIW
     go_wp2
     go_roundw
     case rel => exact ⟨j + 1, by omega, by go_num, HN.out⟩
     case measure => simp [intOf]; omega
    | true =>
     obtain ⟨t, rfl, htn, hfin, hfw⟩ := HC.out.2.2 rfl
     obtain ⟨d0, d1, _⟩ := HC.out.1.cells.2.1 t htn
     by_cases e25 : p.op t = 25
     ·have hjt := hfw e25
      have hargt : argS p j (t : Int) t = p.arg t := by unfold argS; rw [if_neg (by omega), if_neg (by omega)]
      rw [hargt] at d1
      obtain ⟨l, hl⟩ := Option.isSome_iff_exists.1 (HA.out t htn)
      have g := (HF.out.fl t l htn hl).2 ((p.arg t).toNat, l) (by rw [jump_edgs e25]; exact List.mem_cons_self ..)
      simp only at g
      have hpl := isPl_nat ((HW.out.ins t htn).way (by rw [e25]; rfl))
      obtain ⟨t2, ht2⟩ : ∃ t2 : Nat, p.arg t = t2 := ⟨_, hpl.1⟩
      have ht3 : (p.arg t).toNat = t2 := by omega
      rw [ht3] at g
      have HN : Hid (Sw W B p gb cap (argS p j (t2 : Int)) (wr.setCell ⟨gb, j * 2 + 1, none⟩ (.int .i64 (t2 : Int))) ∧ IvS p j true (t2 : Int)) := by
       refine ⟨HC.out.1.set hlt HZ.out (fun y _ => ?_), fun e => (by cases e), fun _ => ⟨t2, rfl, g.1, ?_, fun e => ?_⟩⟩
       ·unfold argS
        by_cases q : y = j
        ·subst q
         rw [if_pos rfl, if_neg (by omega), if_pos rfl]
        ·rw [if_neg q]
         by_cases q2 : y < j
         ·rw [if_pos q2, if_pos q2]
         ·rw [if_neg q2, if_neg q2, if_neg q, if_neg q]
       ·rw [← hfin, fin_step HF.out htn hl e25, ht3]
       ·rcases Nat.lt_or_ge t t2 with q | q
        ·omega
        ·have := g.2.1 q
         rw [e] at this
         exact absurd this (by decide)
      have HMS : Hid (mesS p gb j (wr.setCell ⟨gb, j * 2 + 1, none⟩ (.int .i64 (t2 : Int))) < mesS p gb j wr) := by
       show _ < _
       obtain ⟨_, k1, _⟩ := HN.out.1.cells.2.1 j hlt
       have hs2 : argS p j (t2 : Int) j = t2 := by unfold argS; rw [if_neg (by omega), if_pos rfl]
       rw [hs2] at k1
       unfold mesS
       rw [k1, c1]
       simp only [Int.toNat_natCast]
       rw [if_pos e25]
       by_cases e : p.op t2 = 25
       ·rw [if_pos e]
        rcases Nat.lt_or_ge t t2 with q | q
        ·omega
        ·have := g.2.1 q
         rw [e] at this
         exact absurd this (by decide)
       ·rw [if_neg e]
        omega
      rw [ht2] at d1
      rw [e25] at d0
      clear HC hself hargt hfin hfw g hpl ht2 ht3 hl e25
      go_wp2_with fail
      refine HIW.out.mono ?_
      rintro e w5 ⟨rfl, hw5⟩
      subst hw5
      clear HIW
      go_wp2
      go_roundw
      case rel => exact ⟨_, HN.out⟩
      case measure => exact HMS.out
     ·have hft : finF p p.n t = t := fin_stop e25 _
      have HN : Hid (Sw W B p gb cap (argS p (j + 1) (p.arg (j + 1))) wr) := HC.out.1.congr (fun y _ => by
       unfold argS
       by_cases q : y = j
       ·subst q
        rw [if_neg (by omega), if_pos rfl, if_pos (by omega)]
        show _ = (if wayP (p.op y) = true then _ else _)
        rw [if_pos (by rw [HOO.out]; exact HWY.out), ← hfin, hft]
       ·by_cases q2 : y < j
        ·rw [if_pos q2, if_pos (by omega)]
        ·rw [if_neg q2, if_neg q, if_neg (by omega)]
         split
         ·rename_i q3; rw [q3]
         ·rfl)
      obtain ⟨oi, hoi⟩ : ∃ oi, p.op t = oi := ⟨_, rfl⟩
      rw [hoi] at d0 e25
      have d25 : (oi == 25) = false := beq_eq_false_iff_ne.2 e25
      clear HC hself hfin hfw hft hoi e25 d1
      go_wp2_with fail
      refine HIW.out.mono ?_
      rintro e w5 ⟨rfl, hw5⟩
      subst hw5
      clear HIW
      go_wp2
      go_roundw
      case rel => exact ⟨j + 1, by omega, by go_num, HN.out⟩
      case measure => simp [intOf]; omega
  ·obtain rfl : j = p.n := by omega
   have HN : Hid (Sw W B p gb cap (shortF p).arg wr) := HJ.out.congr (fun y hy => by unfold argS; rw [if_pos hy])
   clear HJ
   go_wp2
   go_end0
   exact ⟨rfl, HN⟩
end Go.Proofs.YtggpaljilpbmhaaGreatDoor
namespace Go.Proofs.YtggpaljilpbmhaaGreatDoor
open Go.RowKit

def idI (r : Option Nat) : Int := match r with
 | none => -1
 | some i => ((i : Nat) : Int)
set_option maxRecDepth 10000 in
set_option maxHeartbeats 3200000 in
theorem idleC {W : World} {g : Pg} {p : Pv} (h : g.Ok p W.heap.size W) (hn : p.n ≤ 1024) :
  Calls Tryz.prog 57 #[.slice g.ia p.n g.ic] W fun e w' => e = .returned (.int .i64 (idI (fstI p p.n))) ∧ Hid (Below W.heap.size W w') := by
 obtain ⟨r, hr⟩ : ∃ r, fstI p p.n = r := ⟨_, rfl⟩
 rw [hr]
 have HR := hide hr
 have HOK := hide h
 clear h hr
 obtain ⟨ca, sa, ia, cc, sc, ic, cb, co, sb, so, ib, io⟩ := g
 simp only
 go_enter Tryz.func57, Tryz.ntmps57
 go_wp2
 go_loopw [7] (fun i wr => ∃ j : Nat, j ≤ p.n ∧ i = .int .i64 (j : Nat) ∧ Hid (fstI p j = none ∧ Below W.heap.size W wr)) (fun i _ => p.n - (intOf i).toNat)
 case atStart => exact ⟨0, by omega, rfl, rfl, Below.refl _ _⟩
 case round =>
  obtain ⟨j, hj, rfl, HJ⟩ := hrel
  by_cases hlt : j < p.n
  ·have hok := HOK.out.kept HJ.out.2 (Nat.le_refl _)
   obtain ⟨hia, hil⟩ := hok.hi (by show 0 < p.n; omega)
   have hia : ia = some ⟨ib, io, none⟩ := hia
   have hil : ib < W.heap.size := hil
   have hv : wr.cell? ⟨ib, io + j * 2, none⟩ = some (.int .i64 (p.op j)) := hok.vo j hlt
   have hv2 : wr.cell? ⟨ib, io + j * 2 + 1, none⟩ = some (.int .i64 (p.arg j)) := hok.va j hlt
   have hl2 : ib < wr.heap.size := Nat.lt_of_lt_of_le hil HJ.out.2.size
   obtain ⟨wn, hwn⟩ : ∃ wn, wr.alloc (.cells #[.int .i64 (p.op j), .int .i64 (p.arg j)] 42) = wn := ⟨_, rfl⟩
   have hbn : Below wr.heap.size wr wn := by rw [← hwn]; exact below_alloc1 _ _
   have han : wn.heap[wr.heap.size]? = some (.cells #[.int .i64 (p.op j), .int .i64 (p.arg j)] 42 (0, 0)) := by rw [← hwn]; exact alloc_atK _ _
   have HBN := hide (HJ.out.2.trans (hbn.mono HJ.out.2.size))
   have n0 := block_cell han 0
   have n1 := block_cell han 1
   have nl := block_lt han
   simp at n0 n1
   have HWN := hide hwn
   have HF := hide HJ.out.1
   by_cases hid : idleB p j = true
   ·have hre : r = some j := by rw [← HR.out]; exact fstI_hit HF.out hid hlt
    subst hre
    simp [idleB] at hid
    obtain ⟨i1, i2⟩ := hid
    rw [i1] at n0 hv HWN
    rw [i2] at n1 hv2 HWN
    clear hwn hbn han HJ hok i1 i2
    subst hia
    go_upto_region 4 with fail
    rw [HWN.out]
    clear hv hv2 hl2 HWN
    go_wp2
    go_ret
    exact ⟨rfl, HBN⟩
   ·have HN : Hid (fstI p (j + 1) = none) := by rw [fstI_next HF.out, if_neg hid]; rfl
    obtain ⟨oj, hoj⟩ : ∃ oj, p.op j = oj := ⟨_, rfl⟩
    obtain ⟨aj, haj⟩ : ∃ aj, p.arg j = aj := ⟨_, rfl⟩
    have hnid : ¬ (oj = 25 ∧ aj = (j : Int) + 1) := fun q => hid (by simp [idleB, hoj, haj, q.1, q.2])
    rw [hoj] at n0 hv HWN
    rw [haj] at n1 hv2 HWN
    clear hwn hbn han HJ hok hoj haj hid
    subst hia
    go_upto_region 4 with fail
    rw [HWN.out]
    clear hv hv2 hl2 HWN
    by_cases o25 : oj = 25
    ·have a1 : (aj == (j : Int) + 1) = false := beq_eq_false_iff_ne.2 (fun q => hnid ⟨o25, q⟩)
     subst o25
     clear hnid
     go_wp2
     go_roundw
     case rel => exact ⟨j + 1, by omega, by go_num, HN.out, HBN.out⟩
     case measure => simp [intOf]; omega
    ·have a1 : (oj == 25) = false := beq_eq_false_iff_ne.2 o25
     clear hnid o25
     go_wp2
     go_roundw
     case rel => exact ⟨j + 1, by omega, by go_num, HN.out, HBN.out⟩
     case measure => simp [intOf]; omega
  ·obtain rfl : j = p.n := by omega
   have hre : r = none := by rw [← HR.out]; exact HJ.out.1
   subst hre
   have HB := hide HJ.out.2
   clear HJ
   go_wp2
   go_ret
   exact ⟨rfl, HB⟩
end Go.Proofs.YtggpaljilpbmhaaGreatDoor
