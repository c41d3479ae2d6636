import Derived.Test.YtggpaljilpbmhaaGreatDoorW20
import Derived.Test.YtggpaljilpbmhaaGreatDoorW29
import Derived.Test.YtggpaljilpbmhaaGreatDoorW34
import Derived.Test.YtggpaljilpbmhaaGreatDoorW18
namespace Go.Proofs.YtggpaljilpbmhaaGreatDoor
open Go.RowKit

/-- A program of new memory. -/
structure Po (B : Nat) (g : Pg) (p : Pv) (w : World) : Prop where
 c : w.ownsRow B 28 1 (.slice g.ca p.nc g.cc) p.nc (nums .u64 p.C p.nc)
 s : w.ownsRow B 3 1 (.slice g.sa p.ns g.sc) p.ns (nums .i64 p.S p.ns)
 i : Irow w B (.slice g.ia p.n g.ic) p.n p.op p.arg
 ok : g.Ok p w.heap.size w
theorem own_low {w : World} {B B' n sz : Nat} {t : TypeId} {v : Value} {xs : List Value} (h : w.ownsRow B' t sz v n xs) (hb : B ≤ B') : w.ownsRow B t sz v n xs := by
 refine ⟨h.1, ?_⟩
 rcases h.2 with q | ⟨g, cap, cur, q1, q2, q3⟩
 ·exact .inl q
 ·exact .inr ⟨g, cap, cur, q1, by omega, q3⟩
def blkOfA (a : Option Addr) : Nat := match a with
 | some x => x.block
 | none => 0
/-- A program out of its rows. -/
theorem po_mk {B : Nat} {p : Pv} {w : World} {vc vs vi : Value} (hc : w.ownsRow B 28 1 vc p.nc (nums .u64 p.C p.nc)) (hs : w.ownsRow B 3 1 vs p.ns (nums .i64 p.S p.ns)) (hi : Irow w B vi p.n p.op p.arg) (h1 : p.nc ≤ 256) (h2 : p.ns ≤ 128) (h3 : p.n ≤ 1024) :
  ∃ g : Pg, vc = .slice g.ca p.nc g.cc ∧ vs = .slice g.sa p.ns g.sc ∧ vi = .slice g.ia p.n g.ic ∧ Po B g p w := by
 obtain ⟨ca, cc, rfl, kc⟩ : ∃ ca cc, vc = .slice ca p.nc cc ∧ (0 < p.nc → ca = some ⟨blkOfA ca, 0, none⟩ ∧ blkOfA ca < w.heap.size) ∧ ∀ j, j < p.nc → w.cell? ⟨blkOfA ca, 0 + j, none⟩ = some (.int .u64 (p.C j)) := by
  rcases hc.2 with ⟨rfl, h0⟩ | ⟨g, cap, cur, rfl, _, hq, _⟩
  ·rw [h0]
   exact ⟨none, 0, rfl, fun h => by omega, fun j hj => by omega⟩
  ·refine ⟨_, cap, rfl, fun _ => ⟨rfl, block_lt hq⟩, fun j hj => ?_⟩
   have := hc.cellAt j (by omega)
   rw [Nat.zero_add]
   refine this.trans ?_
   simp [nums, hj]
 obtain ⟨sa, sc, rfl, ks⟩ : ∃ ca cc, vs = .slice ca p.ns cc ∧ (0 < p.ns → ca = some ⟨blkOfA ca, 0, none⟩ ∧ blkOfA ca < w.heap.size) ∧ ∀ j, j < p.ns → w.cell? ⟨blkOfA ca, 0 + j, none⟩ = some (.int .i64 (p.S j)) := by
  rcases hs.2 with ⟨rfl, h0⟩ | ⟨g, cap, cur, rfl, _, hq, _⟩
  ·rw [h0]
   exact ⟨none, 0, rfl, fun h => by omega, fun j hj => by omega⟩
  ·refine ⟨_, cap, rfl, fun _ => ⟨rfl, block_lt hq⟩, fun j hj => ?_⟩
   have := hs.cellAt j (by omega)
   rw [Nat.zero_add]
   refine this.trans ?_
   simp [nums, hj]
 obtain ⟨ia, ic, rfl, _, ki⟩ := irow_val hi
 refine ⟨⟨ca, sa, ia, cc, sc, ic, blkOfA ca, 0, blkOfA sa, 0, blkOfA ia, 0⟩, rfl, rfl, rfl, hc, hs, hi, kc.1, ks.1, fun h => ?_, kc.2, ks.2, fun j hj => ?_, fun j hj => ?_, by omega, by omega, by omega⟩
 ·obtain ⟨g, rfl, _, h2, _⟩ := ki h
  exact ⟨rfl, h2⟩
 ·obtain ⟨g, rfl, _, _, h2⟩ := ki (by omega)
  rw [Nat.zero_add]
  exact (h2 j hj).1
 ·obtain ⟨g, rfl, _, _, h2⟩ := ki (by omega)
  rw [Nat.zero_add]
  exact (h2 j hj).2.1
theorem own_keep {w w' : World} {B n sz : Nat} {t : TypeId} {v : Value} {xs : List Value} (h : w.ownsRow B t sz v n xs) (hb : Below w.heap.size w w') : w'.ownsRow B t sz v n xs :=
 World.ownsRow.kept (row := none) h ⟨hb.os, hb.tape, hb.output, hb.size, fun k hk _ => hb.block k hk⟩ (by cases hv : v.ownBlock <;> simp)
theorem own_offT {w w' : World} {B n sz : Nat} {t t' : TypeId} {v : Value} {xs : List Value} (h : w.ownsRow B t sz v n xs) {q : Nat} {cs : Array Value} {z : Nat × Nat} (hq : w.heap[q]? = some (.cells cs t' z)) (ht : t' ≠ t) (hg : w.grownBy w' (some q)) : w'.ownsRow B t sz v n xs := by
 refine World.ownsRow.kept h hg ?_
 rcases h.2 with ⟨rfl, _⟩ | ⟨g, cap, cur, rfl, _, hc, _⟩
 ·exact .inl rfl
 ·right
  intro e
  simp [Value.ownBlock] at e
  subst e
  rw [hc] at hq
  cases hq
  exact ht rfl
/-- A program that is stored whole: CwB's set9. -/
theorem set9_blk {w : World} {q : Nat} {cs : Array Value} {t : TypeId} {z : Nat × Nat} (h : w.heap[q]? = some (.cells cs t z)) (hc : cs.size = 9) (v0 v1 v2 v3 v4 v5 v6 v7 v8 : Value) : (set9 w q v0 v1 v2 v3 v4 v5 v6 v7 v8).heap[q]? = some (.cells #[v0, v1, v2, v3, v4, v5, v6, v7, v8] t z) ∧ w.grownBy (set9 w q v0 v1 v2 v3 v4 v5 v6 v7 v8) (some q) := by
 constructor
 ·obtain ⟨l⟩ := cs
  match l, hc with
  | [_, _, _, _, _, _, _, _, _], _ => simp [set9, World.setCell, Array.getElem?_modify, h]
 ·unfold set9
  exact grown_tr (grown_tr (grown_tr (grown_tr (grown_tr (grown_tr (grown_tr (grown_tr (grown_setT _ q 0 _) (grown_setT _ q 1 _)) (grown_setT _ q 2 _)) (grown_setT _ q 3 _)) (grown_setT _ q 4 _)) (grown_setT _ q 5 _)) (grown_setT _ q 6 _)) (grown_setT _ q 7 _)) (grown_setT _ q 8 _)
end Go.Proofs.YtggpaljilpbmhaaGreatDoor
namespace Go.Proofs.YtggpaljilpbmhaaGreatDoor
open Go.RowKit

/-- Where a row that is owned lies. -/
theorem own_place {w : World} {B n sz cap b off : Nat} {t : TypeId} {ao : Option Addr} {xs : List Value} (h : w.ownsRow B t sz (.slice ao n cap) n xs) (ha : ao = some ⟨b, off, none⟩) : off = 0 ∧ b < w.heap.size ∧ ∀ j, j < n * sz → w.cell? ⟨b, off + j, none⟩ = xs[j]? := by
 subst ha
 rcases h.2 with ⟨e, _⟩ | ⟨gb, cp, cur, e, _⟩
 ·cases e
 ·cases e
  refine ⟨rfl, (h.lt b rfl).2, fun j hj => ?_⟩
  rw [Nat.zero_add]
  exact h.cellAt j hj
theorem Po.remake {B : Nat} {g : Pg} {p p' : Pv} {w w' : World} (h : Po B g p w) (e1 : p'.nc = p.nc) (e2 : p'.ns = p.ns) (e3 : p'.n = p.n) (hc : w'.ownsRow B 28 1 (.slice g.ca p'.nc g.cc) p'.nc (nums .u64 p'.C p'.nc)) (hs : w'.ownsRow B 3 1 (.slice g.sa p'.ns g.sc) p'.ns (nums .i64 p'.S p'.ns)) (hi : Irow w' B (.slice g.ia p'.n g.ic) p'.n p'.op p'.arg) : Po B g p' w' := by
 have kc : 0 < p'.nc → g.ca = some ⟨g.cb, g.co, none⟩ := fun e => (h.ok.hc (by omega)).1
 have ks : 0 < p'.ns → g.sa = some ⟨g.sb, g.so, none⟩ := fun e => (h.ok.hs (by omega)).1
 have ki : 0 < p'.n → g.ia = some ⟨g.ib, g.io, none⟩ := fun e => (h.ok.hi (by omega)).1
 refine ⟨hc, hs, hi, fun e => ⟨kc e, (own_place hc (kc e)).2.1⟩, fun e => ⟨ks e, (own_place hs (ks e)).2.1⟩, fun e => ⟨ki e, (own_place hi (ki e)).2.1⟩, fun j hj => ?_, fun j hj => ?_, fun j hj => ?_, fun j hj => ?_, by rw [e1]; exact h.ok.lc, by rw [e2]; exact h.ok.ls, by rw [e3]; exact h.ok.li⟩
 ·rw [(own_place hc (kc (by omega))).2.2 j (by omega)]
  simp [nums, hj]
 ·rw [(own_place hs (ks (by omega))).2.2 j (by omega)]
  simp [nums, hj]
 ·rw [(own_place hi (ki (by omega))).2.2 (j * 2) (by omega)]
  exact nums2_o hj
 ·have := (own_place hi (ki (by omega))).2.2 (j * 2 + 1) (by omega)
  rw [← Nat.add_assoc] at this
  rw [this]
  exact nums2_a hj
theorem Po.low {B B' : Nat} {g : Pg} {p : Pv} {w : World} (h : Po B' g p w) (hb : B ≤ B') : Po B g p w := ⟨own_low h.c hb, own_low h.s hb, own_low h.i hb, h.ok⟩
theorem Po.next {B : Nat} {g : Pg} {p : Pv} {w w' : World} (h : Po B g p w) (hb : Below w.heap.size w w') : Po B g p w' := h.remake rfl rfl rfl (own_keep h.c hb) (own_keep h.s hb) (own_keep h.i hb)
/-- A store elsewhere. -/
theorem Po.off {B : Nat} {g : Pg} {p : Pv} {w w' : World} (h : Po B g p w) {q : Nat} {cs : Array Value} {t : TypeId} {z : Nat × Nat} (hq : w.heap[q]? = some (.cells cs t z)) (h1 : t ≠ 28) (h2 : t ≠ 3) (h3 : t ≠ 42) (hg : w.grownBy w' (some q)) : Po B g p w' :=
 h.remake rfl rfl rfl (own_offT h.c hq h1 hg) (own_offT h.s hq h2 hg) (own_offT h.i hq h3 hg)
end Go.Proofs.YtggpaljilpbmhaaGreatDoor
namespace Go.Proofs.YtggpaljilpbmhaaGreatDoor
open Go.RowKit

/-- The row while its ways are shortened. -/
structure Sw (W : World) (B : Nat) (p : Pv) (gb cap : Nat) (a : Nat → Int) (w : World) : Prop where
 row : Irow w B (.slice (some ⟨gb, 0, none⟩) p.n cap) p.n p.op a
 tab : Tab w
 bel : Below B W w
 gr : W.grownBy w (some gb)
theorem Sw.set {W : World} {B : Nat} {p : Pv} {gb cap : Nat} {a a' : Nat → Int} {w : World} {j : Nat} {x : Int} (h : Sw W B p gb cap a w) (hj : j < p.n) (hz : 10 < B) (ha : ∀ y, y < p.n → (if y = j then x else a y) = a' y) : Sw W B p gb cap a' (w.setCell ⟨gb, j * 2 + 1, none⟩ (.int .i64 x)) := by
 have hg := grown_setT w gb (j * 2 + 1) (.int .i64 x)
 have hb : Below B w (w.setCell ⟨gb, j * 2 + 1, none⟩ (.int .i64 x)) := (Below.refl _ w).setCell (p := ⟨gb, j * 2 + 1, none⟩) (World.ownsRow.lt h.row gb rfl).1 _
 exact ⟨irow_congr (irow_set h.row hj) (fun _ _ => rfl) ha, h.tab.below hb hz, h.bel.trans hb, grown_tr h.gr hg⟩
theorem Sw.congr {W : World} {B : Nat} {p : Pv} {gb cap : Nat} {a a' : Nat → Int} {w : World} (h : Sw W B p gb cap a w) (ha : ∀ y, y < p.n → a y = a' y) : Sw W B p gb cap a' w := ⟨irow_congr h.row (fun _ _ => rfl) ha, h.tab, h.bel, h.gr⟩
theorem Sw.cells {W : World} {B : Nat} {p : Pv} {gb cap : Nat} {a : Nat → Int} {w : World} (h : Sw W B p gb cap a w) : p.n ≤ cap ∧ (∀ j, j < p.n → w.cell? ⟨gb, j * 2, none⟩ = some (.int .i64 (p.op j)) ∧ w.cell? ⟨gb, j * 2 + 1, none⟩ = some (.int .i64 (a j)) ∧ w.frozen? ⟨gb, j * 2 + 1, none⟩ = false) ∧ (0 < p.n → gb < w.heap.size) := by
 obtain ⟨_, _, e, h1, h2⟩ := irow_val h.row
 cases e
 refine ⟨h1, fun j hj => ?_, fun hn => ?_⟩
 ·obtain ⟨_, e, _, _, h3⟩ := h2 (by omega)
  cases e
  exact h3 j hj
 ·obtain ⟨_, e, _, h3, _⟩ := h2 hn
  cases e
  exact h3
end Go.Proofs.YtggpaljilpbmhaaGreatDoor
namespace Go.Proofs.YtggpaljilpbmhaaGreatDoor
open Go.RowKit

end Go.Proofs.YtggpaljilpbmhaaGreatDoor
namespace Go.Proofs.YtggpaljilpbmhaaGreatDoor
open Go.RowKit

/-- Taking out idle jumps: the program that is left. -/
structure Wi (W : World) (B : Nat) (p : Pv) (g : Pg) (q : Pv) (f : Nat) (w : World) : Prop where
 pb : w.heap[W.heap.size]? = some (.cells (g.cs q).toArray 27 (0, 0))
 rb : w.heap[W.heap.size + 1]? = some (.cells zP 27 (0, 0))
 po : Po B g q w
 wf : Wf q
 eq : idleF f q = idleF p.n p
 le : q.n ≤ f
 tab : Tab w
 bel : Below W.heap.size W w
 lb : B ≤ W.heap.size
 z : 10 < W.heap.size
theorem Wi.next {W : World} {B : Nat} {p : Pv} {g : Pg} {q : Pv} {f : Nat} {w w' : World} (h : Wi W B p g q f w) (hb : Below w.heap.size w w') : Wi W B p g q f w' :=
 ⟨(hb.block _ (block_lt h.pb)).trans h.pb, (hb.block _ (block_lt h.rb)).trans h.rb, h.po.next hb, h.wf, h.eq, h.le, h.tab.below hb h.tab.z, h.bel.trans (hb.mono h.bel.size), h.lb, h.z⟩
end Go.Proofs.YtggpaljilpbmhaaGreatDoor
namespace Go.Proofs.YtggpaljilpbmhaaGreatDoor
open Go.RowKit

end Go.Proofs.YtggpaljilpbmhaaGreatDoor
namespace Go.Proofs.YtggpaljilpbmhaaGreatDoor
open Go.RowKit

/-- What a machine of the program holds that never turns. -/
structure Mc where
 (vC vI : Value) (ek ev : Nat → Int) (hd : Int) (kd : Nat → Int) (many : Nat)
/-- The cells of a machine. -/
def fcell (c : Mc) (s : Ms) (i : Nat) : Value :=
 if i < 20 then (if i = 0 then .bool true else if i = 1 then c.vC else if i = 2 then c.vI else if i = 19 then .int .u64 c.hd else if i % 2 = 1 then .int .i64 (c.ek ((i - 3) / 2)) else .int .u64 (c.ev ((i - 3) / 2)))
 else if i < 276 then (if i % 2 = 0 then .int .i64 (c.kd ((i - 20) / 2)) else .int .u64 (s.slt ((i - 20) / 2)))
 else if i = 276 then .int .i64 (c.many : Nat)
 else if i < 405 then (if i % 2 = 1 then .int .i64 (s.sk ((i - 277) / 2)) else .int .u64 (s.sv ((i - 277) / 2)))
 else if i < 408 then (if i = 405 then .int .i64 (s.h : Nat) else if i = 406 then .int .i64 s.pc else .int .u64 s.left)
 else if i < 411 then .int .u64 (s.paid (i - 408))
 else if i = 411 then .bool s.ov else if i = 412 then .int .i64 s.en else .int .u64 s.fail
def cellsM (c : Mc) (s : Ms) : List Value := (List.range 414).map (fcell c s)
/-- A machine as it lies. -/
structure Pm (c : Mc) (mb : Nat) (s : Ms) (w : World) : Prop where
 blk : w.heap[mb]? = some (.cells (cellsM c s).toArray 140 (0, 0))
section
variable {c : Mc} {mb : Nat} {s s' : Ms} {w w' : World}
theorem Pm.lt (h : Pm c mb s w) : mb < w.heap.size := block_lt h.blk
theorem Pm.cell (h : Pm c mb s w) {i : Nat} (hi : i < 414) : w.cell? ⟨mb, i, none⟩ = some (fcell c s i) := by
 rw [block_cell h.blk]
 simp [cellsM, hi]
theorem Pm.free (h : Pm c mb s w) (i : Nat) : w.frozen? ⟨mb, i, none⟩ = false := block_free h.blk i
theorem Pm.set (h : Pm c mb s w) {j : Nat} {v : Value} (hj : ∀ i, i < 414 → fcell c s' i = if i = j then v else fcell c s i) : Pm c mb s' (w.setCell ⟨mb, j, none⟩ v) := by
 refine ⟨?_⟩
 have e : (cellsM c s').toArray = (cellsM c s).toArray.setIfInBounds j v := by
  apply Array.ext'
  apply List.ext_getElem?
  intro i
  simp only [Array.toList_setIfInBounds, List.getElem?_set]
  unfold cellsM
  by_cases hi : i < 414
  ·simp only [List.getElem?_map, List.length_map, List.length_range]
   rw [List.getElem?_range hi]
   simp only [Option.map_some]
   rw [hj i hi]
   by_cases q : j = i
   ·subst q; simp [hi]
   ·rw [if_neg q, if_neg (fun e => q e.symm)]
  ·have h1 : ∀ f : Nat → Value, ((List.range 414).map f)[i]? = none := fun f => by rw [List.getElem?_eq_none]; simp; omega
   rw [h1, h1]
   split
   ·rename_i q; subst q; simp [hi]
   ·rfl
 rw [e]
 simp [World.setCell, Array.getElem?_modify, h.blk]
theorem Pm.grown {r : Option Nat} (h : Pm c mb s w) (hg : w.grownBy w' r) (hr : r ≠ some mb) : Pm c mb s w' := ⟨(hg.block _ h.lt (fun e => hr e.symm)).trans h.blk⟩
theorem Pm.below (h : Pm c mb s w) (hb : Below w.heap.size w w') : Pm c mb s w' := ⟨(hb.block _ h.lt).trans h.blk⟩
theorem fc_pc (a : Int) : ∀ i, i < 414 → fcell c { s with pc := a } i = if i = 406 then .int .i64 a else fcell c s i := fun i _ => by
 by_cases e : i = 406
 ·subst e; rfl
 ·rw [if_neg e]
  unfold fcell
  by_cases e1 : i < 408
  ·simp only [e1, if_true, e, if_false]
  ·simp only [e1, if_false]
theorem fc_h (n : Nat) : ∀ i, i < 414 → fcell c { s with h := n } i = if i = 405 then .int .i64 (n : Nat) else fcell c s i := fun i _ => by
 by_cases e : i = 405
 ·subst e; rfl
 ·rw [if_neg e]
  unfold fcell
  simp only [e, if_false]
theorem fc_left (n : Int) : ∀ i, i < 414 → fcell c { s with left := n } i = if i = 407 then .int .u64 n else fcell c s i := fun i _ => by
 by_cases e : i = 407
 ·subst e; rfl
 ·rw [if_neg e]
  unfold fcell
  by_cases e1 : i < 408
  ·by_cases e2 : i = 405
   ·subst e2; rfl
   ·by_cases e3 : i = 406
    ·subst e3; rfl
    ·rw [if_pos e1, if_pos e1]
     have : i < 405 := by omega
     simp only [this, if_true]
  ·simp only [e1, if_false]
theorem fc_ov (b : Bool) : ∀ i, i < 414 → fcell c { s with ov := b } i = if i = 411 then .bool b else fcell c s i := fun i _ => by
 by_cases e : i = 411
 ·subst e; rfl
 ·rw [if_neg e]
  unfold fcell
  simp only [e, if_false]
theorem fc_en (b : Int) : ∀ i, i < 414 → fcell c { s with en := b } i = if i = 412 then .int .i64 b else fcell c s i := fun i _ => by
 by_cases e : i = 412
 ·subst e; rfl
 ·rw [if_neg e]
  unfold fcell
  simp only [e, if_false]
theorem fc_fail (b : Int) : ∀ i, i < 414 → fcell c { s with fail := b } i = if i = 413 then .int .u64 b else fcell c s i := fun i hi => by
 by_cases e : i = 413
 ·subst e; rfl
 ·rw [if_neg e]
  unfold fcell
  by_cases e1 : i = 411
  ·subst e1; rfl
  ·by_cases e2 : i = 412
   ·subst e2; rfl
   ·have : i < 411 := by omega
    simp only [this, if_true]
theorem fc_paid {m : Nat} (hm : m < 3) (x : Int) : ∀ i, i < 414 → fcell c { s with paid := updI s.paid m x } i = if i = 408 + m then .int .u64 x else fcell c s i := fun i hi => by
 by_cases e : i = 408 + m
 ·subst e
  rw [if_pos rfl]
  unfold fcell
  rw [if_neg (by omega), if_neg (by omega), if_neg (by omega), if_neg (by omega), if_neg (by omega), if_pos (by omega)]
  simp [updI]
 ·rw [if_neg e]
  unfold fcell
  by_cases e1 : i < 411
  ·by_cases e2 : i < 408
   ·simp only [e2, if_true]
   ·have a1 : ¬ i < 20 := by omega
    have a2 : ¬ i < 276 := by omega
    have a3 : ¬ i = 276 := by omega
    have a4 : ¬ i < 405 := by omega
    simp only [a1, a2, a3, a4, e1, e2, if_true, if_false]
    show Value.int .u64 (updI s.paid m x (i - 408)) = _
    unfold updI
    rw [if_neg (by omega)]
  ·simp only [e1, if_false]
theorem fc_slt {m : Nat} (hm : m < 128) (x : Int) : ∀ i, i < 414 → fcell c { s with slt := updI s.slt m x } i = if i = 21 + m * 2 then .int .u64 x else fcell c s i := fun i hi => by
 by_cases e : i = 21 + m * 2
 ·subst e
  rw [if_pos rfl]
  unfold fcell
  rw [if_neg (by omega), if_pos (by omega), if_neg (by omega)]
  have : (21 + m * 2 - 20) / 2 = m := by omega
  rw [this]
  simp [updI]
 ·rw [if_neg e]
  unfold fcell
  by_cases e1 : i < 276
  ·by_cases e2 : i < 20
   ·simp only [e2, if_true]
   ·simp only [e1, e2, if_true, if_false]
    by_cases e3 : i % 2 = 0
    ·rw [if_pos e3, if_pos e3]
    ·rw [if_neg e3, if_neg e3]
     show Value.int .u64 (updI s.slt m x ((i - 20) / 2)) = _
     unfold updI
     rw [if_neg (by omega)]
  ·simp only [e1, if_false]
theorem fc_sk {m : Nat} (hm : m < 64) (x : Int) : ∀ i, i < 414 → fcell c { s with sk := updI s.sk m x } i = if i = 277 + m * 2 then .int .i64 x else fcell c s i := fun i hi => by
 by_cases e : i = 277 + m * 2
 ·subst e
  rw [if_pos rfl]
  unfold fcell
  rw [if_neg (by omega), if_neg (by omega), if_neg (by omega), if_pos (by omega), if_pos (by omega)]
  have : (277 + m * 2 - 277) / 2 = m := by omega
  rw [this]
  simp [updI]
 ·rw [if_neg e]
  unfold fcell
  by_cases e1 : i < 405
  ·by_cases e2 : i < 277
   ·have : i < 276 ∨ i = 276 := by omega
    rcases this with q | q
    ·simp only [q, if_true]
    ·subst q; rfl
   ·have a1 : ¬ i < 20 := by omega
    have a2 : ¬ i < 276 := by omega
    have a3 : ¬ i = 276 := by omega
    simp only [a1, a2, a3, e1, if_true, if_false]
    by_cases e3 : i % 2 = 1
    ·rw [if_pos e3, if_pos e3]
     show Value.int .i64 (updI s.sk m x ((i - 277) / 2)) = _
     unfold updI
     rw [if_neg (by omega)]
    ·rw [if_neg e3, if_neg e3]
  ·simp only [e1, if_false]
theorem fc_sv {m : Nat} (hm : m < 64) (x : Int) : ∀ i, i < 414 → fcell c { s with sv := updI s.sv m x } i = if i = 277 + m * 2 + 1 then .int .u64 x else fcell c s i := fun i hi => by
 by_cases e : i = 277 + m * 2 + 1
 ·subst e
  rw [if_pos rfl]
  unfold fcell
  rw [if_neg (by omega), if_neg (by omega), if_neg (by omega), if_pos (by omega), if_neg (by omega)]
  have : (277 + m * 2 + 1 - 277) / 2 = m := by omega
  rw [this]
  simp [updI]
 ·rw [if_neg e]
  unfold fcell
  by_cases e1 : i < 405
  ·by_cases e2 : i < 277
   ·have : i < 276 ∨ i = 276 := by omega
    rcases this with q | q
    ·simp only [q, if_true]
    ·subst q; rfl
   ·have a1 : ¬ i < 20 := by omega
    have a2 : ¬ i < 276 := by omega
    have a3 : ¬ i = 276 := by omega
    simp only [a1, a2, a3, e1, if_true, if_false]
    by_cases e3 : i % 2 = 1
    ·rw [if_pos e3, if_pos e3]
    ·rw [if_neg e3, if_neg e3]
     show Value.int .u64 (updI s.sv m x ((i - 277) / 2)) = _
     unfold updI
     rw [if_neg (by omega)]
  ·simp only [e1, if_false]
theorem fc_stk {m : Nat} (hm : m < 64) : fcell c s (277 + m * 2) = .int .i64 (s.sk m) ∧ fcell c s (277 + m * 2 + 1) = .int .u64 (s.sv m) := by
 unfold fcell
 refine ⟨?_, ?_⟩
 ·rw [if_neg (by omega), if_neg (by omega), if_neg (by omega), if_pos (by omega), if_pos (by omega), show (277 + m * 2 - 277) / 2 = m by omega]
 ·rw [if_neg (by omega), if_neg (by omega), if_neg (by omega), if_pos (by omega), if_neg (by omega), show (277 + m * 2 + 1 - 277) / 2 = m by omega]
theorem fc_slot {m : Nat} (hm : m < 128) : fcell c s (20 + m * 2) = .int .i64 (c.kd m) ∧ fcell c s (20 + m * 2 + 1) = .int .u64 (s.slt m) := by
 unfold fcell
 refine ⟨?_, ?_⟩
 ·rw [if_neg (by omega), if_pos (by omega), if_pos (by omega), show (20 + m * 2 - 20) / 2 = m by omega]
 ·rw [if_neg (by omega), if_pos (by omega), if_neg (by omega), show (20 + m * 2 + 1 - 20) / 2 = m by omega]
theorem fc_env {m : Nat} (hm : m < 8) : fcell c s (3 + m * 2) = .int .i64 (c.ek m) ∧ fcell c s (3 + m * 2 + 1) = .int .u64 (c.ev m) := by
 unfold fcell
 refine ⟨?_, ?_⟩
 ·rw [if_pos (by omega), if_neg (by omega), if_neg (by omega), if_neg (by omega), if_neg (by omega), if_pos (by omega), show (3 + m * 2 - 3) / 2 = m by omega]
 ·rw [if_pos (by omega), if_neg (by omega), if_neg (by omega), if_neg (by omega), if_neg (by omega), if_neg (by omega), show (3 + m * 2 + 1 - 3) / 2 = m by omega]
/-- A value is laid up. -/
theorem Pm.lay (h : Pm c mb s w) (hh : s.h < 64) (k n : Int) : Pm c mb { s with sk := updI s.sk s.h k, sv := updI s.sv s.h n } ((w.setCell ⟨mb, 277 + s.h * 2, none⟩ (.int .i64 k)).setCell ⟨mb, 277 + s.h * 2 + 1, none⟩ (.int .u64 n)) :=
 (h.set (fc_sk hh k)).set (fc_sv (s := { s with sk := updI s.sk s.h k }) hh n)
/-- A slot is filled. -/
theorem Pm.slot (h : Pm c mb s w) {m : Nat} (hm : m < 128) (n : Int) : Pm c mb { s with slt := updI s.slt m n } ((w.setCell ⟨mb, 20 + m * 2, none⟩ (.int .i64 (c.kd m))).setCell ⟨mb, 20 + m * 2 + 1, none⟩ (.int .u64 n)) := by
 have h1 : Pm c mb s (w.setCell ⟨mb, 20 + m * 2, none⟩ (.int .i64 (c.kd m))) := h.set (s' := s) (fun i _ => by
  by_cases e : i = 20 + m * 2
  ·subst e; rw [if_pos rfl]; exact (fc_slot hm).1
  ·rw [if_neg e])
 exact h1.set (fun i hi => by rw [fc_slt hm n i hi, show 21 + m * 2 = 20 + m * 2 + 1 by omega])
end
end Go.Proofs.YtggpaljilpbmhaaGreatDoor
namespace Go.Proofs.YtggpaljilpbmhaaGreatDoor
open Go.RowKit

section
variable {c : Mc} {mb : Nat} {s : Ms} {w : World}
/-- What a step of a machine does to memory. -/
def Gm (c : Mc) (mb : Nat) (s : Ms) (w w' : World) : Prop := Pm c mb s w' ∧ w.grownBy w' (some mb)
theorem fldN (k n : Int) (w : World) : (Instr.field 134 (.agg #[.int .i64 k, .int .u64 n]) 1).run Tryz.prog w = .ok (.int .u64 n) w := by kernel_rfl
theorem grown_below {w' : World} (hb : Below w.heap.size w w') : w.grownBy w' (some mb) := ⟨hb.os, hb.tape, hb.output, hb.size, fun k hk _ => hb.block k hk⟩
theorem grown_up {w1 w2 : World} {r : Option Nat} {v : Nat} (h1 : w.grownBy w1 r) (h2 : w1.grownBy w2 (some v)) (hv : w.heap.size ≤ v) : w.grownBy w2 r := ⟨h2.os.trans h1.os, h2.tape.trans h1.tape, h2.output.trans h1.output, Nat.le_trans h1.size h2.size, fun k hk hr => (h2.block k (Nat.lt_of_lt_of_le hk h1.size) (by simp; omega)).trans (h1.block k hk hr)⟩
theorem Gm.trans {s1 s2 : Ms} {w1 w2 : World} (h1 : Gm c mb s1 w w1) (h2 : Gm c mb s2 w1 w2) : Gm c mb s2 w w2 := ⟨h2.1, grown_tr h1.2 h2.2⟩
set_option maxRecDepth 10000 in
set_option maxHeartbeats 1600000 in
theorem numberC (n : Int) (w : World) : Calls Tryz.prog 71 #[.int .u64 n] w fun e w' => e = .returned (.agg #[.int .i64 0, .int .u64 n]) ∧ Hid (Below w.heap.size w w') := by
 have HB := hide (below_alloc1 w (.cells #[.int .i64 0, .int .u64 n] 134))
 go_enter Tryz.func71, Tryz.ntmps71
 go_wp2
 refine bodyPost_ret (v := .agg #[.int .i64 0, .int .u64 n]) (by simp [results, Tryz.results71, go_sem]) rfl ?_
 exact ⟨rfl, HB⟩
set_option maxRecDepth 10000 in
set_option maxHeartbeats 1600000 in
theorem truthC (b : Bool) (w : World) : Calls Tryz.prog 72 #[.bool b] w fun e w' => e = .returned (.agg #[.int .i64 1, .int .u64 (bI b)]) ∧ Hid (Below w.heap.size w w') := by
 have HB := hide (below_alloc1 w (.cells #[.int .i64 1, .int .u64 (bI b)] 134))
 cases b with
 | true =>
  go_enter Tryz.func72, Tryz.ntmps72
  go_wp2
  refine bodyPost_ret (v := .agg #[.int .i64 1, .int .u64 (bI true)]) (by simp [results, Tryz.results72, go_sem, bI]) rfl ?_
  exact ⟨rfl, HB⟩
 | false =>
  go_enter Tryz.func72, Tryz.ntmps72
  go_wp2
  refine bodyPost_ret (v := .agg #[.int .i64 1, .int .u64 (bI false)]) (by simp [results, Tryz.results72, go_sem, bI]) rfl ?_
  exact ⟨rfl, HB⟩
set_option maxRecDepth 10000 in
set_option maxHeartbeats 1600000 in
theorem stopC (h : Pm c mb s w) (e0 : Int) : Calls Tryz.prog 69 #[.pointer (some ⟨mb, 0, none⟩), .int .i64 e0] w fun e w' => e = .returned (.tuple #[]) ∧ Hid (Gm c mb (s.stop e0) w w') := by
 have c1 := h.cell (i := 411) (by decide)
 have f1 := h.free 411
 have c2 := h.cell (i := 412) (by decide)
 have f2 := h.free 412
 have c3 := h.cell (i := 406) (by decide)
 have f3 := h.free 406
 have hl := h.lt
 have H : Hid (Gm c mb (s.stop e0) w (((w.setCell ⟨mb, 411, none⟩ (.bool true)).setCell ⟨mb, 412, none⟩ (.int .i64 e0)).setCell ⟨mb, 406, none⟩ (.int .i64 (-1)))) := by
  have h1 := h.set (fc_ov true)
  have h2 := h1.set (fc_en e0)
  have h3 := h2.set (fc_pc (-1))
  exact ⟨h3, grown_tr (grown_tr (grown_setT w _ _ _) (grown_setT _ _ _ _)) (grown_setT _ _ _ _)⟩
 clear h
 generalize fcell c s 411 = u1 at *
 generalize fcell c s 412 = u2 at *
 generalize fcell c s 406 = u3 at *
 go_enter Tryz.func69, Tryz.ntmps69
 go_wp2
 go_end0
 exact ⟨rfl, H⟩
set_option maxRecDepth 10000 in
set_option maxHeartbeats 1600000 in
theorem layC (h : Pm c mb s w) (hh64 : s.h < 64) (k n : Int) : Calls Tryz.prog 70 #[.pointer (some ⟨mb, 0, none⟩), .agg #[.int .i64 k, .int .u64 n]] w fun e w' => e = .returned (.tuple #[]) ∧ Hid (Gm c mb (s.push k n) w w') := by
 obtain ⟨W1, hW1⟩ : ∃ W1, w.alloc (.cells #[.int .i64 k, .int .u64 n] 134) = W1 := ⟨_, rfl⟩
 have B1 : Below w.heap.size w W1 := by rw [← hW1]; exact below_alloc1 w _
 have A1 : W1.heap[w.heap.size]? = some (.cells #[.int .i64 k, .int .u64 n] 134 (0, 0)) := by rw [← hW1]; exact alloc_atK _ _
 have v0 := block_cell A1 0
 have v1 := block_cell A1 1
 have vl := block_lt A1
 simp at v0 v1
 have h1 := h.below B1
 have HP : Hid (Gm c mb s w W1.drew) := ⟨h1.below (Below.refl _ _).drew, grown_below (B1.drew)⟩
 have c1 : W1.cell? ⟨mb, 405, none⟩ = some (.int .i64 (s.h : Nat)) := h1.cell (i := 405) (by decide)
 have s0 := h1.cell (i := 277 + s.h * 2) (by omega)
 have s1 := h1.cell (i := 277 + s.h * 2 + 1) (by omega)
 rw [(fc_stk hh64).1] at s0
 rw [(fc_stk hh64).2] at s1
 have f0 := h1.free (277 + s.h * 2)
 have f1 := h1.free (277 + s.h * 2 + 1)
 have ml := h1.lt
 have HN : Hid (∀ wz, W1.drew = wz → Gm c mb { s with sk := updI s.sk s.h k, sv := updI s.sv s.h n } w ((wz.setCell ⟨mb, 277 + s.h * 2, none⟩ (.int .i64 k)).setCell ⟨mb, 277 + s.h * 2 + 1, none⟩ (.int .u64 n))) := fun wz e => by
  rw [← e]
  exact ⟨HP.out.1.lay hh64 k n, grown_tr (grown_tr HP.out.2 (grown_setT _ _ _ _)) (grown_setT _ _ _ _)⟩
 have HW1 := hide hW1
 clear h h1 B1 A1 hW1 HP
 obtain ⟨hh, hhe⟩ : ∃ hh, s.h = hh := ⟨_, rfl⟩
 have HE := hide hhe
 generalize s.sk s.h = x0 at *
 generalize s.sv s.h = x1 at *
 rw [hhe] at c1 s0 s1 f0 f1 HN hh64
 clear hhe
 go_enter Tryz.func70, Tryz.ntmps70
 go_upto_region 1 with fail
 rw [HW1.out]
 clear HW1
 generalize w.heap.size = vb at *
 obtain ⟨wz, hwz⟩ : ∃ wz, (W1).drew = wz := ⟨_, rfl⟩
 have HS9 : Hid ((fun (w : World) => w.cell? ⟨mb, 405, none⟩ = some (.int .i64 (hh : Nat)) ∧ mb < w.heap.size ∧ w.cell? ⟨vb, 0, none⟩ = some (.int .i64 k) ∧ w.cell? ⟨vb, 1, none⟩ = some (.int .u64 n) ∧ vb < w.heap.size ∧ w.cell? ⟨mb, 277 + hh * 2, none⟩ = some (.int .i64 x0) ∧ w.cell? ⟨mb, 277 + hh * 2 + 1, none⟩ = some (.int .u64 x1) ∧ w.frozen? ⟨mb, 277 + hh * 2, none⟩ = false ∧ w.frozen? ⟨mb, 277 + hh * 2 + 1, none⟩ = false) wz) := by rw [← hwz]; exact ⟨c1, ml, v0, v1, vl, s0, s1, f0, f1⟩
 refine wp_region_L 9 (fun (w : World) => w.cell? ⟨mb, 405, none⟩ = some (.int .i64 (hh : Nat)) ∧ mb < w.heap.size ∧ w.cell? ⟨vb, 0, none⟩ = some (.int .i64 k) ∧ w.cell? ⟨vb, 1, none⟩ = some (.int .u64 n) ∧ vb < w.heap.size ∧ w.cell? ⟨mb, 277 + hh * 2, none⟩ = some (.int .i64 x0) ∧ w.cell? ⟨mb, 277 + hh * 2 + 1, none⟩ = some (.int .u64 x1) ∧ w.frozen? ⟨mb, 277 + hh * 2, none⟩ = false ∧ w.frozen? ⟨mb, 277 + hh * 2 + 1, none⟩ = false) (fun _ => True) (by kernel_rfl) (by rw [hwz]; exact HS9.out) trivial (fun hS0 => ?_)
 rw [hwz] at hS0 ⊢
 refine wpAnyL_take (i := 0) (oi := ⟨some 4, .move (.tmp 0), 80, "operate.go:34", #[], none⟩) (v := .pointer (some ⟨mb, 0, none⟩)) rfl (by decide) (by kernel_rfl) (by kernel_rfl) (by kernel_rfl) (fun _ _ _ h => h) (Or.inl ⟨by rfl, fun w2 hSw => ?_⟩) hS0 (fun hS1 => ?_)
 ·go_simp
 simp only [Act.put, lsA, lsB, lsC]
 clear hS0
 refine wpAnyL_take (i := 1) (oi := ⟨some 5, .move (.tmp 0), 80, "operate.go:34", #[], none⟩) (v := .pointer (some ⟨mb, 0, none⟩)) rfl (by decide) (by kernel_rfl) (by kernel_rfl) (by kernel_rfl) (fun _ _ _ h => h) (Or.inl ⟨by rfl, fun w2 hSw => ?_⟩) hS1 (fun hS2 => ?_)
 ·go_simp
 simp only [Act.put, lsA, lsB, lsC]
 clear hS1
 refine wpAnyL_take (i := 2) (oi := ⟨some 6, .nilCheck (.tmp 5), 0, "operate.go:34", #[⟨1, .data⟩], none⟩) (v := .pointer (some ⟨mb, 0, none⟩)) rfl (by decide) (by kernel_rfl) (by kernel_rfl) (by kernel_rfl) (fun _ _ _ h => h) (Or.inl ⟨by rfl, fun w2 hSw => ?_⟩) hS2 (fun hS3 => ?_)
 ·go_simp
 simp only [Act.put, lsA, lsB, lsC]
 clear hS2
 refine wpAnyL_take (i := 3) (oi := ⟨some 7, .fieldAddr 140 (.tmp 6) 8, 0, "operate.go:34", #[⟨2, .data⟩], none⟩) (v := .pointer (some ⟨mb, 405, none⟩)) rfl (by decide) (by kernel_rfl) (by kernel_rfl) (by kernel_rfl) (fun _ _ _ h => h) (Or.inl ⟨by rfl, fun w2 hSw => ?_⟩) hS3 (fun hS4 => ?_)
 ·go_simp
 simp only [Act.put, lsA, lsB, lsC]
 clear hS3
 refine wpAnyL_take1 (i := 4) (oi := ⟨some 8, .load 3 (.tmp 7), 3, "operate.go:34", #[⟨3, .data⟩], none⟩) (v := .int .i64 (hh : Nat)) rfl (by decide) (by kernel_rfl) (by kernel_rfl) (by kernel_rfl) (fun _ _ _ h => h) (Or.inl ⟨by rfl, fun w2 hSw => ?_⟩) hS4 (by kernel_rfl) rfl (by kernel_rfl) (fun hS5 => ?_)
 ·obtain ⟨k1, kl, k2, k3, vl, k4, k5, k6, k7⟩ := hSw
  go_simp
 simp only [Act.put, lsA, lsB, lsC]
 clear hS4
 refine wpAnyL_take1 (i := 5) (oi := ⟨some 9, .load 134 (.tmp 3), 134, "operate.go:34", #[], none⟩) (v := .agg #[.int .i64 k, .int .u64 n]) rfl (by decide) (by kernel_rfl) (by kernel_rfl) (by kernel_rfl) (fun _ _ _ h => h) (Or.inl ⟨by rfl, fun w2 hSw => ?_⟩) hS5 (by kernel_rfl) rfl (by kernel_rfl) (fun hS6 => ?_)
 ·obtain ⟨k1, kl, k2, k3, vl, k4, k5, k6, k7⟩ := hSw
  go_simp
 simp only [Act.put, lsA, lsB, lsC]
 clear hS5
 refine wpAnyL_take (i := 6) (oi := ⟨some 10, .nilCheck (.tmp 4), 0, "operate.go:34", #[⟨0, .data⟩], none⟩) (v := .pointer (some ⟨mb, 0, none⟩)) rfl (by decide) (by kernel_rfl) (by kernel_rfl) (by kernel_rfl) (fun _ _ _ h => h) (Or.inl ⟨by rfl, fun w2 hSw => ?_⟩) hS6 (fun hS7 => ?_)
 ·go_simp
 simp only [Act.put, lsA, lsB, lsC]
 clear hS6
 refine wpAnyL_take (i := 7) (oi := ⟨some 11, .fieldAddr 140 (.tmp 10) 7, 0, "operate.go:34", #[⟨6, .data⟩], none⟩) (v := .pointer (some ⟨mb, 277, none⟩)) rfl (by decide) (by kernel_rfl) (by kernel_rfl) (by kernel_rfl) (fun _ _ _ h => h) (Or.inl ⟨by rfl, fun w2 hSw => ?_⟩) hS7 (fun hS8 => ?_)
 ·go_simp
 simp only [Act.put, lsA, lsB, lsC]
 clear hS7
 refine wpAnyL_take (i := 8) (oi := ⟨some 12, .indexAddr 138 (.tmp 11) (.tmp 8), 0, "operate.go:34", #[⟨7, .data⟩, ⟨4, .data⟩, ⟨0, .phase⟩, ⟨1, .phase⟩, ⟨2, .phase⟩, ⟨3, .phase⟩, ⟨4, .phase⟩, ⟨5, .phase⟩], none⟩) (v := .pointer (some ⟨mb, 277 + hh * 2, none⟩)) rfl (by decide) (by kernel_rfl) (by kernel_rfl) (by kernel_rfl) (fun _ _ _ h => h) (Or.inl ⟨by rfl, fun w2 hSw => ?_⟩) hS8 (fun hS9 => ?_)
 ·go_simp
  intro hx
  omega
 simp only [Act.put, lsA, lsB, lsC]
 clear hS8
 obtain ⟨k1, kl, k2, k3, vl, k4, k5, k6, k7⟩ := hS9.1 rfl
 clear hS9
 refine wpAnyL_one (i := 9) (o := ⟨none, .store 134 (.tmp 12) (.tmp 9), 0, "operate.go:34", #[⟨8, .data⟩, ⟨5, .data⟩, ⟨0, .phase⟩, ⟨1, .phase⟩, ⟨2, .phase⟩, ⟨3, .phase⟩, ⟨4, .phase⟩, ⟨5, .phase⟩], none⟩) (by kernel_rfl) rfl (fun K hK => ?_)
 go_simp
 go_wp2_with fail
 refine hK.out _ _ ⟨fun h => (by cases (show true = false from h)), trivial⟩ ?_
 clear hK K HS9
 refine wpAnyL_done (by kernel_rfl) ?_ _
 have H3 := hide (HN.out wz hwz)
 clear HN hwz k1 k2 k3 k4 k5 k6 k7 kl vl v0 v1 c1 s0 s1 f0 f1 ml
 have c2 : ((wz.setCell ⟨mb, 277 + hh * 2, none⟩ (.int .i64 k)).setCell ⟨mb, 277 + hh * 2 + 1, none⟩ (.int .u64 n)).cell? ⟨mb, 405, none⟩ = some (.int .i64 (hh : Nat)) := H3.out.1.cell (i := 405) (by decide)
 have f2 := H3.out.1.free 405
 have ml := H3.out.1.lt
 obtain ⟨wy, hwy⟩ : ∃ wy, (wz.setCell ⟨mb, 277 + hh * 2, none⟩ (.int .i64 k)).setCell ⟨mb, 277 + hh * 2 + 1, none⟩ (.int .u64 n) = wy := ⟨_, rfl⟩
 rw [hwy] at H3 c2 f2 ml
 rw [hwy]
 clear hwy
 have H4 : Hid (Gm c mb (s.push k n) w (wy.setCell ⟨mb, 405, none⟩ (.int .i64 ((hh + 1 : Nat) : Int)))) := ⟨by
  have q := H3.out.1.set (fc_h (hh + 1))
  have e : s.push k n = { s with h := hh + 1, sk := updI s.sk hh k, sv := updI s.sv hh n } := by unfold Ms.push; rw [HE.out]
  rw [e]
  exact q, grown_tr H3.out.2 (grown_setT _ _ _ _)⟩
 clear H3
 go_wp2
 go_end0
 exact ⟨rfl, H4⟩
set_option maxRecDepth 10000 in
set_option maxHeartbeats 1600000 in
theorem takeC (h : Pm c mb s w) (h0 : 0 < s.h) (hh64 : s.h ≤ 64) : Calls Tryz.prog 73 #[.pointer (some ⟨mb, 0, none⟩)] w fun e w' => e = .returned (.agg #[.int .i64 (s.sk (s.h - 1)), .int .u64 (s.top 0)]) ∧ Hid (Gm c mb (s.pop 1) w w') := by
 obtain ⟨W1, hW1⟩ : ∃ W1, w.alloc (.cells #[.int .i64 0, .int .u64 0] 134) = W1 := ⟨_, rfl⟩
 have B1 : Below w.heap.size w W1 := by rw [← hW1]; exact below_alloc1 w _
 have A1 : W1.heap[w.heap.size]? = some (.cells #[.int .i64 0, .int .u64 0] 134 (0, 0)) := by rw [← hW1]; exact alloc_atK _ _
 have h1 := h.below B1
 have cc : W1.cell? ⟨mb, 405, none⟩ = some (.int .i64 (s.h : Nat)) := h1.cell (i := 405) (by decide)
 have cf := h1.free 405
 have cl := h1.lt
 have hne : w.heap.size ≠ mb := Nat.ne_of_gt h.lt
 obtain ⟨hh, hhe⟩ : ∃ hh, s.h = hh + 1 := ⟨s.h - 1, by omega⟩
 have HP : Hid (Pm c mb (s.pop 1) (W1.setCell ⟨mb, 405, none⟩ (.int .i64 ((hh : Nat) : Int))) ∧ w.grownBy (W1.setCell ⟨mb, 405, none⟩ (.int .i64 ((hh : Nat) : Int))) (some mb) ∧ (W1.setCell ⟨mb, 405, none⟩ (.int .i64 ((hh : Nat) : Int))).heap[w.heap.size]? = some (.cells #[.int .i64 0, .int .u64 0] 134 (0, 0))) := by
  refine ⟨?_, grown_tr (grown_below B1) (grown_setT _ _ _ _), ((grown_setT W1 mb 405 _).block _ (block_lt A1) (by simpa using hne)).trans A1⟩
  have q := h1.set (fc_h (s := s) hh)
  have e : s.pop 1 = { s with h := hh } := by unfold Ms.pop; rw [hhe]; rfl
  rw [e]
  exact q
 have HW1 := hide hW1
 have HT : Hid (s.top 0 = s.sv hh ∧ s.sk (s.h - 1) = s.sk hh) := by
  unfold Ms.top
  rw [hhe]
  exact ⟨rfl, rfl⟩
 have hlt : hh < 64 := by omega
 have HEH : Hid ((s.pop 1).h = hh) := by show s.h - 1 = hh; omega
 have HFS := hide (fc_stk (c := c) (s := s.pop 1) hlt)
 rw [hhe] at cc
 rw [HT.out.1, HT.out.2]
 obtain ⟨x0, hx0⟩ : ∃ x0, s.sk hh = x0 := ⟨_, rfl⟩
 obtain ⟨x1, hx1⟩ : ∃ x1, s.sv hh = x1 := ⟨_, rfl⟩
 rw [hx0, hx1]
 have HX0 := hide (And.intro hx0 hx1)
 clear hx0 hx1
 clear h h1 B1 A1 hW1 HT hhe h0 hh64
 obtain ⟨vb, hvb⟩ : ∃ vb, w.heap.size = vb := ⟨_, rfl⟩
 have HVB := hide (And.intro hvb hne)
 rw [hvb] at HP
 go_enter Tryz.func73, Tryz.ntmps73
 go_upto_region 1 with fail
 rw [HW1.out]
 clear HW1 hvb hne
 go_upto_region 2 with fail
 obtain ⟨wy, hwy⟩ : ∃ wy, W1.setCell ⟨mb, 405, none⟩ (.int .i64 ((hh : Nat) : Int)) = wy := ⟨_, rfl⟩
 rw [hwy] at HP
 rw [hwy]
 clear hwy cc cf cl
 have c1 : wy.cell? ⟨mb, 405, none⟩ = some (.int .i64 (hh : Nat)) := by
  rw [← HEH.out]
  exact HP.out.1.cell (i := 405) (by decide)
 have s0 := HP.out.1.cell (i := 277 + hh * 2) (by omega)
 have s1 := HP.out.1.cell (i := 277 + hh * 2 + 1) (by omega)
 rw [HFS.out.1] at s0
 rw [HFS.out.2] at s1
 have ml := HP.out.1.lt
 have v0 := block_cell HP.out.2.2 0
 have v1 := block_cell HP.out.2.2 1
 have vf0 := block_free HP.out.2.2 0
 have vf1 := block_free HP.out.2.2 1
 have vl := block_lt HP.out.2.2
 simp at v0 v1
 have e0 : (s.pop 1).sk hh = s.sk hh := rfl
 have e1 : (s.pop 1).sv hh = s.sv hh := rfl
 rw [e0, HX0.out.1] at s0
 rw [e1, HX0.out.2] at s1
 clear e0 e1
 obtain ⟨wz, hwz⟩ : ∃ wz, (wy).drew = wz := ⟨_, rfl⟩
 have HS9 : Hid ((fun (w : World) => w.cell? ⟨mb, 405, none⟩ = some (.int .i64 (hh : Nat)) ∧ mb < w.heap.size ∧ w.cell? ⟨mb, 277 + hh * 2, none⟩ = some (.int .i64 x0) ∧ w.cell? ⟨mb, 277 + hh * 2 + 1, none⟩ = some (.int .u64 x1) ∧ vb < w.heap.size ∧ w.cell? ⟨vb, 0, none⟩ = some (.int .i64 0) ∧ w.cell? ⟨vb, 1, none⟩ = some (.int .u64 0) ∧ w.frozen? ⟨vb, 0, none⟩ = false ∧ w.frozen? ⟨vb, 1, none⟩ = false) wz) := by rw [← hwz]; exact ⟨c1, ml, s0, s1, vl, v0, v1, vf0, vf1⟩
 refine wp_region_L 9 (fun (w : World) => w.cell? ⟨mb, 405, none⟩ = some (.int .i64 (hh : Nat)) ∧ mb < w.heap.size ∧ w.cell? ⟨mb, 277 + hh * 2, none⟩ = some (.int .i64 x0) ∧ w.cell? ⟨mb, 277 + hh * 2 + 1, none⟩ = some (.int .u64 x1) ∧ vb < w.heap.size ∧ w.cell? ⟨vb, 0, none⟩ = some (.int .i64 0) ∧ w.cell? ⟨vb, 1, none⟩ = some (.int .u64 0) ∧ w.frozen? ⟨vb, 0, none⟩ = false ∧ w.frozen? ⟨vb, 1, none⟩ = false) (fun _ => True) (by kernel_rfl) (by rw [hwz]; exact HS9.out) trivial (fun hS0 => ?_)
 rw [hwz] at hS0 ⊢
 refine wpAnyL_take (i := 0) (oi := ⟨some 10, .move (.tmp 0), 80, "operate.go:41", #[], none⟩) (v := .pointer (some ⟨mb, 0, none⟩)) rfl (by decide) (by kernel_rfl) (by kernel_rfl) (by kernel_rfl) (fun _ _ _ h => h) (Or.inl ⟨by rfl, fun w2 hSw => ?_⟩) hS0 (fun hS1 => ?_)
 ·go_simp
 simp only [Act.put, lsA, lsB, lsC]
 clear hS0
 refine wpAnyL_take (i := 1) (oi := ⟨some 11, .move (.tmp 0), 80, "operate.go:41", #[], none⟩) (v := .pointer (some ⟨mb, 0, none⟩)) rfl (by decide) (by kernel_rfl) (by kernel_rfl) (by kernel_rfl) (fun _ _ _ h => h) (Or.inl ⟨by rfl, fun w2 hSw => ?_⟩) hS1 (fun hS2 => ?_)
 ·go_simp
 simp only [Act.put, lsA, lsB, lsC]
 clear hS1
 refine wpAnyL_take (i := 2) (oi := ⟨some 12, .nilCheck (.tmp 11), 0, "operate.go:41", #[⟨1, .data⟩], none⟩) (v := .pointer (some ⟨mb, 0, none⟩)) rfl (by decide) (by kernel_rfl) (by kernel_rfl) (by kernel_rfl) (fun _ _ _ h => h) (Or.inl ⟨by rfl, fun w2 hSw => ?_⟩) hS2 (fun hS3 => ?_)
 ·go_simp
 simp only [Act.put, lsA, lsB, lsC]
 clear hS2
 refine wpAnyL_take (i := 3) (oi := ⟨some 13, .fieldAddr 140 (.tmp 12) 8, 0, "operate.go:41", #[⟨2, .data⟩], none⟩) (v := .pointer (some ⟨mb, 405, none⟩)) rfl (by decide) (by kernel_rfl) (by kernel_rfl) (by kernel_rfl) (fun _ _ _ h => h) (Or.inl ⟨by rfl, fun w2 hSw => ?_⟩) hS3 (fun hS4 => ?_)
 ·go_simp
 simp only [Act.put, lsA, lsB, lsC]
 clear hS3
 refine wpAnyL_take1 (i := 4) (oi := ⟨some 14, .load 3 (.tmp 13), 3, "operate.go:41", #[⟨3, .data⟩], none⟩) (v := .int .i64 (hh : Nat)) rfl (by decide) (by kernel_rfl) (by kernel_rfl) (by kernel_rfl) (fun _ _ _ h => h) (Or.inl ⟨by rfl, fun w2 hSw => ?_⟩) hS4 (by kernel_rfl) rfl (by kernel_rfl) (fun hS5 => ?_)
 ·obtain ⟨k1, kl, k2, k3, vl, k4, k5, k6, k7⟩ := hSw
  go_simp
 simp only [Act.put, lsA, lsB, lsC]
 clear hS4
 refine wpAnyL_take (i := 5) (oi := ⟨some 15, .nilCheck (.tmp 10), 0, "operate.go:41", #[⟨0, .data⟩], none⟩) (v := .pointer (some ⟨mb, 0, none⟩)) rfl (by decide) (by kernel_rfl) (by kernel_rfl) (by kernel_rfl) (fun _ _ _ h => h) (Or.inl ⟨by rfl, fun w2 hSw => ?_⟩) hS5 (fun hS6 => ?_)
 ·go_simp
 simp only [Act.put, lsA, lsB, lsC]
 clear hS5
 refine wpAnyL_take (i := 6) (oi := ⟨some 16, .fieldAddr 140 (.tmp 15) 7, 0, "operate.go:41", #[⟨5, .data⟩], none⟩) (v := .pointer (some ⟨mb, 277, none⟩)) rfl (by decide) (by kernel_rfl) (by kernel_rfl) (by kernel_rfl) (fun _ _ _ h => h) (Or.inl ⟨by rfl, fun w2 hSw => ?_⟩) hS6 (fun hS7 => ?_)
 ·go_simp
 simp only [Act.put, lsA, lsB, lsC]
 clear hS6
 refine wpAnyL_take (i := 7) (oi := ⟨some 17, .indexAddr 138 (.tmp 16) (.tmp 14), 0, "operate.go:41", #[⟨6, .data⟩, ⟨4, .data⟩], none⟩) (v := .pointer (some ⟨mb, 277 + hh * 2, none⟩)) rfl (by decide) (by kernel_rfl) (by kernel_rfl) (by kernel_rfl) (fun _ _ _ h => h) (Or.inl ⟨by rfl, fun w2 hSw => ?_⟩) hS7 (fun hS8 => ?_)
 ·go_simp
  intro hx
  omega
 simp only [Act.put, lsA, lsB, lsC]
 clear hS7
 refine wpAnyL_take1 (i := 8) (oi := ⟨some 18, .load 134 (.tmp 17), 134, "operate.go:41", #[⟨7, .data⟩], none⟩) (v := .agg #[.int .i64 x0, .int .u64 x1]) rfl (by decide) (by kernel_rfl) (by kernel_rfl) (by kernel_rfl) (fun _ _ _ h => h) (Or.inl ⟨by rfl, fun w2 hSw => ?_⟩) hS8 (by kernel_rfl) rfl (by kernel_rfl) (fun hS9 => ?_)
 ·obtain ⟨k1, kl, k2, k3, vl, k4, k5, k6, k7⟩ := hSw
  go_simp
 simp only [Act.put, lsA, lsB, lsC]
 clear hS8
 obtain ⟨k1, kl, k2, k3, vl, k4, k5, k6, k7⟩ := hS9.1 rfl
 clear hS9
 refine wpAnyL_one (i := 9) (o := ⟨none, .store 134 (.tmp 2) (.tmp 18), 0, "operate.go:41", #[⟨8, .data⟩, ⟨0, .phase⟩, ⟨1, .phase⟩, ⟨2, .phase⟩, ⟨3, .phase⟩, ⟨4, .phase⟩, ⟨5, .phase⟩, ⟨6, .phase⟩, ⟨7, .phase⟩, ⟨8, .phase⟩], none⟩) (by kernel_rfl) rfl (fun K hK => ?_)
 go_simp
 go_wp2_with fail
 refine hK.out _ _ ⟨fun h => (by cases (show true = false from h)), trivial⟩ ?_
 clear hK K HS9
 refine wpAnyL_done (by kernel_rfl) ?_ _
 have HX : Hid (Gm c mb (s.pop 1) w ((wz.setCell ⟨vb, 0, none⟩ (.int .i64 x0)).setCell ⟨vb, 1, none⟩ (.int .u64 x1)) ∧ ((wz.setCell ⟨vb, 0, none⟩ (.int .i64 x0)).setCell ⟨vb, 1, none⟩ (.int .u64 x1)).heap[vb]? = some (.cells #[.int .i64 x0, .int .u64 x1] 134 (0, 0))) := by
  have hb : w.heap.size ≤ vb := by rw [HVB.out.1]; exact Nat.le_refl _
  have hn : vb ≠ mb := by rw [← HVB.out.1]; exact HVB.out.2
  have g1 : w.grownBy wz (some mb) := by rw [← hwz]; exact grown_tr HP.out.2.1 (grown_below (Below.refl _ _).drew)
  have p1 : Pm c mb (s.pop 1) wz := by rw [← hwz]; exact HP.out.1.below (Below.refl _ _).drew
  have a1 : wz.heap[vb]? = some (.cells #[.int .i64 0, .int .u64 0] 134 (0, 0)) := by rw [← hwz]; exact HP.out.2.2
  have g2 := grown_tr (grown_setT wz vb 0 (.int .i64 x0)) (grown_setT _ vb 1 (.int .u64 x1))
  refine ⟨⟨p1.grown g2 (by simpa using hn), grown_up g1 g2 hb⟩, ?_⟩
  simp [World.setCell, Array.getElem?_modify, a1]
 clear HP k1 k2 k3 k4 k5 k6 k7 kl vl hwz c1 s0 s1 ml v0 v1 vf0 vf1
 have q0 := block_cell HX.out.2 0
 have q1 := block_cell HX.out.2 1
 simp at q0 q1
 have HY := hide HX.out.1
 clear HX
 go_wp2
 refine bodyPost_ret (v := .agg #[.int .i64 x0, .int .u64 x1]) (by simp [results, Tryz.results73, go_sem, q0, q1]) rfl ?_
 exact ⟨rfl, HY⟩
set_option maxRecDepth 10000 in
set_option maxHeartbeats 1600000 in
theorem takeTruthC (h : Pm c mb s w) (h0 : 0 < s.h) (hh64 : s.h ≤ 64) : Calls Tryz.prog 74 #[.pointer (some ⟨mb, 0, none⟩)] w fun e w' => e = .returned (.bool (decide (s.top 0 = 1))) ∧ Hid (Gm c mb (s.pop 1) w w') := by
 have HT := hide (takeC h h0 hh64)
 obtain ⟨x1, hx1⟩ : ∃ x1, s.top 0 = x1 := ⟨_, rfl⟩
 rw [hx1] at HT ⊢
 generalize s.sk (s.h - 1) = x0 at *
 clear h h0 hh64 hx1
 obtain ⟨b, hb⟩ : ∃ b, decide (x1 = 1) = b := ⟨_, rfl⟩
 rw [hb]
 have hb2 : (x1 == 1) = b := by rw [← hb]; rfl
 clear hb
 have hfd := fldN x0 x1
 go_enter Tryz.func74, Tryz.ntmps74
 go_wp2_with fail
 refine HT.out.mono ?_
 rintro e w1 ⟨rfl, G1⟩
 clear HT
 go_wp2
 go_ret
 exact ⟨rfl, G1⟩
set_option maxRecDepth 10000 in
set_option maxHeartbeats 1600000 in
theorem takeTwoC (h : Pm c mb s w) (h0 : 2 ≤ s.h) (hh64 : s.h ≤ 64) : Calls Tryz.prog 122 #[.pointer (some ⟨mb, 0, none⟩)] w fun e w' => e = .returned (.tuple #[.int .u64 (s.top 1), .int .u64 (s.top 0)]) ∧ Hid (Gm c mb (s.pop 2) w w') := by
 have HT := hide (takeC h (by omega) hh64)
 have HT2 : Hid (∀ w1, Gm c mb (s.pop 1) w w1 → Calls Tryz.prog 73 #[.pointer (some ⟨mb, 0, none⟩)] w1 fun e w' => e = .returned (.agg #[.int .i64 ((s.pop 1).sk ((s.pop 1).h - 1)), .int .u64 (s.top 1)]) ∧ Hid (Gm c mb (s.pop 2) w w')) := fun w1 g1 => by
  have a1 : 0 < (s.pop 1).h := by show 0 < s.h - 1; omega
  have a2 : (s.pop 1).h ≤ 64 := by show s.h - 1 ≤ 64; omega
  refine (takeC g1.1 a1 a2).mono ?_
  rintro e w2 ⟨rfl, g2⟩
  have e1 : (s.pop 1).top 0 = s.top 1 := by unfold Ms.top; show s.sv (s.h - 1 - 1 - 0) = s.sv (s.h - 1 - 1); rfl
  have e2 : (s.pop 1).pop 1 = s.pop 2 := by unfold Ms.pop; show ({ s with h := s.h - 1 - 1 } : Ms) = _; rfl
  rw [e1]
  rw [e2] at g2
  exact ⟨rfl, g1.trans g2.out⟩
 generalize s.top 0 = x1 at *
 generalize s.top 1 = x2 at *
 generalize s.sk (s.h - 1) = x0 at *
 generalize (s.pop 1).sk ((s.pop 1).h - 1) = x3 at *
 clear h h0 hh64
 have hfd := fldN x0 x1
 have hfe := fldN x3 x2
 go_enter Tryz.func122, Tryz.ntmps122
 go_wp2_with fail
 refine HT.out.mono ?_
 rintro e w1 ⟨rfl, G1⟩
 clear HT
 go_wp2_with fail
 refine (HT2.out w1 G1.out).mono ?_
 rintro e w2 ⟨rfl, G2⟩
 clear HT2 G1
 go_wp2
 refine bodyPost_ret (v := .tuple #[.int .u64 x2, .int .u64 x1]) (by simp [results, Tryz.results122, go_sem]) rfl ?_
 exact ⟨rfl, G2⟩
end
end Go.Proofs.YtggpaljilpbmhaaGreatDoor
namespace Go.Proofs.YtggpaljilpbmhaaGreatDoor
open Go.RowKit

end Go.Proofs.YtggpaljilpbmhaaGreatDoor
namespace Go.Proofs.YtggpaljilpbmhaaGreatDoor
open Go.RowKit

theorem rowC_nums (p : Pv) : ∀ n, rowC p n = nums2 p.op p.arg n
 | 0 => rfl
 | n + 1 => by rw [rowC_succ, nums2_next, rowC_nums p n]
theorem ld_fill2 {W : World} {g : Pg} {p : Pv} {rb cb : Nat} {va vb vc : Value} {ja jb jc : Nat} {xa xb xc : List Value} {w : World} (h : Lb W g p rb w) (hc : w.heap[cb]? = some (.cells #[.slice none 0 0, .slice none 0 0, .int .i64 0, .int .i64 0, .int .i64 0, .int .i64 0, .int .i64 0, .int .i64 0, .slice none 0 0] 27 (0, 0))) (ra : w.ownsRow W.heap.size 28 1 va ja xa) (rB : w.ownsRow W.heap.size 3 1 vb jb xb) (rC : w.ownsRow W.heap.size 42 2 vc jc xc) (lc : W.heap.size ≤ cb) (np : cb ≠ W.heap.size) (nr : cb ≠ rb) :
  Ld W g p rb cb va vb vc ja jb jc xa xb xc (set9 w cb va vb (.int .i64 (p.en 0)) (.int .i64 (p.en 1)) (.int .i64 (p.en 2)) (.int .i64 (p.en 3)) (.int .i64 (p.en 4)) (.int .i64 (p.en 5)) vc) := by
 have G := set9_grown w cb va vb (.int .i64 (p.en 0)) (.int .i64 (p.en 1)) (.int .i64 (p.en 2)) (.int .i64 (p.en 3)) (.int .i64 (p.en 4)) (.int .i64 (p.en 5)) vc
 exact ⟨(G.block _ (block_lt h.prg) (by simpa using fun e => np e.symm)).trans h.prg, (G.block _ (block_lt h.res) (by simpa using fun e => nr e.symm)).trans h.res, set9_at hc _ _ _ _ _ _ _ _ _, ra.kept G (.inr (own_off2 ra (by decide) hc)), rB.kept G (.inr (own_off2 rB (by decide) hc)), rC.kept G (.inr (own_off2 rC (by decide) hc)), h.bel.trans (below_of_grown G lc h.bel.size), lc, np, nr⟩
theorem Ld.po {W : World} {g : Pg} {p : Pv} {rb cb : Nat} {va vb vc : Value} {w : World} (h : Ld W g p rb cb va vb vc p.nc p.ns p.n (rowA p p.nc) (rowB p p.ns) (rowC p p.n) w) (hr : W.heap.size ≤ rb) (h1 : p.nc ≤ 256) (h2 : p.ns ≤ 128) (h3 : p.n ≤ 1024) :
  ∃ g' : Pg, va = .slice g'.ca p.nc g'.cc ∧ vb = .slice g'.sa p.ns g'.sc ∧ vc = .slice g'.ia p.n g'.ic ∧ Po W.heap.size g' p (set9 w rb va vb (.int .i64 (p.en 0)) (.int .i64 (p.en 1)) (.int .i64 (p.en 2)) (.int .i64 (p.en 3)) (.int .i64 (p.en 4)) (.int .i64 (p.en 5)) vc) ∧ Below W.heap.size W (set9 w rb va vb (.int .i64 (p.en 0)) (.int .i64 (p.en 1)) (.int .i64 (p.en 2)) (.int .i64 (p.en 3)) (.int .i64 (p.en 4)) (.int .i64 (p.en 5)) vc) := by
 have G := set9_grown w rb va vb (.int .i64 (p.en 0)) (.int .i64 (p.en 1)) (.int .i64 (p.en 2)) (.int .i64 (p.en 3)) (.int .i64 (p.en 4)) (.int .i64 (p.en 5)) vc
 have hc := h.qc
 rw [rowC_nums] at hc
 obtain ⟨g', e1, e2, e3, e4⟩ := po_mk (B := W.heap.size) (p := p) (own_offT h.qa h.res (by decide) G) (own_offT h.qb h.res (by decide) G) (own_offT hc h.res (by decide) G) h1 h2 h3
 exact ⟨g', e1, e2, e3, e4, h.bel.trans (below_of_grown G hr h.bel.size)⟩
end Go.Proofs.YtggpaljilpbmhaaGreatDoor
