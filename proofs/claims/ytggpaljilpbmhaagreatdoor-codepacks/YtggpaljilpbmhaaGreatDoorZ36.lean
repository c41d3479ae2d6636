import Derived.Test.YtggpaljilpbmhaaGreatDoorZ26
import Derived.Test.YtggpaljilpbmhaaGreatDoorZ32
namespace Go.Proofs.YtggpaljilpbmhaaGreatDoor
open Go.RowKit

/-- A program of new memory. -/
structure Po (B : Nat) (g : Pg) (p : Pv) (w : World) : Prop where
 c : w.ownsRow B 28 1 (.slice g.ca p.nc g.cc) p.nc (nums .u64 p.C p.nc)
 s : w.ownsRow B 3 1 (.slice g.sa p.ns g.sc) p.ns (nums .i64 p.S p.ns)
 i : Irow w B (.slice g.ia p.n g.ic) p.n p.op p.arg
 ok : g.Ok p w.heap.size w
theorem own_low {w : World} {B B' n sz : Nat} {t : TypeId} {v : Value} {xs : List Value} (h : w.ownsRow B' t sz v n xs) (hb : B ≤ B') : w.ownsRow B t sz v n xs := by
 refine ⟨h.1, ?_⟩
 rcases h.2 with q | ⟨g, cap, cur, q1, q2, q3⟩
 ·exact .inl q
 ·exact .inr ⟨g, cap, cur, q1, by omega, q3⟩
def blkOfA (a : Option Addr) : Nat := match a with
 | some x => x.block
 | none => 0
/-- A program out of its rows. -/
theorem po_mk {B : Nat} {p : Pv} {w : World} {vc vs vi : Value} (hc : w.ownsRow B 28 1 vc p.nc (nums .u64 p.C p.nc)) (hs : w.ownsRow B 3 1 vs p.ns (nums .i64 p.S p.ns)) (hi : Irow w B vi p.n p.op p.arg) (h1 : p.nc ≤ 256) (h2 : p.ns ≤ 128) (h3 : p.n ≤ 1024) :
  ∃ g : Pg, vc = .slice g.ca p.nc g.cc ∧ vs = .slice g.sa p.ns g.sc ∧ vi = .slice g.ia p.n g.ic ∧ Po B g p w := by
 obtain ⟨ca, cc, rfl, kc⟩ : ∃ ca cc, vc = .slice ca p.nc cc ∧ (0 < p.nc → ca = some ⟨blkOfA ca, 0, none⟩ ∧ blkOfA ca < w.heap.size) ∧ ∀ j, j < p.nc → w.cell? ⟨blkOfA ca, 0 + j, none⟩ = some (.int .u64 (p.C j)) := by
  rcases hc.2 with ⟨rfl, h0⟩ | ⟨g, cap, cur, rfl, _, hq, _⟩
  ·rw [h0]
   exact ⟨none, 0, rfl, fun h => by omega, fun j hj => by omega⟩
  ·refine ⟨_, cap, rfl, fun _ => ⟨rfl, block_lt hq⟩, fun j hj => ?_⟩
   have := hc.cellAt j (by omega)
   rw [Nat.zero_add]
   refine this.trans ?_
   simp [nums, hj]
 obtain ⟨sa, sc, rfl, ks⟩ : ∃ ca cc, vs = .slice ca p.ns cc ∧ (0 < p.ns → ca = some ⟨blkOfA ca, 0, none⟩ ∧ blkOfA ca < w.heap.size) ∧ ∀ j, j < p.ns → w.cell? ⟨blkOfA ca, 0 + j, none⟩ = some (.int .i64 (p.S j)) := by
  rcases hs.2 with ⟨rfl, h0⟩ | ⟨g, cap, cur, rfl, _, hq, _⟩
  ·rw [h0]
   exact ⟨none, 0, rfl, fun h => by omega, fun j hj => by omega⟩
  ·refine ⟨_, cap, rfl, fun _ => ⟨rfl, block_lt hq⟩, fun j hj => ?_⟩
   have := hs.cellAt j (by omega)
   rw [Nat.zero_add]
   refine this.trans ?_
   simp [nums, hj]
 obtain ⟨ia, ic, rfl, _, ki⟩ := irow_val hi
 refine ⟨⟨ca, sa, ia, cc, sc, ic, blkOfA ca, 0, blkOfA sa, 0, blkOfA ia, 0⟩, rfl, rfl, rfl, hc, hs, hi, kc.1, ks.1, fun h => ?_, kc.2, ks.2, fun j hj => ?_, fun j hj => ?_, by omega, by omega, by omega⟩
 ·obtain ⟨g, rfl, _, h2, _⟩ := ki h
  exact ⟨rfl, h2⟩
 ·obtain ⟨g, rfl, _, _, h2⟩ := ki (by omega)
  rw [Nat.zero_add]
  exact (h2 j hj).1
 ·obtain ⟨g, rfl, _, _, h2⟩ := ki (by omega)
  rw [Nat.zero_add]
  exact (h2 j hj).2.1
theorem own_keep {w w' : World} {B n sz : Nat} {t : TypeId} {v : Value} {xs : List Value} (h : w.ownsRow B t sz v n xs) (hb : Below w.heap.size w w') : w'.ownsRow B t sz v n xs :=
 World.ownsRow.kept (row := none) h ⟨hb.os, hb.tape, hb.output, hb.size, fun k hk _ => hb.block k hk⟩ (by cases hv : v.ownBlock <;> simp)
theorem own_offT {w w' : World} {B n sz : Nat} {t t' : TypeId} {v : Value} {xs : List Value} (h : w.ownsRow B t sz v n xs) {q : Nat} {cs : Array Value} {z : Nat × Nat} (hq : w.heap[q]? = some (.cells cs t' z)) (ht : t' ≠ t) (hg : w.grownBy w' (some q)) : w'.ownsRow B t sz v n xs := by
 refine World.ownsRow.kept h hg ?_
 rcases h.2 with ⟨rfl, _⟩ | ⟨g, cap, cur, rfl, _, hc, _⟩
 ·exact .inl rfl
 ·right
  intro e
  simp [Value.ownBlock] at e
  subst e
  rw [hc] at hq
  cases hq
  exact ht rfl
/-- A program that is stored whole: CwB's set9. -/
theorem set9_blk {w : World} {q : Nat} {cs : Array Value} {t : TypeId} {z : Nat × Nat} (h : w.heap[q]? = some (.cells cs t z)) (hc : cs.size = 9) (v0 v1 v2 v3 v4 v5 v6 v7 v8 : Value) : (set9 w q v0 v1 v2 v3 v4 v5 v6 v7 v8).heap[q]? = some (.cells #[v0, v1, v2, v3, v4, v5, v6, v7, v8] t z) ∧ w.grownBy (set9 w q v0 v1 v2 v3 v4 v5 v6 v7 v8) (some q) := by
 constructor
 ·obtain ⟨l⟩ := cs
  match l, hc with
  | [_, _, _, _, _, _, _, _, _], _ => simp [set9, World.setCell, Array.getElem?_modify, h]
 ·unfold set9
  exact grown_tr (grown_tr (grown_tr (grown_tr (grown_tr (grown_tr (grown_tr (grown_tr (grown_setT _ q 0 _) (grown_setT _ q 1 _)) (grown_setT _ q 2 _)) (grown_setT _ q 3 _)) (grown_setT _ q 4 _)) (grown_setT _ q 5 _)) (grown_setT _ q 6 _)) (grown_setT _ q 7 _)) (grown_setT _ q 8 _)
end Go.Proofs.YtggpaljilpbmhaaGreatDoor
namespace Go.Proofs.YtggpaljilpbmhaaGreatDoor
open Go.RowKit

/-- Where a row that is owned lies. -/
theorem own_place {w : World} {B n sz cap b off : Nat} {t : TypeId} {ao : Option Addr} {xs : List Value} (h : w.ownsRow B t sz (.slice ao n cap) n xs) (ha : ao = some ⟨b, off, none⟩) : off = 0 ∧ b < w.heap.size ∧ ∀ j, j < n * sz → w.cell? ⟨b, off + j, none⟩ = xs[j]? := by
 subst ha
 rcases h.2 with ⟨e, _⟩ | ⟨gb, cp, cur, e, _⟩
 ·cases e
 ·cases e
  refine ⟨rfl, (h.lt b rfl).2, fun j hj => ?_⟩
  rw [Nat.zero_add]
  exact h.cellAt j hj
theorem Po.remake {B : Nat} {g : Pg} {p p' : Pv} {w w' : World} (h : Po B g p w) (e1 : p'.nc = p.nc) (e2 : p'.ns = p.ns) (e3 : p'.n = p.n) (hc : w'.ownsRow B 28 1 (.slice g.ca p'.nc g.cc) p'.nc (nums .u64 p'.C p'.nc)) (hs : w'.ownsRow B 3 1 (.slice g.sa p'.ns g.sc) p'.ns (nums .i64 p'.S p'.ns)) (hi : Irow w' B (.slice g.ia p'.n g.ic) p'.n p'.op p'.arg) : Po B g p' w' := by
 have kc : 0 < p'.nc → g.ca = some ⟨g.cb, g.co, none⟩ := fun e => (h.ok.hc (by omega)).1
 have ks : 0 < p'.ns → g.sa = some ⟨g.sb, g.so, none⟩ := fun e => (h.ok.hs (by omega)).1
 have ki : 0 < p'.n → g.ia = some ⟨g.ib, g.io, none⟩ := fun e => (h.ok.hi (by omega)).1
 refine ⟨hc, hs, hi, fun e => ⟨kc e, (own_place hc (kc e)).2.1⟩, fun e => ⟨ks e, (own_place hs (ks e)).2.1⟩, fun e => ⟨ki e, (own_place hi (ki e)).2.1⟩, fun j hj => ?_, fun j hj => ?_, fun j hj => ?_, fun j hj => ?_, by rw [e1]; exact h.ok.lc, by rw [e2]; exact h.ok.ls, by rw [e3]; exact h.ok.li⟩
 ·rw [(own_place hc (kc (by omega))).2.2 j (by omega)]
  simp [nums, hj]
 ·rw [(own_place hs (ks (by omega))).2.2 j (by omega)]
  simp [nums, hj]
 ·rw [(own_place hi (ki (by omega))).2.2 (j * 2) (by omega)]
  exact nums2_o hj
 ·have := (own_place hi (ki (by omega))).2.2 (j * 2 + 1) (by omega)
  rw [← Nat.add_assoc] at this
  rw [this]
  exact nums2_a hj
theorem Po.low {B B' : Nat} {g : Pg} {p : Pv} {w : World} (h : Po B' g p w) (hb : B ≤ B') : Po B g p w := ⟨own_low h.c hb, own_low h.s hb, own_low h.i hb, h.ok⟩
theorem Po.next {B : Nat} {g : Pg} {p : Pv} {w w' : World} (h : Po B g p w) (hb : Below w.heap.size w w') : Po B g p w' := h.remake rfl rfl rfl (own_keep h.c hb) (own_keep h.s hb) (own_keep h.i hb)
/-- A store elsewhere. -/
theorem Po.off {B : Nat} {g : Pg} {p : Pv} {w w' : World} (h : Po B g p w) {q : Nat} {cs : Array Value} {t : TypeId} {z : Nat × Nat} (hq : w.heap[q]? = some (.cells cs t z)) (h1 : t ≠ 28) (h2 : t ≠ 3) (h3 : t ≠ 42) (hg : w.grownBy w' (some q)) : Po B g p w' :=
 h.remake rfl rfl rfl (own_offT h.c hq h1 hg) (own_offT h.s hq h2 hg) (own_offT h.i hq h3 hg)
/-- What reached answers. -/
def Rc (W : World) (p : Pv) (r : Except (Int × Int) Kn) (e : Ending) (w' : World) : Prop := match r with
 | .ok k => ∃ g', e = .returned (.tuple #[.agg (g'.cs (cutF p (kOf k))).toArray, .nilIface]) ∧ Hid (Po W.heap.size g' (cutF p (kOf k)) w' ∧ Below W.heap.size W w')
 | .error (a, y) => ∃ g, e = .returned (.tuple #[.agg zP, .iface 74 (.pointer (some ⟨g, 0, none⟩))]) ∧ Hid (Ft w'.heap.size w' (.iface 74 (.pointer (some ⟨g, 0, none⟩))) a y ∧ Below W.heap.size W w')
end Go.Proofs.YtggpaljilpbmhaaGreatDoor
namespace Go.Proofs.YtggpaljilpbmhaaGreatDoor
open Go.RowKit

/-- The row while its ways are shortened. -/
structure Sw (W : World) (B : Nat) (p : Pv) (gb cap : Nat) (a : Nat → Int) (w : World) : Prop where
 row : Irow w B (.slice (some ⟨gb, 0, none⟩) p.n cap) p.n p.op a
 tab : Tab w
 bel : Below B W w
 gr : W.grownBy w (some gb)
theorem Sw.set {W : World} {B : Nat} {p : Pv} {gb cap : Nat} {a a' : Nat → Int} {w : World} {j : Nat} {x : Int} (h : Sw W B p gb cap a w) (hj : j < p.n) (hz : 10 < B) (ha : ∀ y, y < p.n → (if y = j then x else a y) = a' y) : Sw W B p gb cap a' (w.setCell ⟨gb, j * 2 + 1, none⟩ (.int .i64 x)) := by
 have hg := grown_setT w gb (j * 2 + 1) (.int .i64 x)
 have hb : Below B w (w.setCell ⟨gb, j * 2 + 1, none⟩ (.int .i64 x)) := (Below.refl _ w).setCell (p := ⟨gb, j * 2 + 1, none⟩) (World.ownsRow.lt h.row gb rfl).1 _
 exact ⟨irow_congr (irow_set h.row hj) (fun _ _ => rfl) ha, h.tab.below hb hz, h.bel.trans hb, grown_tr h.gr hg⟩
theorem Sw.congr {W : World} {B : Nat} {p : Pv} {gb cap : Nat} {a a' : Nat → Int} {w : World} (h : Sw W B p gb cap a w) (ha : ∀ y, y < p.n → a y = a' y) : Sw W B p gb cap a' w := ⟨irow_congr h.row (fun _ _ => rfl) ha, h.tab, h.bel, h.gr⟩
theorem Sw.cells {W : World} {B : Nat} {p : Pv} {gb cap : Nat} {a : Nat → Int} {w : World} (h : Sw W B p gb cap a w) : p.n ≤ cap ∧ (∀ j, j < p.n → w.cell? ⟨gb, j * 2, none⟩ = some (.int .i64 (p.op j)) ∧ w.cell? ⟨gb, j * 2 + 1, none⟩ = some (.int .i64 (a j)) ∧ w.frozen? ⟨gb, j * 2 + 1, none⟩ = false) ∧ (0 < p.n → gb < w.heap.size) := by
 obtain ⟨_, _, e, h1, h2⟩ := irow_val h.row
 cases e
 refine ⟨h1, fun j hj => ?_, fun hn => ?_⟩
 ·obtain ⟨_, e, _, _, h3⟩ := h2 (by omega)
  cases e
  exact h3 j hj
 ·obtain ⟨_, e, _, h3, _⟩ := h2 hn
  cases e
  exact h3
end Go.Proofs.YtggpaljilpbmhaaGreatDoor
namespace Go.Proofs.YtggpaljilpbmhaaGreatDoor
open Go.RowKit

end Go.Proofs.YtggpaljilpbmhaaGreatDoor
namespace Go.Proofs.YtggpaljilpbmhaaGreatDoor
open Go.RowKit

/-- Taking out idle jumps: the program that is left. -/
structure Wi (W : World) (B : Nat) (p : Pv) (g : Pg) (q : Pv) (f : Nat) (w : World) : Prop where
 pb : w.heap[W.heap.size]? = some (.cells (g.cs q).toArray 27 (0, 0))
 rb : w.heap[W.heap.size + 1]? = some (.cells zP 27 (0, 0))
 po : Po B g q w
 wf : Wf q
 eq : idleF f q = idleF p.n p
 le : q.n ≤ f
 tab : Tab w
 bel : Below W.heap.size W w
 lb : B ≤ W.heap.size
 z : 10 < W.heap.size
theorem Wi.next {W : World} {B : Nat} {p : Pv} {g : Pg} {q : Pv} {f : Nat} {w w' : World} (h : Wi W B p g q f w) (hb : Below w.heap.size w w') : Wi W B p g q f w' :=
 ⟨(hb.block _ (block_lt h.pb)).trans h.pb, (hb.block _ (block_lt h.rb)).trans h.rb, h.po.next hb, h.wf, h.eq, h.le, h.tab.below hb h.tab.z, h.bel.trans (hb.mono h.bel.size), h.lb, h.z⟩
end Go.Proofs.YtggpaljilpbmhaaGreatDoor
namespace Go.Proofs.YtggpaljilpbmhaaGreatDoor
open Go.RowKit

end Go.Proofs.YtggpaljilpbmhaaGreatDoor
namespace Go.Proofs.YtggpaljilpbmhaaGreatDoor
open Go.RowKit

/-- A program with other arguments. -/
def pA (p : Pv) (a : Nat → Int) : Pv := ⟨p.nc, p.ns, p.n, p.C, p.S, p.en, p.op, a⟩
/-- The constants that are used: under way. -/
structure Tr (W : World) (B : Nat) (g : Pg) (p : Pv) (j mb : Nat) (v : Value) (a : Nat → Int) (w : World) : Prop where
 pb : w.heap[W.heap.size]? = some (.cells (g.cs p).toArray 27 (0, 0))
 mo : ∃ ms : Array Value, w.heap[mb]? = some (.cells ms 3 (0, 0)) ∧ ms.size = p.nc ∧ ∀ i, i < j → ms[i]? = some (.int .i64 ((cnt (usd p) i : Nat) : Int))
 mn : W.heap.size ≤ mb
 us : w.ownsRow W.heap.size 28 1 v (cnt (usd p) j) (nums .u64 (fun x => p.C (sel (usd p) p.nc x)) (cnt (usd p) j))
 po : Po B g (pA p a) w
 far : (∀ x, (Value.slice g.ca p.nc g.cc).ownBlock = some x → x < W.heap.size) ∧ (∀ x, (Value.slice g.sa p.ns g.sc).ownBlock = some x → x < W.heap.size) ∧ (∀ x, (Value.slice g.ia p.n g.ic).ownBlock = some x → x < W.heap.size)
 bel : Below B W w
 sz : W.heap.size ≤ w.heap.size
 lb : B ≤ W.heap.size
/-- Rows that lie below stay, whatever turns above. -/
theorem own_farJ {w w' : World} {B n sz k : Nat} {t : TypeId} {v : Value} {xs : List Value} (h : w.ownsRow B t sz v n xs) (ha : ∀ x, v.ownBlock = some x → x < k) {row : Option Nat} (hg : w.grownBy w' row) (hr : ∀ x, row = some x → k ≤ x) : w'.ownsRow B t sz v n xs := by
 refine World.ownsRow.kept h hg ?_
 cases e : v.ownBlock with
 | none => exact .inl rfl
 | some x =>
  right
  intro q
  have h1 := ha x e
  have h2 := hr x q.symm
  omega
theorem Po.far {w w' : World} {B k : Nat} {g : Pg} {p : Pv} (h : Po B g p w) (hc : ∀ x, (Value.slice g.ca p.nc g.cc).ownBlock = some x → x < k) (hs : ∀ x, (Value.slice g.sa p.ns g.sc).ownBlock = some x → x < k) (hi : ∀ x, (Value.slice g.ia p.n g.ic).ownBlock = some x → x < k) {row : Option Nat} (hg : w.grownBy w' row) (hr : ∀ x, row = some x → k ≤ x) : Po B g p w' :=
 h.remake rfl rfl rfl (own_farJ h.c hc hg hr) (own_farJ h.s hs hg hr) (own_farJ h.i hi hg hr)
theorem Tr.next {W : World} {B : Nat} {g : Pg} {p : Pv} {j mb : Nat} {v : Value} {a : Nat → Int} {w w' : World} (h : Tr W B g p j mb v a w) (hb : Below w.heap.size w w') : Tr W B g p j mb v a w' := by
 obtain ⟨ms, q1, q2⟩ := h.mo
 exact ⟨(hb.block _ (block_lt h.pb)).trans h.pb, ⟨ms, (hb.block _ (block_lt q1)).trans q1, q2⟩, h.mn, own_keep h.us hb, h.po.next hb, h.far, h.bel.trans (hb.mono (Nat.le_trans h.lb h.sz)), Nat.le_trans h.sz hb.size, h.lb⟩
theorem Tr.move {W : World} {B : Nat} {g : Pg} {p : Pv} {j mb : Nat} {v : Value} {a : Nat → Int} {w : World} (h : Tr W B g p j mb v a w) (hj : j < p.nc) : (∃ ms : Array Value, (w.setCell ⟨mb, j, none⟩ (.int .i64 ((cnt (usd p) j : Nat) : Int))).heap[mb]? = some (.cells ms 3 (0, 0)) ∧ ms.size = p.nc ∧ ∀ i, i < j + 1 → ms[i]? = some (.int .i64 ((cnt (usd p) i : Nat) : Int))) ∧ Tr W B g p j mb v a (w.setCell ⟨mb, j, none⟩ (.int .i64 ((cnt (usd p) j : Nat) : Int))) := by
 obtain ⟨ms, q1, q2, q3⟩ := h.mo
 have hg := grown_setT w mb j (.int .i64 ((cnt (usd p) j : Nat) : Int))
 have ne1 : W.heap.size ≠ mb := fun x => by have := h.pb; rw [x, q1] at this; cases this
 have hb : Below B w (w.setCell ⟨mb, j, none⟩ (.int .i64 ((cnt (usd p) j : Nat) : Int))) := (Below.refl _ w).setCell (p := ⟨mb, j, none⟩) (Nat.le_trans h.lb h.mn) _
 have hm : (w.setCell ⟨mb, j, none⟩ (.int .i64 ((cnt (usd p) j : Nat) : Int))).heap[mb]? = some (.cells (ms.setIfInBounds j (.int .i64 ((cnt (usd p) j : Nat) : Int))) 3 (0, 0)) := by simp [World.setCell, Array.getElem?_modify, q1]
 have hv : ∀ i, i < j + 1 → (ms.setIfInBounds j (.int .i64 ((cnt (usd p) j : Nat) : Int)))[i]? = some (.int .i64 ((cnt (usd p) i : Nat) : Int)) := fun i hi => by
  by_cases eq : i = j
  ·subst eq
   simp [q2, hj]
  ·rw [Array.getElem?_setIfInBounds_ne (fun x => eq x.symm)]
   exact q3 i (by omega)
 refine ⟨⟨_, hm, by simpa using q2, hv⟩, (hg.block _ (block_lt h.pb) (by simpa using ne1)).trans h.pb, ⟨_, hm, by simpa using q2, fun i hi => hv i (by omega)⟩, h.mn, own_offT h.us q1 (by decide) hg, h.po.far h.far.1 h.far.2.1 h.far.2.2 hg (fun x hx => by cases hx; exact h.mn), h.far, h.bel.trans hb, Nat.le_trans h.sz hg.size, h.lb⟩
/-- A constant is kept or not. -/
theorem Tr.skip {W : World} {B : Nat} {g : Pg} {p : Pv} {j mb : Nat} {v : Value} {a : Nat → Int} {w : World} (h : Tr W B g p j mb v a w) (hm : ∃ ms : Array Value, w.heap[mb]? = some (.cells ms 3 (0, 0)) ∧ ms.size = p.nc ∧ ∀ i, i < j + 1 → ms[i]? = some (.int .i64 ((cnt (usd p) i : Nat) : Int))) (hk : usd p j = false) : Tr W B g p (j + 1) mb v a w := by
 have e : cnt (usd p) (j + 1) = cnt (usd p) j := by show cnt (usd p) j + (if usd p j then 1 else 0) = _; rw [hk]; rfl
 exact ⟨h.pb, hm, h.mn, by rw [e]; exact h.us, h.po, h.far, h.bel, h.sz, h.lb⟩
theorem Tr.app {W : World} {B : Nat} {g : Pg} {p : Pv} {j mb : Nat} {v v' : Value} {a : Nat → Int} {w w' : World} (h : Tr W B g p j mb v a w) (hm : ∃ ms : Array Value, w.heap[mb]? = some (.cells ms 3 (0, 0)) ∧ ms.size = p.nc ∧ ∀ i, i < j + 1 → ms[i]? = some (.int .i64 ((cnt (usd p) i : Nat) : Int))) (hj : j < p.nc) (hk : usd p j = true) (hg : w.grownBy w' v.ownBlock) (ho : w'.ownsRow W.heap.size 28 1 v' (cnt (usd p) j + 1) (nums .u64 (fun x => p.C (sel (usd p) p.nc x)) (cnt (usd p) j) ++ [.int .u64 (p.C j)])) : Tr W B g p (j + 1) mb v' a w' := by
 obtain ⟨ms, q1, q2⟩ := hm
 have off : ∀ (q : Nat) (cs : Array Value) (t : TypeId), w.heap[q]? = some (.cells cs t (0, 0)) → t ≠ 28 → w'.heap[q]? = w.heap[q]? := fun q cs t hq ht => by
  refine hg.block q (block_lt hq) (fun x => ?_)
  rcases h.us.2 with ⟨rfl, _⟩ | ⟨g', cap, cur, rfl, _, hc, _⟩
  ·cases x
  ·simp [Value.ownBlock] at x
   subst x
   rw [hc] at hq
   cases hq
   exact ht rfl
 refine ⟨(off _ _ _ h.pb (by decide)).trans h.pb, ⟨ms, (off _ _ _ q1 (by decide)).trans q1, q2⟩, h.mn, ?_, h.po.far h.far.1 h.far.2.1 h.far.2.2 hg (fun x hx => (h.us.lt x hx).1), h.far, h.bel.trans ((Below.refl _ w).grown hg (Nat.le_trans h.lb h.sz) (fun x hx => Nat.le_trans h.lb (h.us.lt x hx).1)), Nat.le_trans h.sz hg.size, h.lb⟩
 rw [cnt_next hk, nums_next, sel_cnt hj hk]
 exact ho
theorem Tr.arg {W : World} {B : Nat} {g : Pg} {p : Pv} {j mb : Nat} {v : Value} {a a' : Nat → Int} {w : World} {gb i : Nat} {x : Int} (h : Tr W B g p j mb v a w) (hia : g.ia = some ⟨gb, 0, none⟩) (hi : i < p.n) (ha : ∀ y, y < p.n → (if y = i then x else a y) = a' y) : Tr W B g p j mb v a' (w.setCell ⟨gb, i * 2 + 1, none⟩ (.int .i64 x)) := by
 obtain ⟨ms, q1, q2⟩ := h.mo
 have hg := grown_setT w gb (i * 2 + 1) (.int .i64 x)
 have hrow : Irow w B (.slice (some ⟨gb, 0, none⟩) p.n g.ic) p.n p.op a := by have := h.po.i; rw [hia] at this; exact this
 obtain ⟨cur, hq⟩ : ∃ cur, w.heap[gb]? = some (.cells cur 42 (0, 0)) := by
  rcases hrow.2 with ⟨e, _⟩ | ⟨g', cap, cur, e, _, hc, _⟩
  ·cases e
  ·cases e; exact ⟨cur, hc⟩
 have hlt := World.ownsRow.lt hrow gb rfl
 have off : ∀ (q : Nat) (cs : Array Value) (t : TypeId), w.heap[q]? = some (.cells cs t (0, 0)) → t ≠ 42 → (w.setCell ⟨gb, i * 2 + 1, none⟩ (.int .i64 x)).heap[q]? = w.heap[q]? := fun q cs t hqq ht => by
  refine hg.block q (block_lt hqq) (fun e => ?_)
  cases e
  rw [hq] at hqq
  cases hqq
  exact ht rfl
 have hb : Below B w (w.setCell ⟨gb, i * 2 + 1, none⟩ (.int .i64 x)) := (Below.refl _ w).setCell (p := ⟨gb, i * 2 + 1, none⟩) hlt.1 _
 refine ⟨(off _ _ _ h.pb (by decide)).trans h.pb, ⟨ms, (off _ _ _ q1 (by decide)).trans q1, q2⟩, h.mn, own_offT h.us hq (by decide) hg, ?_, h.far, h.bel.trans hb, Nat.le_trans h.sz hg.size, h.lb⟩
 refine h.po.remake (p' := pA p a') rfl rfl rfl (own_offT h.po.c hq (by decide) hg) (own_offT h.po.s hq (by decide) hg) ?_
 show Irow _ B (.slice g.ia p.n g.ic) p.n p.op a'
 rw [hia]
 exact irow_congr (irow_set hrow hi) (fun _ _ => rfl) ha
theorem Tr.congr {W : World} {B : Nat} {g : Pg} {p : Pv} {j mb : Nat} {v : Value} {a a' : Nat → Int} {w : World} (h : Tr W B g p j mb v a w) (ha : ∀ y, y < p.n → a y = a' y) : Tr W B g p j mb v a' w :=
 ⟨h.pb, h.mo, h.mn, h.us, h.po.remake (p' := pA p a') rfl rfl rfl h.po.c h.po.s (irow_congr h.po.i (fun _ _ => rfl) ha), h.far, h.bel, h.sz, h.lb⟩
theorem Tr.cells {W : World} {B : Nat} {g : Pg} {p : Pv} {j mb : Nat} {v : Value} {a : Nat → Int} {w : World} (h : Tr W B g p j mb v a w) : w.cell? ⟨W.heap.size, 0, none⟩ = some (.slice g.ca p.nc g.cc) ∧ w.cell? ⟨W.heap.size, 8, none⟩ = some (.slice g.ia p.n g.ic) ∧ W.heap.size < w.heap.size :=
 ⟨block_cell h.pb 0, block_cell h.pb 8, block_lt h.pb⟩
end Go.Proofs.YtggpaljilpbmhaaGreatDoor
namespace Go.Proofs.YtggpaljilpbmhaaGreatDoor
open Go.RowKit

end Go.Proofs.YtggpaljilpbmhaaGreatDoor
namespace Go.Proofs.YtggpaljilpbmhaaGreatDoor
open Go.RowKit

/-- Tidying under way: the boxes, the program. -/
structure Ty (W : World) (B : Nat) (g : Pg) (p : Pv) (w : World) : Prop where
 pb : w.heap[W.heap.size]? = some (.cells (g.cs p).toArray 27 (0, 0))
 rb : w.heap[W.heap.size + 1]? = some (.cells zP 27 (0, 0))
 po : Po B g p w
 tab : Tab w
 bel : Below W.heap.size W w
 lb : B ≤ w.heap.size
 hB : W.heap.size + 2 = B
 z : 10 < W.heap.size
/-- The program is replaced. -/
theorem Ty.put {W : World} {B : Nat} {g : Pg} {p : Pv} {w w' : World} {cs : Array Value} (hp : w.heap[W.heap.size]? = some (.cells cs 27 (0, 0))) (hc : cs.size = 9) (hr : w.heap[W.heap.size + 1]? = some (.cells zP 27 (0, 0))) (hpo : Po B g p w) (hT : Tab w) (hb : Below W.heap.size W w) (hl : B ≤ w.heap.size) (hB : W.heap.size + 2 = B) (hz : 10 < W.heap.size)
  (hwf : set9 w W.heap.size (.slice g.ca p.nc g.cc) (.slice g.sa p.ns g.sc) (.int .i64 (p.en 0)) (.int .i64 (p.en 1)) (.int .i64 (p.en 2)) (.int .i64 (p.en 3)) (.int .i64 (p.en 4)) (.int .i64 (p.en 5)) (.slice g.ia p.n g.ic) = w') : Ty W B g p w' := by
 obtain ⟨q1, q2⟩ := set9_blk hp hc (.slice g.ca p.nc g.cc) (.slice g.sa p.ns g.sc) (.int .i64 (p.en 0)) (.int .i64 (p.en 1)) (.int .i64 (p.en 2)) (.int .i64 (p.en 3)) (.int .i64 (p.en 4)) (.int .i64 (p.en 5)) (.slice g.ia p.n g.ic)
 rw [hwf] at q1 q2
 have bw : Below W.heap.size w w' := (Below.refl _ w).grown q2 (by omega) (fun x hx => by cases hx; omega)
 exact ⟨q1, (q2.block _ (block_lt hr) (by simp)).trans hr, hpo.off hp (by decide) (by decide) (by decide) q2, hT.below bw hz, hb.trans bw, Nat.le_trans hl q2.size, hB, hz⟩
end Go.Proofs.YtggpaljilpbmhaaGreatDoor
namespace Go.Proofs.YtggpaljilpbmhaaGreatDoor
open Go.RowKit

end Go.Proofs.YtggpaljilpbmhaaGreatDoor
