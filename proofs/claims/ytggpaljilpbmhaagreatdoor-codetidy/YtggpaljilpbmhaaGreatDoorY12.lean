import Derived.Test.YtggpaljilpbmhaaGreatDoorY11
import Derived.OrdersHeld
import Derived.BigQuiet
namespace Go.Proofs.YtggpaljilpbmhaaGreatDoor
open Go.RowKit

/-- The world of form: the program's box, the result's. -/
structure Fm (W : World) (g : Pg) (p : Pv) (w : World) : Prop where
 prg : w.heap[W.heap.size]? = some (.cells (g.cs p).toArray 27 (0, 0))
 res : w.heap[W.heap.size + 1]? = some (.cells #[.slice none 0 0, .int .i64 0] 54 (0, 0))
 ok : g.Ok p W.heap.size w
 bel : Below W.heap.size W w
theorem Fm.next {W : World} {g : Pg} {p : Pv} {w w' : World} (h : Fm W g p w) (hb : Below w.heap.size w w') : Fm W g p w' :=
 ⟨(hb.block _ (block_lt h.prg)).trans h.prg, (hb.block _ (block_lt h.res)).trans h.res, h.ok.kept hb h.bel.size, h.bel.trans (hb.mono h.bel.size)⟩
theorem Fm.cells {W : World} {g : Pg} {p : Pv} {w : World} (h : Fm W g p w) : w.cell? ⟨W.heap.size, 0, none⟩ = some (.slice g.ca p.nc g.cc) ∧ w.cell? ⟨W.heap.size, 1, none⟩ = some (.slice g.sa p.ns g.sc) ∧ w.cell? ⟨W.heap.size, 2, none⟩ = some (.int .i64 (p.en 0)) ∧ w.cell? ⟨W.heap.size, 3, none⟩ = some (.int .i64 (p.en 1)) ∧ w.cell? ⟨W.heap.size, 4, none⟩ = some (.int .i64 (p.en 2)) ∧ w.cell? ⟨W.heap.size, 5, none⟩ = some (.int .i64 (p.en 3)) ∧ w.cell? ⟨W.heap.size, 6, none⟩ = some (.int .i64 (p.en 4)) ∧ w.cell? ⟨W.heap.size, 7, none⟩ = some (.int .i64 (p.en 5)) ∧ w.cell? ⟨W.heap.size, 8, none⟩ = some (.slice g.ia p.n g.ic) :=
 ⟨block_cell h.prg 0, block_cell h.prg 1, block_cell h.prg 2, block_cell h.prg 3, block_cell h.prg 4, block_cell h.prg 5, block_cell h.prg 6, block_cell h.prg 7, block_cell h.prg 8⟩
def statF (p : Pv) : Option (Int × Int) := (sizeF p).or ((slotF p).or ((entF p).or (insF p)))
end Go.Proofs.YtggpaljilpbmhaaGreatDoor
namespace Go.Proofs.YtggpaljilpbmhaaGreatDoor
open Go.RowKit

/-- A list of kinds that lies in a block of ints. -/
def KI (w : World) (v : Value) (l : List Bool) : Prop := ∃ ao cap, v = .slice ao l.length cap ∧ l.length ≤ cap ∧ (0 < l.length → ∃ (b : Nat) (cs : Array Value), ao = some ⟨b, 0, none⟩ ∧ w.heap[b]? = some (.cells cs 3 (0, 0)) ∧ ∀ (j : Nat) (x : Bool), l[j]? = some x → cs[j]? = some (iv x))
theorem KI.nil (w : World) : KI w (.slice none 0 0) [] := ⟨none, 0, rfl, Nat.le_refl _, fun h => by simp at h⟩
theorem KI.kept {w w' : World} {v : Value} {l : List Bool} (h : KI w v l) (hb : ∀ (b : Nat) (cs : Array Value), w.heap[b]? = some (.cells cs 3 (0, 0)) → w'.heap[b]? = w.heap[b]?) : KI w' v l := by
 obtain ⟨ao, cap, h1, h2, h3⟩ := h
 refine ⟨ao, cap, h1, h2, fun e => ?_⟩
 obtain ⟨b, cs, e1, e2, e3⟩ := h3 e
 exact ⟨b, cs, e1, (hb b cs e2).trans e2, e3⟩
theorem KI.below {w w' : World} {v : Value} {l : List Bool} (h : KI w v l) (hb : Below w.heap.size w w') : KI w' v l := h.kept (fun b _ e => hb.block b (block_lt e))
theorem KI.own {base : Nat} {w : World} {v : Value} {l : List Bool} (h : w.ownsRow base 3 1 v l.length (l.map iv)) : KI w v l := by
 rcases h.2 with ⟨h1, h0⟩ | ⟨g, cap, cur, h1, hb, hc, hnc, _, hsz, htk⟩
 ·have : l = [] := List.eq_nil_of_length_eq_zero h0
  subst this
  rw [h1]
  exact KI.nil w
 ·refine ⟨_, cap, h1, hnc, fun _ => ⟨g, _, rfl, hc, fun j x hx => ?_⟩⟩
  have hj := (List.getElem?_eq_some_iff.1 hx).1
  have h2 : (l.map iv)[j]? = some (iv x) := by rw [List.getElem?_map, hx]; rfl
  rw [← htk, List.getElem?_take, if_pos (by omega)] at h2
  simpa using h2
theorem KI.cell {w : World} {ao : Option Addr} {n cap : Nat} {l : List Bool} (h : KI w (.slice ao n cap) l) : n = l.length ∧ l.length ≤ cap ∧ (0 < l.length → ∃ b, ao = some ⟨b, 0, none⟩ ∧ b < w.heap.size ∧ ∀ (j : Nat) (x : Bool), l[j]? = some x → w.cell? ⟨b, j, none⟩ = some (iv x)) := by
 obtain ⟨ao', cap', h1, h2, h3⟩ := h
 cases h1
 refine ⟨rfl, h2, fun e => ?_⟩
 obtain ⟨b, cs, e1, e2, e3⟩ := h3 e
 exact ⟨b, e1, block_lt e2, fun j x hx => (block_cell e2 j).trans (e3 j x hx)⟩
theorem KI.take {w : World} {ao : Option Addr} {cap : Nat} {l : List Bool} (h : KI w (.slice ao l.length cap) l) (r : Nat) (hr : r ≤ l.length) : KI w (.slice ao r cap) (l.take r) := by
 obtain ⟨ao', cap', h1, h2, h3⟩ := h
 cases h1
 refine ⟨ao, cap, by rw [List.length_take, Nat.min_eq_left hr], by rw [List.length_take]; omega, fun e => ?_⟩
 rw [List.length_take] at e
 obtain ⟨b, cs, e1, e2, e3⟩ := h3 (by omega)
 refine ⟨b, cs, e1, e2, fun j x hx => e3 j x ?_⟩
 rw [List.getElem?_take] at hx
 split at hx
 ·exact hx
 ·cases hx
end Go.Proofs.YtggpaljilpbmhaaGreatDoor
namespace Go.Proofs.YtggpaljilpbmhaaGreatDoor
open Go.RowKit

/-- Memory grows, and only two blocks of the old ones may change. -/
structure G2w (W w : World) (a b : Nat) : Prop where
 os : w.os = W.os
 tape : w.tape = W.tape
 output : w.output = W.output
 size : W.heap.size ≤ w.heap.size
 block : ∀ k, k < W.heap.size → k ≠ a → k ≠ b → w.heap[k]? = W.heap[k]?
theorem G2w.of {W w : World} {a b : Nat} (h : Below W.heap.size W w) : G2w W w a b := ⟨h.os, h.tape, h.output, h.size, fun k hk _ _ => h.block k hk⟩
theorem G2w.trans {W w w' : World} {a b : Nat} (h : G2w W w a b) (h' : G2w w w' a b) : G2w W w' a b := ⟨h'.os.trans h.os, h'.tape.trans h.tape, h'.output.trans h.output, Nat.le_trans h.size h'.size, fun k hk n1 n2 => (h'.block k (Nat.lt_of_lt_of_le hk h.size) n1 n2).trans (h.block k hk n1 n2)⟩
theorem G2w.below {W w : World} {a b lim : Nat} (h : G2w W w a b) (ha : lim ≤ a) (hb : lim ≤ b) (hl : lim ≤ W.heap.size) : Below lim W w := ⟨h.os, h.tape, h.output, h.size, fun k hk => h.block k (by omega) (by omega) (by omega)⟩
/-- The reference's Walk as it lies, where there are instructions. -/
structure RW (lim : Nat) (w : World) (q ba bs ca cc : Nat) (g : Pg) (p : Pv) (k : Kn) : Prop where
 blk : w.heap[q]? = some (.cells #[.slice (some ⟨ba, 0, none⟩) p.n ca, .slice (some ⟨bs, 0, none⟩) p.n cc] 211 (0, 0))
 rowA : ∃ cs : Array Value, w.heap[ba]? = some (.cells cs 4 (0, 0)) ∧ ∀ j : Nat, j < p.n → cs[j]? = some (.bool (k j).isSome)
 rowB : ∃ cs : Array Value, w.heap[bs]? = some (.cells cs 23 (0, 0)) ∧ ∀ j : Nat, j < p.n → ∃ v, cs[j]? = some v ∧ KI w v (kin (k j))
 ok : g.Ok p lim w
 lq : lim ≤ q
 la : lim ≤ ba
 lb : lim ≤ bs
 hca : p.n ≤ ca
 hcc : p.n ≤ cc
section
variable {lim : Nat} {W W' : World} {q ba bs ca cc : Nat} {g : Pg} {p : Pv} {k : Kn}
theorem RW.le (h : RW lim W q ba bs ca cc g p k) : lim ≤ W.heap.size := by
 have := block_lt h.blk
 have := h.lq
 omega
theorem RW.kept (h : RW lim W q ba bs ca cc g p k) (hB : Below W.heap.size W W') : RW lim W' q ba bs ca cc g p k := by
 obtain ⟨c1, a1, a2⟩ := h.rowA
 obtain ⟨c2, b1, b2⟩ := h.rowB
 refine ⟨(hB.block _ (block_lt h.blk)).trans h.blk, ⟨c1, (hB.block _ (block_lt a1)).trans a1, a2⟩, ⟨c2, (hB.block _ (block_lt b1)).trans b1, fun j hj => ?_⟩, h.ok.kept hB h.le, h.lq, h.la, h.lb, h.hca, h.hcc⟩
 obtain ⟨v, e1, e2⟩ := b2 j hj
 exact ⟨v, e1, e2.below hB⟩
theorem RW.int (h : RW lim W q ba bs ca cc g p k) {b : Nat} {cs : Array Value} (e : W.heap[b]? = some (.cells cs 3 (0, 0))) : b ≠ ba ∧ b ≠ bs := by
 obtain ⟨c1, a1, a2⟩ := h.rowA
 obtain ⟨c2, b1, b2⟩ := h.rowB
 constructor
 ·intro x
  rw [x, a1] at e
  simp at e
 ·intro x
  rw [x, b1] at e
  simp at e
theorem G2w.int (hg : G2w W W' ba bs) (h : RW lim W q ba bs ca cc g p k) {b : Nat} {cs : Array Value} (e : W.heap[b]? = some (.cells cs 3 (0, 0))) : W'.heap[b]? = W.heap[b]? :=
 hg.block b (block_lt e) (h.int e).1 (h.int e).2
theorem RW.at_ (h : RW lim W q ba bs ca cc g p k) (d : Nat) (hd : d < p.n) : W.cell? ⟨q, 0, none⟩ = some (.slice (some ⟨ba, 0, none⟩) p.n ca) ∧ W.cell? ⟨q, 1, none⟩ = some (.slice (some ⟨bs, 0, none⟩) p.n cc) ∧ q < W.heap.size ∧ W.cell? ⟨ba, d, none⟩ = some (.bool (k d).isSome) ∧ W.frozen? ⟨ba, d, none⟩ = false ∧ ba < W.heap.size ∧ bs < W.heap.size ∧ ∃ v, W.cell? ⟨bs, d, none⟩ = some v ∧ KI W v (kin (k d)) := by
 obtain ⟨c1, a1, a2⟩ := h.rowA
 obtain ⟨c2, b1, b2⟩ := h.rowB
 obtain ⟨v, e1, e2⟩ := b2 d hd
 exact ⟨block_cell h.blk 0, block_cell h.blk 1, block_lt h.blk, (block_cell a1 d).trans (a2 d hd), block_free a1 d, block_lt a1, block_lt b1, v, (block_cell b1 d).trans e1, e2⟩
end
end Go.Proofs.YtggpaljilpbmhaaGreatDoor
