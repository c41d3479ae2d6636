import Derived.Test.YtggpaljilpbmhaaGreatDoorW08
import Derived.Lib.OthersKept
import Derived.BigQuiet
import Derived.OrdersHeld
namespace Go.Proofs.YtggpaljilpbmhaaGreatDoor
open Go.RowKit

def iv (b : Bool) : Value := .int .i64 (if b then 1 else 0)
/-- A list of kinds that is shown. -/
def KL (lim : Nat) (w : World) (v : Value) (l : List Bool) : Prop := ∃ ao cap b off, v = .slice ao l.length cap ∧ l.length ≤ cap ∧ (0 < l.length → ao = some ⟨b, off, none⟩ ∧ b < lim) ∧ ∀ j x, l[j]? = some x → w.cell? ⟨b, off + j, none⟩ = some (iv x)
theorem KL.kept {lim k : Nat} {w w' : World} {v : Value} {l : List Bool} (h : KL lim w v l) (hb : Below k w w') (hk : lim ≤ k) : KL lim w' v l := by
 obtain ⟨ao, cap, b, off, h1, h2, h3, h4⟩ := h
 exact ⟨ao, cap, b, off, h1, h2, h3, fun j x hx => (hb.cell (p := ⟨b, _, none⟩) (by have := (h3 (by have := (List.getElem?_eq_some_iff.1 hx).1; omega)).2; show b < k; omega)).trans (h4 j x hx)⟩
theorem KL.wide {lim lim' : Nat} {w : World} {v : Value} {l : List Bool} (h : KL lim w v l) (hl : lim ≤ lim') : KL lim' w v l := by
 obtain ⟨ao, cap, b, off, h1, h2, h3, h4⟩ := h
 exact ⟨ao, cap, b, off, h1, h2, fun e => ⟨(h3 e).1, Nat.lt_of_lt_of_le (h3 e).2 hl⟩, h4⟩
theorem KL.own {base : Nat} {w : World} {v : Value} {l : List Bool} (h : w.ownsRow base 3 1 v l.length (l.map iv)) : KL w.heap.size w v l := by
 rcases h.2 with ⟨h1, h0⟩ | ⟨g, cap, cur, h1, hb, hc, hnc, _, hsz, htk⟩
 ·have : l = [] := List.eq_nil_of_length_eq_zero h0
  subst this
  exact ⟨none, 0, 0, 0, h1, Nat.le_refl _, fun h => by simp at h, fun j x hx => by simp at hx⟩
 ·refine ⟨_, cap, g, 0, h1, hnc, fun _ => ⟨rfl, block_lt hc⟩, fun j x hx => ?_⟩
  have hj := (List.getElem?_eq_some_iff.1 hx).1
  have h2 : (l.map iv)[j]? = some (iv x) := by rw [List.getElem?_map, hx]; rfl
  rw [← htk, List.getElem?_take, if_pos (by omega)] at h2
  rw [Nat.zero_add, block_cell hc j]
  simpa using h2
theorem Tryz.infoI : (Tryz.prog.info? 3).map (fun i => (i.zero, i.size, i.bytes)) = some (some (.int .i64 0), 1, 8) := by kernel_rfl
/-- What Verify answers. -/
def Vy (W : World) (r : Except (Int × Int) Kn) (e : Ending) (w' : World) : Prop := match r with
 | .ok _ => e = .returned .nilIface ∧ Hid (Below W.heap.size W w')
 | .error (a, y) => ∃ g, e = .returned (.iface 74 (.pointer (some ⟨g, 0, none⟩))) ∧ Hid (Ft w'.heap.size w' (.iface 74 (.pointer (some ⟨g, 0, none⟩))) a y ∧ Below W.heap.size W w')
set_option maxRecDepth 10000 in
set_option maxHeartbeats 1600000 in
theorem verifyC {W : World} {g : Pg} {p : Pv} (h : g.Ok p W.heap.size W) (hT : Tab W) :
  Calls Tryz.prog 9 #[.agg (g.cs p).toArray] W (Vy W (verF p)) := by
 obtain ⟨W1, hW1⟩ : ∃ W1, W.alloc (.cells (g.cs p).toArray 27) = W1 := ⟨_, rfl⟩
 have B1 : Below W.heap.size W W1 := by rw [← hW1]; exact below_alloc1 W _
 have A1 : W1.heap[W.heap.size]? = some (.cells (g.cs p).toArray 27 (0, 0)) := by rw [← hW1]; exact alloc_atK _ _
 have HWK := hide (walkedC ((h.kept B1 (Nat.le_refl _)).wide B1.size) (hT.below B1 hT.z))
 have z0 := block_cell A1 0
 have z1 := block_cell A1 1
 have z2 := block_cell A1 2
 have z3 := block_cell A1 3
 have z4 := block_cell A1 4
 have z5 := block_cell A1 5
 have z6 := block_cell A1 6
 have z7 := block_cell A1 7
 have z8 := block_cell A1 8
 have zl := block_lt A1
 simp [Pg.cs] at z0 z1 z2 z3 z4 z5 z6 z7 z8
 have HB1 := hide B1
 have HW1 := hide hW1
 clear h hT B1 A1 hW1
 have HCS : Hid (g.cs p = [.slice g.ca p.nc g.cc, .slice g.sa p.ns g.sc, .int .i64 (p.en 0), .int .i64 (p.en 1), .int .i64 (p.en 2), .int .i64 (p.en 3), .int .i64 (p.en 4), .int .i64 (p.en 5), .slice g.ia p.n g.ic]) := rfl
 rw [HCS.out] at HW1 HWK ⊢
 generalize verF p = r at *
 go_enter Tryz.func9, Tryz.ntmps9
 go_upto_region 1 with fail
 rw [HW1.out]
 go_wp2_with fail
 refine HWK.out.mono ?_
 intro e w2 hh
 cases r with
 | ok k =>
  obtain ⟨hb, rfl, G⟩ := hh
  have HD := hide (HB1.out.trans (G.out.2.mono HB1.out.size))
  go_wp2
  go_ret
  exact ⟨rfl, HD⟩
 | error y =>
  obtain ⟨a, y⟩ := y
  obtain ⟨g', rfl, G⟩ := hh
  have HD : Hid (Ft w2.heap.size w2 (.iface 74 (.pointer (some ⟨g', 0, none⟩))) a y ∧ Below W.heap.size W w2) := ⟨G.out.1, HB1.out.trans (G.out.2.mono HB1.out.size)⟩
  go_wp2
  go_ret
  exact ⟨g', rfl, HD⟩
theorem iter_grown (w : World) (k : Nat) (s : ByteArray) (n : Nat) : w.grownBy (w.iterAt k s n) (some k) := ⟨rfl, rfl, rfl, by rw [Lib.iterAt_size]; exact Nat.le_refl _, fun i _ hne => Lib.iterAt_other w k i s n (fun e => hne (by rw [e]))⟩
end Go.Proofs.YtggpaljilpbmhaaGreatDoor
namespace Go.Proofs.YtggpaljilpbmhaaGreatDoor
open Go.RowKit

end Go.Proofs.YtggpaljilpbmhaaGreatDoor
namespace Go.Proofs.YtggpaljilpbmhaaGreatDoor
open Go.RowKit

end Go.Proofs.YtggpaljilpbmhaaGreatDoor
namespace Go.Proofs.YtggpaljilpbmhaaGreatDoor
open Go.RowKit

/-- The world of form: the program's box, the result's. -/
structure Fm (W : World) (g : Pg) (p : Pv) (w : World) : Prop where
 prg : w.heap[W.heap.size]? = some (.cells (g.cs p).toArray 27 (0, 0))
 res : w.heap[W.heap.size + 1]? = some (.cells #[.slice none 0 0, .int .i64 0] 54 (0, 0))
 ok : g.Ok p W.heap.size w
 bel : Below W.heap.size W w
theorem Fm.next {W : World} {g : Pg} {p : Pv} {w w' : World} (h : Fm W g p w) (hb : Below w.heap.size w w') : Fm W g p w' :=
 ⟨(hb.block _ (block_lt h.prg)).trans h.prg, (hb.block _ (block_lt h.res)).trans h.res, h.ok.kept hb h.bel.size, h.bel.trans (hb.mono h.bel.size)⟩
theorem Fm.cells {W : World} {g : Pg} {p : Pv} {w : World} (h : Fm W g p w) : w.cell? ⟨W.heap.size, 0, none⟩ = some (.slice g.ca p.nc g.cc) ∧ w.cell? ⟨W.heap.size, 1, none⟩ = some (.slice g.sa p.ns g.sc) ∧ w.cell? ⟨W.heap.size, 2, none⟩ = some (.int .i64 (p.en 0)) ∧ w.cell? ⟨W.heap.size, 3, none⟩ = some (.int .i64 (p.en 1)) ∧ w.cell? ⟨W.heap.size, 4, none⟩ = some (.int .i64 (p.en 2)) ∧ w.cell? ⟨W.heap.size, 5, none⟩ = some (.int .i64 (p.en 3)) ∧ w.cell? ⟨W.heap.size, 6, none⟩ = some (.int .i64 (p.en 4)) ∧ w.cell? ⟨W.heap.size, 7, none⟩ = some (.int .i64 (p.en 5)) ∧ w.cell? ⟨W.heap.size, 8, none⟩ = some (.slice g.ia p.n g.ic) :=
 ⟨block_cell h.prg 0, block_cell h.prg 1, block_cell h.prg 2, block_cell h.prg 3, block_cell h.prg 4, block_cell h.prg 5, block_cell h.prg 6, block_cell h.prg 7, block_cell h.prg 8⟩
def statF (p : Pv) : Option (Int × Int) := (sizeF p).or ((slotF p).or ((entF p).or (insF p)))
end Go.Proofs.YtggpaljilpbmhaaGreatDoor
namespace Go.Proofs.YtggpaljilpbmhaaGreatDoor
open Go.RowKit

/-- A list of kinds that lies in a block of ints. -/
def KI (w : World) (v : Value) (l : List Bool) : Prop := ∃ ao cap, v = .slice ao l.length cap ∧ l.length ≤ cap ∧ (0 < l.length → ∃ (b : Nat) (cs : Array Value), ao = some ⟨b, 0, none⟩ ∧ w.heap[b]? = some (.cells cs 3 (0, 0)) ∧ ∀ (j : Nat) (x : Bool), l[j]? = some x → cs[j]? = some (iv x))
theorem KI.nil (w : World) : KI w (.slice none 0 0) [] := ⟨none, 0, rfl, Nat.le_refl _, fun h => by simp at h⟩
theorem KI.kept {w w' : World} {v : Value} {l : List Bool} (h : KI w v l) (hb : ∀ (b : Nat) (cs : Array Value), w.heap[b]? = some (.cells cs 3 (0, 0)) → w'.heap[b]? = w.heap[b]?) : KI w' v l := by
 obtain ⟨ao, cap, h1, h2, h3⟩ := h
 refine ⟨ao, cap, h1, h2, fun e => ?_⟩
 obtain ⟨b, cs, e1, e2, e3⟩ := h3 e
 exact ⟨b, cs, e1, (hb b cs e2).trans e2, e3⟩
theorem KI.below {w w' : World} {v : Value} {l : List Bool} (h : KI w v l) (hb : Below w.heap.size w w') : KI w' v l := h.kept (fun b _ e => hb.block b (block_lt e))
theorem KI.own {base : Nat} {w : World} {v : Value} {l : List Bool} (h : w.ownsRow base 3 1 v l.length (l.map iv)) : KI w v l := by
 rcases h.2 with ⟨h1, h0⟩ | ⟨g, cap, cur, h1, hb, hc, hnc, _, hsz, htk⟩
 ·have : l = [] := List.eq_nil_of_length_eq_zero h0
  subst this
  rw [h1]
  exact KI.nil w
 ·refine ⟨_, cap, h1, hnc, fun _ => ⟨g, _, rfl, hc, fun j x hx => ?_⟩⟩
  have hj := (List.getElem?_eq_some_iff.1 hx).1
  have h2 : (l.map iv)[j]? = some (iv x) := by rw [List.getElem?_map, hx]; rfl
  rw [← htk, List.getElem?_take, if_pos (by omega)] at h2
  simpa using h2
theorem KI.cell {w : World} {ao : Option Addr} {n cap : Nat} {l : List Bool} (h : KI w (.slice ao n cap) l) : n = l.length ∧ l.length ≤ cap ∧ (0 < l.length → ∃ b, ao = some ⟨b, 0, none⟩ ∧ b < w.heap.size ∧ ∀ (j : Nat) (x : Bool), l[j]? = some x → w.cell? ⟨b, j, none⟩ = some (iv x)) := by
 obtain ⟨ao', cap', h1, h2, h3⟩ := h
 cases h1
 refine ⟨rfl, h2, fun e => ?_⟩
 obtain ⟨b, cs, e1, e2, e3⟩ := h3 e
 exact ⟨b, e1, block_lt e2, fun j x hx => (block_cell e2 j).trans (e3 j x hx)⟩
theorem KI.val {w : World} {v : Value} {l : List Bool} (h : KI w v l) : ∃ ao cap, v = .slice ao l.length cap := by
 obtain ⟨ao, cap, h1, _⟩ := h
 exact ⟨ao, cap, h1⟩
theorem KI.take {w : World} {ao : Option Addr} {cap : Nat} {l : List Bool} (h : KI w (.slice ao l.length cap) l) (r : Nat) (hr : r ≤ l.length) : KI w (.slice ao r cap) (l.take r) := by
 obtain ⟨ao', cap', h1, h2, h3⟩ := h
 cases h1
 refine ⟨ao, cap, by rw [List.length_take, Nat.min_eq_left hr], by rw [List.length_take]; omega, fun e => ?_⟩
 rw [List.length_take] at e
 obtain ⟨b, cs, e1, e2, e3⟩ := h3 (by omega)
 refine ⟨b, cs, e1, e2, fun j x hx => e3 j x ?_⟩
 rw [List.getElem?_take] at hx
 split at hx
 ·exact hx
 ·cases hx
end Go.Proofs.YtggpaljilpbmhaaGreatDoor
namespace Go.Proofs.YtggpaljilpbmhaaGreatDoor
open Go.RowKit

/-- Memory grows, and only two blocks of the old ones may change. -/
structure G2w (W w : World) (a b : Nat) : Prop where
 os : w.os = W.os
 tape : w.tape = W.tape
 output : w.output = W.output
 size : W.heap.size ≤ w.heap.size
 block : ∀ k, k < W.heap.size → k ≠ a → k ≠ b → w.heap[k]? = W.heap[k]?
theorem G2w.of {W w : World} {a b : Nat} (h : Below W.heap.size W w) : G2w W w a b := ⟨h.os, h.tape, h.output, h.size, fun k hk _ _ => h.block k hk⟩
theorem G2w.trans {W w w' : World} {a b : Nat} (h : G2w W w a b) (h' : G2w w w' a b) : G2w W w' a b := ⟨h'.os.trans h.os, h'.tape.trans h.tape, h'.output.trans h.output, Nat.le_trans h.size h'.size, fun k hk n1 n2 => (h'.block k (Nat.lt_of_lt_of_le hk h.size) n1 n2).trans (h.block k hk n1 n2)⟩
theorem G2w.below {W w : World} {a b lim : Nat} (h : G2w W w a b) (ha : lim ≤ a) (hb : lim ≤ b) (hl : lim ≤ W.heap.size) : Below lim W w := ⟨h.os, h.tape, h.output, h.size, fun k hk => h.block k (by omega) (by omega) (by omega)⟩
/-- The reference's Walk as it lies, where there are instructions. -/
structure RW (lim : Nat) (w : World) (q ba bs ca cc : Nat) (g : Pg) (p : Pv) (k : Kn) : Prop where
 blk : w.heap[q]? = some (.cells #[.slice (some ⟨ba, 0, none⟩) p.n ca, .slice (some ⟨bs, 0, none⟩) p.n cc] 211 (0, 0))
 rowA : ∃ cs : Array Value, w.heap[ba]? = some (.cells cs 4 (0, 0)) ∧ ∀ j : Nat, j < p.n → cs[j]? = some (.bool (k j).isSome)
 rowB : ∃ cs : Array Value, w.heap[bs]? = some (.cells cs 23 (0, 0)) ∧ ∀ j : Nat, j < p.n → ∃ v, cs[j]? = some v ∧ KI w v (kin (k j))
 ok : g.Ok p lim w
 lq : lim ≤ q
 la : lim ≤ ba
 lb : lim ≤ bs
 hca : p.n ≤ ca
 hcc : p.n ≤ cc
section
variable {lim : Nat} {W W' : World} {q ba bs ca cc : Nat} {g : Pg} {p : Pv} {k : Kn}
theorem RW.le (h : RW lim W q ba bs ca cc g p k) : lim ≤ W.heap.size := by
 have := block_lt h.blk
 have := h.lq
 omega
theorem RW.kept (h : RW lim W q ba bs ca cc g p k) (hB : Below W.heap.size W W') : RW lim W' q ba bs ca cc g p k := by
 obtain ⟨c1, a1, a2⟩ := h.rowA
 obtain ⟨c2, b1, b2⟩ := h.rowB
 refine ⟨(hB.block _ (block_lt h.blk)).trans h.blk, ⟨c1, (hB.block _ (block_lt a1)).trans a1, a2⟩, ⟨c2, (hB.block _ (block_lt b1)).trans b1, fun j hj => ?_⟩, h.ok.kept hB h.le, h.lq, h.la, h.lb, h.hca, h.hcc⟩
 obtain ⟨v, e1, e2⟩ := b2 j hj
 exact ⟨v, e1, e2.below hB⟩
theorem RW.int (h : RW lim W q ba bs ca cc g p k) {b : Nat} {cs : Array Value} (e : W.heap[b]? = some (.cells cs 3 (0, 0))) : b ≠ ba ∧ b ≠ bs := by
 obtain ⟨c1, a1, a2⟩ := h.rowA
 obtain ⟨c2, b1, b2⟩ := h.rowB
 constructor
 ·intro x
  rw [x, a1] at e
  simp at e
 ·intro x
  rw [x, b1] at e
  simp at e
theorem G2w.int (hg : G2w W W' ba bs) (h : RW lim W q ba bs ca cc g p k) {b : Nat} {cs : Array Value} (e : W.heap[b]? = some (.cells cs 3 (0, 0))) : W'.heap[b]? = W.heap[b]? :=
 hg.block b (block_lt e) (h.int e).1 (h.int e).2
theorem RW.at_ (h : RW lim W q ba bs ca cc g p k) (d : Nat) (hd : d < p.n) : W.cell? ⟨q, 0, none⟩ = some (.slice (some ⟨ba, 0, none⟩) p.n ca) ∧ W.cell? ⟨q, 1, none⟩ = some (.slice (some ⟨bs, 0, none⟩) p.n cc) ∧ q < W.heap.size ∧ W.cell? ⟨ba, d, none⟩ = some (.bool (k d).isSome) ∧ W.frozen? ⟨ba, d, none⟩ = false ∧ ba < W.heap.size ∧ bs < W.heap.size ∧ ∃ v, W.cell? ⟨bs, d, none⟩ = some v ∧ KI W v (kin (k d)) := by
 obtain ⟨c1, a1, a2⟩ := h.rowA
 obtain ⟨c2, b1, b2⟩ := h.rowB
 obtain ⟨v, e1, e2⟩ := b2 d hd
 exact ⟨block_cell h.blk 0, block_cell h.blk 1, block_lt h.blk, (block_cell a1 d).trans (a2 d hd), block_free a1 d, block_lt a1, block_lt b1, v, (block_cell b1 d).trans e1, e2⟩
end
end Go.Proofs.YtggpaljilpbmhaaGreatDoor
namespace Go.Proofs.YtggpaljilpbmhaaGreatDoor
open Go.RowKit

/-- The world of the reference's visit. -/
structure Vs (lim : Nat) (W : World) (q ba bs ca cc : Nat) (g : Pg) (p : Pv) (k : Kn) (o : Nat) (a : Int) (xb : Nat) (w : World) : Prop where
 prg : w.heap[W.heap.size]? = some (.cells (g.cs p).toArray 27 (0, 0))
 ins : w.heap[xb]? = some (.cells #[.int .i64 (o : Nat), .int .i64 a] 42 (0, 0))
 rw : RW lim w q ba bs ca cc g p k
 g2 : G2w W w ba bs
section
variable {lim : Nat} {W : World} {q ba bs ca cc : Nat} {g : Pg} {p : Pv} {k k' : Kn} {o : Nat} {a : Int} {xb : Nat} {w w' : World}
theorem Vs.next (h : Vs lim W q ba bs ca cc g p k o a xb w) (hb : Below w.heap.size w w') : Vs lim W q ba bs ca cc g p k o a xb w' :=
 ⟨(hb.block _ (block_lt h.prg)).trans h.prg, (hb.block _ (block_lt h.ins)).trans h.ins, h.rw.kept hb, h.g2.trans (G2w.of hb)⟩
theorem Vs.hand (h : Vs lim W q ba bs ca cc g p k o a xb w) (hr : RW lim w' q ba bs ca cc g p k') (hg : G2w w w' ba bs) : Vs lim W q ba bs ca cc g p k' o a xb w' := by
 obtain ⟨c1, a1, a2⟩ := h.rw.rowA
 obtain ⟨c2, b1, b2⟩ := h.rw.rowB
 have n1 : W.heap.size ≠ ba := fun e => by have := h.prg; rw [e, a1] at this; simp at this
 have n2 : W.heap.size ≠ bs := fun e => by have := h.prg; rw [e, b1] at this; simp at this
 have n3 : xb ≠ ba := fun e => by have := h.ins; rw [e, a1] at this; simp at this
 have n4 : xb ≠ bs := fun e => by have := h.ins; rw [e, b1] at this; simp at this
 exact ⟨(hg.block _ (block_lt h.prg) n1 n2).trans h.prg, (hg.block _ (block_lt h.ins) n3 n4).trans h.ins, hr, h.g2.trans hg⟩
theorem Vs.cells (h : Vs lim W q ba bs ca cc g p k o a xb w) : w.cell? ⟨W.heap.size, 0, none⟩ = some (.slice g.ca p.nc g.cc) ∧ w.cell? ⟨W.heap.size, 1, none⟩ = some (.slice g.sa p.ns g.sc) ∧ w.cell? ⟨W.heap.size, 2, none⟩ = some (.int .i64 (p.en 0)) ∧ w.cell? ⟨W.heap.size, 3, none⟩ = some (.int .i64 (p.en 1)) ∧ w.cell? ⟨W.heap.size, 4, none⟩ = some (.int .i64 (p.en 2)) ∧ w.cell? ⟨W.heap.size, 5, none⟩ = some (.int .i64 (p.en 3)) ∧ w.cell? ⟨W.heap.size, 6, none⟩ = some (.int .i64 (p.en 4)) ∧ w.cell? ⟨W.heap.size, 7, none⟩ = some (.int .i64 (p.en 5)) ∧ w.cell? ⟨W.heap.size, 8, none⟩ = some (.slice g.ia p.n g.ic) ∧ W.heap.size < w.heap.size ∧ w.cell? ⟨xb, 0, none⟩ = some (.int .i64 (o : Nat)) ∧ w.cell? ⟨xb, 1, none⟩ = some (.int .i64 a) ∧ xb < w.heap.size :=
 ⟨block_cell h.prg 0, block_cell h.prg 1, block_cell h.prg 2, block_cell h.prg 3, block_cell h.prg 4, block_cell h.prg 5, block_cell h.prg 6, block_cell h.prg 7, block_cell h.prg 8, block_lt h.prg, block_cell h.ins 0, block_cell h.ins 1, block_lt h.ins⟩
end
theorem wp_append1 {P : Program} {o : Oper} {a : Act} {w w' : World} {K : Act → World → Prop} {Q : Exit → Act → World → Prop} (s x : Operand) (t : TypeId) (ho : o.op = .call { callee := .builtin .append, args := #[s, x], argTypes := #[t, t] }) {v v' : Value} {ad : Addr} {m c : Nat} (hs : a.eval s = v) (hx : a.eval x = .slice (some ad) m c)
  (hr : (Builtin.append_ #[t, t] o.type #[v, .slice (some ad) m c]).run P w = .ok v' w') (hK : K (a.put o.dst v') w') : Oper.wp P o a w K Q := by
 unfold Oper.wp execOp
 simp only [ho, resolve, invoke, builtin, Sem.run_bind, Sem.run_pure, Result.andThen_ok, List.map_toArray, List.map_cons, List.map_nil, hs, hx, hr]
 exact hK
end Go.Proofs.YtggpaljilpbmhaaGreatDoor
namespace Go.Proofs.YtggpaljilpbmhaaGreatDoor
open Go.RowKit

/-- The world while the reference lays its rows. -/
structure L1 (W : World) (rb q : Nat) (g : Pg) (p : Pv) (ja jb : Nat) (va vb : Value) (w : World) : Prop where
 prg : w.heap[W.heap.size]? = some (.cells (g.cs p).toArray 27 (0, 0))
 res : w.heap[rb]? = some (.cells #[.slice none 0 0, .int .i64 0] 54 (0, 0))
 wlk : w.heap[q]? = some (.cells #[va, vb] 211 (0, 0))
 ra : w.ownsRow W.heap.size 4 1 va ja (List.replicate ja (.bool false))
 rb : w.ownsRow W.heap.size 23 1 vb jb (List.replicate jb (.slice none 0 0))
 bel : Below W.heap.size W w
 lq : W.heap.size ≤ q
theorem own_typ {w : World} {base n : Nat} {t : TypeId} {v : Value} {xs : List Value} (h : w.ownsRow base t 1 v n xs) {b : Nat} (e : v.ownBlock = some b) : base ≤ b ∧ ∃ cs : Array Value, w.heap[b]? = some (.cells cs t (0, 0)) := by
 refine ⟨(h.lt b e).1, ?_⟩
 rcases h.2 with ⟨e3, _⟩ | ⟨g3, cap, cur, e3, _, hc, _⟩
 ·rw [e3] at e; cases e
 ·rw [e3] at e
  cases e
  exact ⟨_, hc⟩
theorem own_off {w : World} {base n : Nat} {t t' : TypeId} {v : Value} {xs : List Value} (h : w.ownsRow base t 1 v n xs) (hne : t ≠ t') {b : Nat} {cs : Array Value} {z : Nat × Nat} (e : w.heap[b]? = some (.cells cs t' z)) : v.ownBlock ≠ some b := fun e2 => by
 obtain ⟨_, cs', h'⟩ := own_typ h e2
 rw [e] at h'
 cases h'
 exact hne rfl
section
variable {W : World} {rb q : Nat} {g : Pg} {p : Pv} {ja jb : Nat} {va vb : Value} {w w' : World} {o : Obj}
theorem L1.stepA (h : L1 W rb q g p ja jb va vb w) {va' : Value} (ho : w'.ownsRow W.heap.size 4 1 va' (ja + 1) (List.replicate ja (.bool false) ++ [.bool false])) (hg : (w.alloc o).grownBy w' va.ownBlock) : L1 W rb q g p (ja + 1) jb va' vb (w'.setCell ⟨q, 0, none⟩ va') ∧ w'.heap[q]? = some (.cells #[va, vb] 211 (0, 0)) := by
 have al := below_alloc1 w o
 have K : ∀ {b : Nat} {cs : Array Value} {t' : TypeId} {z : Nat × Nat}, (4 : TypeId) ≠ t' → w.heap[b]? = some (.cells cs t' z) → w'.heap[b]? = some (.cells cs t' z) := fun hne e =>
  (hg.block _ (Nat.lt_of_lt_of_le (block_lt e) al.size) (fun x => own_off h.ra hne e x.symm)).trans ((al.block _ (block_lt e)).trans e)
 have kw := K (by decide) h.wlk
 have kp := K (by decide) h.prg
 have kr := K (by decide) h.res
 have G := grown_set w' q 0 va'
 have s1 := heap_setCell_same w' q 0 _ _ va' kw
 have n1 : W.heap.size ≠ q := fun e => by rw [e] at kp; rw [kw] at kp; simp at kp
 have n2 : rb ≠ q := fun e => by rw [e] at kr; rw [kw] at kr; simp at kr
 refine ⟨⟨(G.block _ (block_lt kp) (by simpa using n1)).trans kp, (G.block _ (block_lt kr) (by simpa using n2)).trans kr, by simpa using s1, ?_, ?_, ?_, h.lq⟩, kw⟩
 ·rw [List.replicate_succ']
  exact ho.kept G (.inr (own_off ho (by decide) kw))
 ·have r1 := row_quietT h.rb (World.grownBy_alloc w o none)
  have r2 : w'.ownsRow W.heap.size 23 1 vb jb (List.replicate jb (.slice none 0 0)) := by
   refine r1.kept hg ?_
   cases e : vb.ownBlock with
   | none => exact .inl rfl
   | some b =>
    obtain ⟨_, cs, hc⟩ := own_typ h.rb e
    exact .inr (fun x => own_off h.ra (by decide) hc x.symm)
  exact r2.kept G (.inr (own_off r2 (by decide) kw))
 ·exact ((h.bel.alloc h.bel.size o).grown hg (by have := h.bel.size; simp; omega) (fun b e => (h.ra.lt b e).1)).setCell (p := ⟨q, 0, none⟩) h.lq va'
theorem L1.stepB (h : L1 W rb q g p ja jb va vb w) {vb' : Value} (ho : w'.ownsRow W.heap.size 23 1 vb' (jb + 1) (List.replicate jb (.slice none 0 0) ++ [.slice none 0 0])) (hg : (w.alloc o).grownBy w' vb.ownBlock) : L1 W rb q g p ja (jb + 1) va vb' (w'.setCell ⟨q, 1, none⟩ vb') ∧ w'.heap[q]? = some (.cells #[va, vb] 211 (0, 0)) := by
 have al := below_alloc1 w o
 have K : ∀ {b : Nat} {cs : Array Value} {t' : TypeId} {z : Nat × Nat}, (23 : TypeId) ≠ t' → w.heap[b]? = some (.cells cs t' z) → w'.heap[b]? = some (.cells cs t' z) := fun hne e =>
  (hg.block _ (Nat.lt_of_lt_of_le (block_lt e) al.size) (fun x => own_off h.rb hne e x.symm)).trans ((al.block _ (block_lt e)).trans e)
 have kw := K (by decide) h.wlk
 have kp := K (by decide) h.prg
 have kr := K (by decide) h.res
 have G := grown_set w' q 1 vb'
 have s1 := heap_setCell_same w' q 1 _ _ vb' kw
 have n1 : W.heap.size ≠ q := fun e => by rw [e] at kp; rw [kw] at kp; simp at kp
 have n2 : rb ≠ q := fun e => by rw [e] at kr; rw [kw] at kr; simp at kr
 refine ⟨⟨(G.block _ (block_lt kp) (by simpa using n1)).trans kp, (G.block _ (block_lt kr) (by simpa using n2)).trans kr, by simpa using s1, ?_, ?_, ?_, h.lq⟩, kw⟩
 ·have r1 := row_quietT h.ra (World.grownBy_alloc w o none)
  have r2 : w'.ownsRow W.heap.size 4 1 va ja (List.replicate ja (.bool false)) := by
   refine r1.kept hg ?_
   cases e : va.ownBlock with
   | none => exact .inl rfl
   | some b =>
    obtain ⟨_, cs, hc⟩ := own_typ h.ra e
    exact .inr (fun x => own_off h.rb (by decide) hc x.symm)
  exact r2.kept G (.inr (own_off r2 (by decide) kw))
 ·rw [List.replicate_succ']
  exact ho.kept G (.inr (own_off ho (by decide) kw))
 ·exact ((h.bel.alloc h.bel.size o).grown hg (by have := h.bel.size; simp; omega) (fun b e => (h.rb.lt b e).1)).setCell (p := ⟨q, 1, none⟩) h.lq vb'
/-- The rows laid: the Walk as it lies, where there are instructions. -/
theorem L1.whole (h : L1 W rb q g p p.n p.n va vb w) (hok : g.Ok p W.heap.size w) (hn : 0 < p.n) : ∃ ba bs ca cc, RW W.heap.size w q ba bs ca cc g p (fun _ => none) := by
 rcases h.ra.2 with ⟨_, e0⟩ | ⟨ba, ca, cur, e1, hb1, hc1, hn1, _, hs1, ht1⟩
 ·omega
 ·rcases h.rb.2 with ⟨_, e0⟩ | ⟨bs, cc, cur2, e2, hb2, hc2, hn2, _, hs2, ht2⟩
  ·omega
  ·refine ⟨ba, bs, ca, cc, ?_, ⟨_, hc1, fun j hj => ?_⟩, ⟨_, hc2, fun j hj => ⟨.slice none 0 0, ?_, KI.nil w⟩⟩, hok, h.lq, hb1, hb2, hn1, hn2⟩
   ·rw [h.wlk, e1, e2]
   ·have : (List.replicate p.n (Value.bool false))[j]? = some (.bool false) := by simp [hj]
    rw [← ht1, List.getElem?_take, if_pos (by omega)] at this
    simpa using this
   ·have : (List.replicate p.n (Value.slice none 0 0))[j]? = some (.slice none 0 0) := by simp [hj]
    rw [← ht2, List.getElem?_take, if_pos (by omega)] at this
    simpa using this
end
/-- The world of the reference's walk behind its first loop. -/
structure L2 (W : World) (rb q ba bs ca cc : Nat) (g : Pg) (p : Pv) (k : Kn) (w : World) : Prop where
 prg : w.heap[W.heap.size]? = some (.cells (g.cs p).toArray 27 (0, 0))
 res : w.heap[rb]? = some (.cells #[.slice none 0 0, .int .i64 0] 54 (0, 0))
 rw : 0 < p.n → RW W.heap.size w q ba bs ca cc g p k
 bel : Below W.heap.size W w
 lr : W.heap.size ≤ rb
theorem L2.next {W : World} {rb q ba bs ca cc : Nat} {g : Pg} {p : Pv} {k : Kn} {w w' : World} (h : L2 W rb q ba bs ca cc g p k w) (hb : Below w.heap.size w w') : L2 W rb q ba bs ca cc g p k w' :=
 ⟨(hb.block _ (block_lt h.prg)).trans h.prg, (hb.block _ (block_lt h.res)).trans h.res, fun e => (h.rw e).kept hb, h.bel.trans (hb.mono h.bel.size), h.lr⟩
theorem L2.step {W : World} {rb q ba bs ca cc : Nat} {g : Pg} {p : Pv} {k k' : Kn} {w w' : World} (h : L2 W rb q ba bs ca cc g p k w) (hn : 0 < p.n) (hr : RW W.heap.size w' q ba bs ca cc g p k') (hg : G2w w w' ba bs) : L2 W rb q ba bs ca cc g p k' w' := by
 have hrw := h.rw hn
 obtain ⟨c1, a1, a2⟩ := hrw.rowA
 obtain ⟨c2, b1, b2⟩ := hrw.rowB
 have n1 : W.heap.size ≠ ba := fun e => by have := h.prg; rw [e, a1] at this; simp at this
 have n2 : W.heap.size ≠ bs := fun e => by have := h.prg; rw [e, b1] at this; simp at this
 have n3 : rb ≠ ba := fun e => by have := h.res; rw [e, a1] at this; simp at this
 have n4 : rb ≠ bs := fun e => by have := h.res; rw [e, b1] at this; simp at this
 exact ⟨(hg.block _ (block_lt h.prg) n1 n2).trans h.prg, (hg.block _ (block_lt h.res) n3 n4).trans h.res, fun _ => hr, h.bel.trans (hg.below hrw.la hrw.lb hrw.le), h.lr⟩
theorem L2.bel2 {W : World} {rb q ba bs ca cc : Nat} {g : Pg} {p : Pv} {k : Kn} {w w' : World} (h : L2 W rb q ba bs ca cc g p k w) (hn : 0 < p.n) (hg : G2w w w' ba bs) : Below W.heap.size W w' ∧ w'.heap[rb]? = some (.cells #[.slice none 0 0, .int .i64 0] 54 (0, 0)) := by
 have hrw := h.rw hn
 obtain ⟨c1, a1, a2⟩ := hrw.rowA
 obtain ⟨c2, b1, b2⟩ := hrw.rowB
 have n3 : rb ≠ ba := fun e => by have := h.res; rw [e, a1] at this; simp at this
 have n4 : rb ≠ bs := fun e => by have := h.res; rw [e, b1] at this; simp at this
 exact ⟨h.bel.trans (hg.below hrw.la hrw.lb hrw.le), (hg.block _ (block_lt h.res) n3 n4).trans h.res⟩
end Go.Proofs.YtggpaljilpbmhaaGreatDoor
namespace Go.Proofs.YtggpaljilpbmhaaGreatDoor
open Go.RowKit

theorem own_val {w : World} {base n : Nat} {t : TypeId} {v : Value} {xs : List Value} (h : w.ownsRow base t 1 v n xs) : ∃ ao cap, v = .slice ao n cap := by
 rcases h.2 with ⟨e3, e0⟩ | ⟨g3, cap, cur, e3, _⟩
 ·exact ⟨none, 0, by rw [e3, e0]⟩
 ·exact ⟨_, cap, e3⟩
theorem stat_none {p : Pv} (h : statF p = none) : sizeF p = none ∧ slotF p = none ∧ entF p = none ∧ insF p = none := by
 unfold statF at h
 cases e0 : sizeF p with
 | some y => rw [e0] at h; cases h
 | none =>
  rw [e0] at h
  cases e1 : slotF p with
  | some y => rw [e1] at h; cases h
  | none =>
   rw [e1] at h
   cases e2 : entF p with
   | some y => rw [e2] at h; cases h
   | none =>
    rw [e2] at h
    exact ⟨rfl, rfl, rfl, h⟩
theorem size_none {p : Pv} (h : sizeF p = none) : p.nc ≤ 256 ∧ p.ns ≤ 128 ∧ p.n ≤ 1024 := by
 unfold sizeF at h
 split at h
 ·cases h
 ·split at h
  ·cases h
  ·split at h
   ·cases h
   ·omega
theorem slot_none {p : Pv} (h : slotF p = none) : ∀ j, j < p.ns → p.S j = 0 ∨ p.S j = 1 := by
 have key : ∀ n, firstBad (slotB p) n = none → ∀ j, j < n → slotB p j = none := by
  intro n
  induction n with
  | zero => intro _ j hj; omega
  | succ n ih =>
   intro h j hj
   unfold firstBad at h
   have h1 : firstBad (slotB p) n = none := by
    cases e : firstBad (slotB p) n with
    | none => rfl
    | some r => rw [e] at h; cases h
   rw [h1] at h
   by_cases e : j = n
   ·subst e; simpa using h
   ·exact ih h1 j (by omega)
 intro j hj
 have := key p.ns h j hj
 unfold slotB at this
 split at this
 ·cases this
 ·rename_i h1
  by_cases e : p.S j = 0
  ·exact .inl e
  ·right
   by_cases e1 : p.S j = 1
   ·exact e1
   ·exact absurd ⟨e, e1⟩ h1
theorem RW.far {lim : Nat} {w w' : World} {q ba bs ca cc rb : Nat} {g : Pg} {p : Pv} {k : Kn} (h : RW lim w q ba bs ca cc g p k) {cs : Array Value} {z : Nat × Nat} (hr : w.heap[rb]? = some (.cells cs 54 z)) (hl : lim ≤ rb) (hg : w.grownBy w' (some rb)) : RW lim w' q ba bs ca cc g p k := by
 have K : ∀ {b : Nat} {cs' : Array Value} {t' : TypeId} {z' : Nat × Nat}, (54 : TypeId) ≠ t' → w.heap[b]? = some (.cells cs' t' z') → w'.heap[b]? = some (.cells cs' t' z') := fun hne e =>
  (hg.block _ (block_lt e) (fun x => by cases x; rw [hr] at e; cases e; exact hne rfl)).trans e
 obtain ⟨c1, a1, a2⟩ := h.rowA
 obtain ⟨c2, b1, b2⟩ := h.rowB
 refine ⟨K (by decide) h.blk, ⟨c1, K (by decide) a1, a2⟩, ⟨c2, K (by decide) b1, fun j hj => ?_⟩, h.ok.kept (below_of_grown hg hl h.le) (Nat.le_refl _), h.lq, h.la, h.lb, h.hca, h.hcc⟩
 obtain ⟨v, e1, e2⟩ := b2 j hj
 exact ⟨v, e1, e2.kept (fun b cs e => (K (by decide) e).trans e.symm)⟩
end Go.Proofs.YtggpaljilpbmhaaGreatDoor
namespace Go.Proofs.YtggpaljilpbmhaaGreatDoor
open Go.RowKit

theorem verF_stat (p : Pv) : verF p = match statF p with
  | some y => .error y
  | none => goF p p.n := by
 unfold verF statF
 cases sizeF p with
 | some y => rfl
 | none =>
  cases slotF p with
  | some y => rfl
  | none =>
   cases entF p with
   | some y => rfl
   | none =>
    cases insF p with
    | some y => rfl
    | none => rfl
theorem FV.next {w w' : World} {ao : Option Addr} {L : List Lk} {b off : Nat} (h : FV w.heap.size w ao L b off) (hb : Below w.heap.size w w') : FV w'.heap.size w' ao L b off := (h.below hb).wide hb.size
theorem RW.low {lim lim' : Nat} {w : World} {q ba bs ca cc : Nat} {g : Pg} {p : Pv} {k : Kn} (h : RW lim w q ba bs ca cc g p k) (hl : lim' ≤ lim) (hok : g.Ok p lim' w) : RW lim' w q ba bs ca cc g p k :=
 ⟨h.blk, h.rowA, h.rowB, hok, Nat.le_trans hl h.lq, Nat.le_trans hl h.la, Nat.le_trans hl h.lb, h.hca, h.hcc⟩
end Go.Proofs.YtggpaljilpbmhaaGreatDoor
namespace Go.Proofs.YtggpaljilpbmhaaGreatDoor

/-- What is taken, what is laid up, what lies there behind an instruction. -/
def tkB (p : Pv) (i : Nat) : List Bool := colB p (fTakes (p.op i).toNat) (p.arg i)
def lyB (p : Pv) (i : Nat) : List Bool := colB p (fLays (p.op i).toNat) (p.arg i)
def aft (p : Pv) (i : Nat) (l : List Bool) : List Bool := l.take (l.length - (tkB p i).length) ++ lyB p i
/-- Where an instruction leads, and with what. -/
def edgs (p : Pv) (i : Nat) (l : List Bool) : List (Nat × List Bool) :=
 if (p.op i).toNat = 31 ∨ (p.op i).toNat = 32 then [] else if (p.op i).toNat = 25 then [((p.arg i).toNat, aft p i l)] else if (p.op i).toNat = 27 ∨ (p.op i).toNat = 28 then [((p.arg i).toNat, l), (i + 1, aft p i l)] else if (p.op i).toNat = 26 then [((p.arg i).toNat, aft p i l), (i + 1, aft p i l)] else [(i + 1, aft p i l)]
def fits (p : Pv) (i : Nat) (l : List Bool) : Prop := (tkB p i).length ≤ l.length ∧ l.drop (l.length - (tkB p i).length) = tkB p i ∧ l.length - (tkB p i).length + (lyB p i).length ≤ 64
def handAll (p : Pv) (i : Nat) : Kn → List (Nat × List Bool) → Except Int Kn
 | k, [] => .ok k
 | k, x :: r => bindK (handF p k i x.1 x.2) (fun k' => handAll p i k' r)
theorem bindK_id (r : Except Int Kn) : bindK r (fun k => .ok k) = r := by cases r <;> rfl
theorem visit_fits {p : Pv} {k : Kn} {i : Nat} (h : fits p i (kin (k i))) : visitF p k i = handAll p i k (edgs p i (kin (k i))) := by
 unfold visitF
 obtain ⟨h1, h2, h3⟩ := h
 unfold tkB at h1 h2 h3
 unfold lyB at h3
 rw [if_neg (by omega), if_neg (fun e => e h2), if_neg (by omega)]
 unfold edgs
 split
 ·rfl
 ·split
  ·simp only [handAll, bindK_id]
   rfl
  ·split
   ·simp only [handAll, bindK_id]
    rfl
   ·split
    ·simp only [handAll, bindK_id]
     rfl
    ·simp only [handAll, bindK_id]
     rfl
theorem visit_ok {p : Pv} {k k' : Kn} {i : Nat} (h : visitF p k i = .ok k') : fits p i (kin (k i)) := by
 unfold visitF at h
 split at h
 ·cases h
 ·rename_i a1
  split at h
  ·cases h
  ·rename_i a2
   split at h
   ·cases h
   ·rename_i a3
    refine ⟨?_, ?_, ?_⟩
    ·unfold tkB; omega
    ·exact Decidable.not_not.1 a2
    ·unfold tkB lyB; omega
/-- What is known stays known. -/
def Ext (k k' : Kn) : Prop := ∀ j l, k j = some l → k' j = some l
theorem hand_ok {p : Pv} {k k' : Kn} {i d : Nat} {l : List Bool} (h : handF p k i d l = .ok k') : d < p.n ∧ (d ≤ i → p.op d = 1) ∧ k' d = some l ∧ Ext k k' ∧ ∀ j, k' j = k j ∨ (j = d ∧ i < d) := by
 unfold handF at h
 split at h
 ·cases h
 ·rename_i a1
  split at h
  ·cases h
  ·rename_i a2
   have a2' : d ≤ i → p.op d = 1 := fun e => Decidable.not_not.1 (fun x => a2 ⟨e, x⟩)
   split at h
   ·rename_i a3
    cases h
    exact ⟨by omega, a2', a3, fun _ _ e => e, fun _ => .inl rfl⟩
   ·rename_i a3
    split at h
    ·cases h
    ·rename_i a4
     cases h
     have a5 : ¬ d ≤ i := fun e => a4 (.inl e)
     have a6 : k d = none := by
      cases e : k d with
      | none => rfl
      | some x => exact absurd (.inr (by rw [e]; rfl)) a4
     refine ⟨by omega, a2', by simp [updK], fun j x e => ?_, fun j => ?_⟩
     ·unfold updK
      by_cases ej : j = d
      ·subst ej; rw [a6] at e; cases e
      ·rw [if_neg ej]; exact e
     ·by_cases ej : j = d
      ·exact .inr ⟨ej, by omega⟩
      ·left
       unfold updK
       rw [if_neg ej]
theorem handAll_ok {p : Pv} {i : Nat} : ∀ {es : List (Nat × List Bool)} {k k' : Kn}, handAll p i k es = .ok k' → (∀ x ∈ es, x.1 < p.n ∧ (x.1 ≤ i → p.op x.1 = 1) ∧ k' x.1 = some x.2) ∧ Ext k k' ∧ ∀ j, k' j = k j ∨ (i < j ∧ ∃ l, (j, l) ∈ es)
 | [], k, k', h => by
  cases h
  exact ⟨fun x hx => (by cases hx), fun _ _ e => e, fun _ => .inl rfl⟩
 | x :: r, k, k', h => by
  unfold handAll at h
  cases e : handF p k i x.1 x.2 with
  | error y => rw [e] at h; cases h
  | ok k1 =>
   rw [e] at h
   have h1 := hand_ok e
   obtain ⟨g1, g2, g3⟩ := handAll_ok (es := r) h
   refine ⟨fun z hz => ?_, fun j l hj => g2 j l (h1.2.2.2.1 j l hj), fun j => ?_⟩
   ·rcases List.mem_cons.1 hz with rfl | hz
    ·exact ⟨h1.1, h1.2.1, g2 _ _ h1.2.2.1⟩
    ·exact g1 z hz
   ·rcases g3 j with q | ⟨q1, l, q2⟩
    ·rcases h1.2.2.2.2 j with q' | ⟨rfl, q'⟩
     ·exact .inl (q.trans q')
     ·exact .inr ⟨q', x.2, List.mem_cons_self ..⟩
    ·exact .inr ⟨q1, l, List.mem_cons_of_mem _ q2⟩
/-- A place at which a rule begins. -/
def Ent (p : Pv) (i : Nat) : Prop := ∃ e, e < 6 ∧ 0 ≤ p.en e ∧ (p.en e).toNat = i
theorem entK_some {p : Pv} : ∀ {m : Nat} {i : Nat} {l : List Bool}, entK p m i = some l → l = [] ∧ ∃ e, e < m ∧ 0 ≤ p.en e ∧ (p.en e).toNat = i
 | 0, i, l, h => by cases h
 | m + 1, i, l, h => by
  unfold entK at h
  by_cases e : 0 ≤ p.en m
  ·rw [if_pos e] at h
   unfold updK at h
   by_cases ei : i = (p.en m).toNat
   ·rw [if_pos ei] at h
    cases h
    exact ⟨rfl, m, by omega, e, ei.symm⟩
   ·rw [if_neg ei] at h
    obtain ⟨h1, e2, h2, h3⟩ := entK_some h
    exact ⟨h1, e2, by omega, h3⟩
  ·rw [if_neg e] at h
   obtain ⟨h1, e2, h2, h3⟩ := entK_some h
   exact ⟨h1, e2, by omega, h3⟩
theorem entK_has {p : Pv} : ∀ {m e : Nat}, e < m → 0 ≤ p.en e → entK p m (p.en e).toNat = some []
 | 0, e, h, _ => by omega
 | m + 1, e, h, h0 => by
  unfold entK
  by_cases em : e = m
  ·subst em
   rw [if_pos h0]
   simp [updK]
  ·have := entK_has (m := m) (e := e) (by omega) h0
   by_cases e2 : 0 ≤ p.en m
   ·rw [if_pos e2]
    unfold updK
    split
    ·rfl
    ·exact this
   ·rw [if_neg e2]
    exact this
/-- What is known of the places fits together, and every known place is led to from the front. -/
structure Flow (p : Pv) (k : Kn) : Prop where
 en : ∀ e, e < 6 → 0 ≤ p.en e → k (p.en e).toNat = some []
 fl : ∀ i l, i < p.n → k i = some l → fits p i l ∧ ∀ x ∈ edgs p i l, x.1 < p.n ∧ (x.1 ≤ i → p.op x.1 = 1) ∧ k x.1 = some x.2
 rc : ∀ i l, i < p.n → k i = some l → Ent p i ∨ ∃ j l0 l', j < i ∧ k j = some l0 ∧ (i, l') ∈ edgs p j l0
theorem go_flow {p : Pv} : ∀ {j : Nat} {k : Kn}, goF p j = .ok k → j ≤ p.n → (∀ e, e < 6 → 0 ≤ p.en e → k (p.en e).toNat = some []) ∧ (∀ i l, i < j → k i = some l → fits p i l ∧ ∀ x ∈ edgs p i l, x.1 < p.n ∧ (x.1 ≤ i → p.op x.1 = 1) ∧ k x.1 = some x.2) ∧ ∀ i l, k i = some l → Ent p i ∨ ∃ j' l0 l', j' < i ∧ j' < j ∧ k j' = some l0 ∧ (i, l') ∈ edgs p j' l0
 | 0, k, h, _ => by
  cases h
  exact ⟨fun e he h0 => entK_has he h0, fun i l hi => by omega, fun i l hi => .inl (entK_some hi).2⟩
 | j + 1, k, h, hn => by
  unfold goF at h
  cases e : goF p j with
  | error y => rw [e] at h; cases h
  | ok k0 =>
   rw [e] at h
   obtain ⟨g1, g2, g3⟩ := go_flow e (by omega)
   simp only at h
   cases ek : k0 j with
   | none =>
    rw [ek] at h
    simp at h
    subst h
    refine ⟨g1, fun i l hi hk => ?_, fun i l hk => ?_⟩
    ·by_cases ei : i = j
     ·subst ei; rw [ek] at hk; cases hk
     ·exact g2 i l (by omega) hk
    ·rcases g3 i l hk with q | ⟨j', l0, l', q1, q2, q3⟩
     ·exact .inl q
     ·exact .inr ⟨j', l0, l', q1, by omega, q3⟩
   | some l0 =>
    rw [ek] at h
    simp only [Option.isSome_some, if_true] at h
    cases ev : visitF p k0 j with
    | error y => rw [ev] at h; cases h
    | ok k1 =>
     rw [ev] at h
     simp only at h
     obtain rfl : k1 = k := by cases h; rfl
     have hf := visit_ok ev
     rw [visit_fits hf] at ev
     have hkin : kin (k0 j) = l0 := by rw [ek]; rfl
     rw [hkin] at hf ev
     obtain ⟨a1, a2, a3⟩ := handAll_ok ev
     have same : ∀ i, i ≤ j → k1 i = k0 i := fun i hi => by
      rcases a3 i with q | ⟨q, _⟩
      ·exact q
      ·omega
     refine ⟨fun e he h0 => a2 _ _ (g1 e he h0), fun i l hi hk => ?_, fun i l hk => ?_⟩
     ·rw [same i (by omega)] at hk
      by_cases ei : i = j
      ·subst ei
       rw [ek] at hk
       cases hk
       exact ⟨hf, a1⟩
      ·obtain ⟨b1, b2⟩ := g2 i l (by omega) hk
       exact ⟨b1, fun x hx => ⟨(b2 x hx).1, (b2 x hx).2.1, a2 _ _ (b2 x hx).2.2⟩⟩
     ·rcases a3 i with q | ⟨q, l', q2⟩
      ·rw [q] at hk
       rcases g3 i l hk with r | ⟨j', l1, l', r1, r2, r3, r4⟩
       ·exact .inl r
       ·exact .inr ⟨j', l1, l', r1, by omega, a2 _ _ r3, r4⟩
      ·exact .inr ⟨j, l0, l', q, by omega, by rw [same j (Nat.le_refl _)]; exact ek, q2⟩
theorem flow_of {p : Pv} {k : Kn} (h : verF p = .ok k) : Flow p k := by
 rw [verF_stat] at h
 cases e : statF p with
 | some z => rw [e] at h; cases h
 | none =>
  rw [e] at h
  obtain ⟨h1, h2, h3⟩ := go_flow h (Nat.le_refl _)
  refine ⟨h1, h2, fun i l _ hk => ?_⟩
  rcases h3 i l hk with q | ⟨j, l0, l', q1, _, q2, q3⟩
  ·exact .inl q
  ·exact .inr ⟨j, l0, l', q1, q2, q3⟩
theorem hand_go {p : Pv} {k kk : Kn} {i : Nat} (hsub : ∀ j l, kk j = some l → k j = some l) (hknow : ∀ d l, d ≤ i → d < p.n → k d = some l → kk d = some l) : ∀ {es : List (Nat × List Bool)} {k0 : Kn}, (∀ j l, k0 j = some l → k j = some l) → Ext kk k0 → (∀ x ∈ es, x.1 < p.n ∧ (x.1 ≤ i → p.op x.1 = 1) ∧ k x.1 = some x.2) → ∃ k', handAll p i k0 es = .ok k' ∧ (∀ j l, k' j = some l → k j = some l) ∧ Ext k0 k' ∧ ∀ x ∈ es, k' x.1 = some x.2
 | [], k0, h1, _, _ => ⟨k0, rfl, h1, fun _ _ e => e, fun x hx => (by cases hx)⟩
 | x :: r, k0, h1, h2, h3 => by
  obtain ⟨b1, b2, b3⟩ := h3 x (List.mem_cons_self ..)
  have key : ∃ k1, handF p k0 i x.1 x.2 = .ok k1 ∧ (∀ j l, k1 j = some l → k j = some l) ∧ Ext k0 k1 ∧ k1 x.1 = some x.2 := by
   unfold handF
   rw [if_neg (by omega), if_neg (fun e => e.2 (b2 e.1))]
   by_cases e : k0 x.1 = some x.2
   ·rw [if_pos e]
    exact ⟨k0, rfl, h1, fun _ _ e => e, e⟩
   ·rw [if_neg e]
    have hnone : k0 x.1 = none := by
     cases ek : k0 x.1 with
     | none => rfl
     | some y =>
      have := h1 _ _ ek
      rw [b3] at this
      cases this
      exact absurd ek e
    have hfw : ¬ x.1 ≤ i := fun hle => by
     have := h2 _ _ (hknow x.1 x.2 hle b1 b3)
     rw [hnone] at this
     cases this
    rw [if_neg (by rw [hnone]; intro q; rcases q with q | q; exact hfw q; cases q)]
    refine ⟨_, rfl, fun j l hj => ?_, fun j l hj => ?_, by simp [updK]⟩
    ·unfold updK at hj
     by_cases ej : j = x.1
     ·rw [if_pos ej] at hj; cases hj; rw [ej]; exact b3
     ·rw [if_neg ej] at hj; exact h1 j l hj
    ·unfold updK
     by_cases ej : j = x.1
     ·subst ej; rw [hnone] at hj; cases hj
     ·rw [if_neg ej]; exact hj
  obtain ⟨k1, c1, c2, c3, c4⟩ := key
  obtain ⟨k2, d1, d2, d3, d4⟩ := hand_go hsub hknow (es := r) (k0 := k1) c2 (fun j l e => c3 j l (h2 j l e)) (fun z hz => h3 z (List.mem_cons_of_mem _ hz))
  refine ⟨k2, ?_, d2, fun j l e => d3 j l (c3 j l e), fun z hz => ?_⟩
  ·unfold handAll
   rw [c1]
   exact d1
  ·rcases List.mem_cons.1 hz with rfl | hz
   ·exact d3 _ _ c4
   ·exact d4 z hz
theorem flow_go {p : Pv} {k : Kn} (h : Flow p k) : ∀ {j : Nat}, j ≤ p.n → ∃ kj, goF p j = .ok kj ∧ (∀ i l, kj i = some l → k i = some l) ∧ ∀ i l, i < p.n → k i = some l → (Ent p i ∨ ∃ j' l0 l', j' < i ∧ j' < j ∧ k j' = some l0 ∧ (i, l') ∈ edgs p j' l0) → kj i = some l
 | 0, _ => by
  refine ⟨_, rfl, fun i l hi => ?_, fun i l _ hk hev => ?_⟩
  ·obtain ⟨rfl, e, he, h0, rfl⟩ := entK_some hi
   exact h.en e he h0
  ·rcases hev with ⟨e, he, h0, rfl⟩ | ⟨j', l0, l', _, q, _⟩
   ·have := h.en e he h0
    rw [hk] at this
    rw [this]
    exact entK_has he h0
   ·omega
 | j + 1, hn => by
  obtain ⟨kj, g1, g2, g3⟩ := flow_go h (j := j) (by omega)
  cases ek : kj j with
  | none =>
   have hkj : k j = none := by
    cases e : k j with
    | none => rfl
    | some l =>
     have := g3 j l (by omega) e (by
      rcases h.rc j l (by omega) e with q | ⟨j', l0, l', q1, q2, q3⟩
      ·exact .inl q
      ·exact .inr ⟨j', l0, l', q1, q1, q2, q3⟩)
     rw [ek] at this
     cases this
   refine ⟨kj, ?_, g2, fun i l hi hk hev => g3 i l hi hk ?_⟩
   ·unfold goF
    rw [g1]
    simp [ek]
   ·rcases hev with q | ⟨j', l0, l', q1, q2, q3, q4⟩
    ·exact .inl q
    ·by_cases ej : j' = j
     ·subst ej; rw [hkj] at q3; cases q3
     ·exact .inr ⟨j', l0, l', q1, by omega, q3, q4⟩
  | some l0 =>
   have hkj := g2 j l0 ek
   obtain ⟨hf, he⟩ := h.fl j l0 (by omega) hkj
   have hkin : kin (kj j) = l0 := by rw [ek]; rfl
   obtain ⟨k', a1, a2, a3, a4⟩ := hand_go (p := p) (k := k) (kk := kj) (i := j) g2 (fun d l hd hdn hk => g3 d l hdn hk (by
    rcases h.rc d l hdn hk with q | ⟨j', l1, l', q1, q2, q3⟩
    ·exact .inl q
    ·exact .inr ⟨j', l1, l', q1, by omega, q2, q3⟩)) (es := edgs p j l0) (k0 := kj) g2 (fun _ _ e => e) he
   refine ⟨k', ?_, a2, fun i l hi hk hev => ?_⟩
   ·unfold goF
    rw [g1]
    simp only [ek, Option.isSome_some, if_true]
    rw [visit_fits (by rw [hkin]; exact hf), hkin, a1]
   ·rcases hev with q | ⟨j', l1, l', q1, q2, q3, q4⟩
    ·exact a3 _ _ (g3 i l hi hk (.inl q))
    ·by_cases ej : j' = j
     ·subst ej
      rw [hkj] at q3
      cases q3
      have := a4 _ q4
      have h2 := a2 _ _ this
      simp only at h2
      rw [hk] at h2
      rw [← h2] at this
      exact this
     ·exact a3 _ _ (g3 i l hi hk (.inr ⟨j', l1, l', q1, by omega, q3, q4⟩))
/-- What fits together is what Verify finds. -/
theorem ver_of {p : Pv} {k : Kn} (hs : statF p = none) (h : Flow p k) : ∃ k', verF p = .ok k' ∧ ∀ i, i < p.n → k' i = k i := by
 obtain ⟨k', g1, g2, g3⟩ := flow_go h (Nat.le_refl _)
 refine ⟨k', ?_, fun i hi => ?_⟩
 ·rw [verF_stat, hs]
  exact g1
 ·cases e : k i with
  | some l =>
   refine g3 i l hi e ?_
   rcases h.rc i l hi e with q | ⟨j', l0, l', q1, q2, q3⟩
   ·exact .inl q
   ·exact .inr ⟨j', l0, l', q1, by omega, q2, q3⟩
  | none =>
   cases e2 : k' i with
   | none => rfl
   | some l =>
    have := g2 i l e2
    rw [e] at this
    cases this
end Go.Proofs.YtggpaljilpbmhaaGreatDoor
namespace Go.Proofs.YtggpaljilpbmhaaGreatDoor
open Go.RowKit

theorem KI.kl {w : World} {v : Value} {l : List Bool} (h : KI w v l) : KL w.heap.size w v l := by
 obtain ⟨ao, cap, h1, h2, h3⟩ := h
 by_cases e : 0 < l.length
 ·obtain ⟨b, cs, e1, e2, e3⟩ := h3 e
  exact ⟨ao, cap, b, 0, h1, h2, fun _ => ⟨e1, block_lt e2⟩, fun j x hx => by rw [Nat.zero_add]; exact (block_cell e2 j).trans (e3 j x hx)⟩
 ·refine ⟨ao, cap, 0, 0, h1, h2, fun x => absurd x e, fun j x hx => ?_⟩
  have := (List.getElem?_eq_some_iff.1 hx).1
  omega
end Go.Proofs.YtggpaljilpbmhaaGreatDoor
namespace Go.Proofs.YtggpaljilpbmhaaGreatDoor
open Go.RowKit

/-- The world while the letters are gone through. -/
structure Lt (W : World) (hb n : Nat) (k : Kn) (l : List Bool) (ib j : Nat) (v : Value) (wr : World) : Prop where
 it : wr.heap[ib]? = some (.stringIter (ktx l) j)
 row : wr.ownsRow W.heap.size 3 1 v j ((l.take j).map iv)
 bel : Below W.heap.size W wr
 sh : Shp wr hb n k
 lb : W.heap.size ≤ ib
 len : l.length ≤ 64
theorem Lt.next {W : World} {hb n : Nat} {k : Kn} {l : List Bool} {ib j : Nat} {v : Value} {wr : World} (h : Lt W hb n k l ib j v wr) {b : Bool} (hb' : l[j]? = some b) {w1 w2 : World} (h1 : w1 = wr.iterAt ib (ktx l) (j + 1)) {v' : Value} {o : Obj}
  (ho : w2.ownsRow W.heap.size 3 1 v' (j + 1) ((l.take j).map iv ++ [iv b])) (hg : (w1.alloc o).grownBy w2 v.ownBlock) : Lt W hb n k l ib (j + 1) v' w2 := by
 have g1 := iter_grown wr ib (ktx l) (j + 1)
 rw [← h1] at g1
 have hi1 : w1.heap[ib]? = some (.stringIter (ktx l) (j + 1)) := by rw [h1]; exact Lib.iterAt_heap wr ib _ _ _ h.it
 have ne1 : ∀ {q : Nat} {cs : Array Value} {t : TypeId} {z : Nat × Nat}, wr.heap[q]? = some (.cells cs t z) → q ≠ ib := fun hq e => by rw [e, h.it] at hq; cases hq
 have hl1 : ib < w1.heap.size := block_lt hi1
 have hv : ∀ g, v.ownBlock = some g → g ≠ ib ∧ ∃ cur, wr.heap[g]? = some (.cells cur 3 (0, 0)) := by
  intro g hgv
  rcases h.row.2 with ⟨e, _⟩ | ⟨g', cap, cur, e, _, hc, _⟩
  ·rw [e] at hgv; cases hgv
  ·rw [e] at hgv
   cases hgv
   exact ⟨ne1 hc, cur, hc⟩
 have b1 : Below W.heap.size W (w1.alloc o) := by
  have := Lib.below_iterAt h.bel h.lb (ktx l) (j + 1)
  rw [← h1] at this
  exact this.alloc this.size o
 have al := below_alloc1 w1 o
 refine ⟨?_, ?_, ?_, ?_, h.lb, h.len⟩
 ·refine (hg.block ib (by simp; omega) (fun e => ?_)).trans ((al.block ib hl1).trans hi1)
  exact (hv ib e.symm).1 rfl
 ·rw [List.take_add_one, hb', List.map_append]
  exact ho
 ·refine b1.grown hg b1.size (fun g e => ?_)
  exact (h.row.lt g e).1
 ·obtain ⟨cs, r1, r2⟩ := h.sh
  have x1 := (g1.block _ (block_lt r1) (by simpa using ne1 r1)).trans r1
  have x2 := (al.block _ (block_lt x1)).trans x1
  refine ⟨cs, (hg.block hb (block_lt x2) (fun e => ?_)).trans x2, r2⟩
  obtain ⟨_, cur, hc⟩ := hv hb e.symm
  rw [r1] at hc
  simp at hc
end Go.Proofs.YtggpaljilpbmhaaGreatDoor
