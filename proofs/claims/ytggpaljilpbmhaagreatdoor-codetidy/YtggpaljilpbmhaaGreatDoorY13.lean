import Derived.Test.YtggpaljilpbmhaaGreatDoorY12
namespace Go.Proofs.YtggpaljilpbmhaaGreatDoor
open Go.RowKit

/-- The world of the reference's visit. -/
structure Vs (lim : Nat) (W : World) (q ba bs ca cc : Nat) (g : Pg) (p : Pv) (k : Kn) (o : Nat) (a : Int) (xb : Nat) (w : World) : Prop where
 prg : w.heap[W.heap.size]? = some (.cells (g.cs p).toArray 27 (0, 0))
 ins : w.heap[xb]? = some (.cells #[.int .i64 (o : Nat), .int .i64 a] 42 (0, 0))
 rw : RW lim w q ba bs ca cc g p k
 g2 : G2w W w ba bs
section
variable {lim : Nat} {W : World} {q ba bs ca cc : Nat} {g : Pg} {p : Pv} {k k' : Kn} {o : Nat} {a : Int} {xb : Nat} {w w' : World}
theorem Vs.next (h : Vs lim W q ba bs ca cc g p k o a xb w) (hb : Below w.heap.size w w') : Vs lim W q ba bs ca cc g p k o a xb w' :=
 ⟨(hb.block _ (block_lt h.prg)).trans h.prg, (hb.block _ (block_lt h.ins)).trans h.ins, h.rw.kept hb, h.g2.trans (G2w.of hb)⟩
theorem Vs.hand (h : Vs lim W q ba bs ca cc g p k o a xb w) (hr : RW lim w' q ba bs ca cc g p k') (hg : G2w w w' ba bs) : Vs lim W q ba bs ca cc g p k' o a xb w' := by
 obtain ⟨c1, a1, a2⟩ := h.rw.rowA
 obtain ⟨c2, b1, b2⟩ := h.rw.rowB
 have n1 : W.heap.size ≠ ba := fun e => by have := h.prg; rw [e, a1] at this; simp at this
 have n2 : W.heap.size ≠ bs := fun e => by have := h.prg; rw [e, b1] at this; simp at this
 have n3 : xb ≠ ba := fun e => by have := h.ins; rw [e, a1] at this; simp at this
 have n4 : xb ≠ bs := fun e => by have := h.ins; rw [e, b1] at this; simp at this
 exact ⟨(hg.block _ (block_lt h.prg) n1 n2).trans h.prg, (hg.block _ (block_lt h.ins) n3 n4).trans h.ins, hr, h.g2.trans hg⟩
theorem Vs.cells (h : Vs lim W q ba bs ca cc g p k o a xb w) : w.cell? ⟨W.heap.size, 0, none⟩ = some (.slice g.ca p.nc g.cc) ∧ w.cell? ⟨W.heap.size, 1, none⟩ = some (.slice g.sa p.ns g.sc) ∧ w.cell? ⟨W.heap.size, 2, none⟩ = some (.int .i64 (p.en 0)) ∧ w.cell? ⟨W.heap.size, 3, none⟩ = some (.int .i64 (p.en 1)) ∧ w.cell? ⟨W.heap.size, 4, none⟩ = some (.int .i64 (p.en 2)) ∧ w.cell? ⟨W.heap.size, 5, none⟩ = some (.int .i64 (p.en 3)) ∧ w.cell? ⟨W.heap.size, 6, none⟩ = some (.int .i64 (p.en 4)) ∧ w.cell? ⟨W.heap.size, 7, none⟩ = some (.int .i64 (p.en 5)) ∧ w.cell? ⟨W.heap.size, 8, none⟩ = some (.slice g.ia p.n g.ic) ∧ W.heap.size < w.heap.size ∧ w.cell? ⟨xb, 0, none⟩ = some (.int .i64 (o : Nat)) ∧ w.cell? ⟨xb, 1, none⟩ = some (.int .i64 a) ∧ xb < w.heap.size :=
 ⟨block_cell h.prg 0, block_cell h.prg 1, block_cell h.prg 2, block_cell h.prg 3, block_cell h.prg 4, block_cell h.prg 5, block_cell h.prg 6, block_cell h.prg 7, block_cell h.prg 8, block_lt h.prg, block_cell h.ins 0, block_cell h.ins 1, block_lt h.ins⟩
end
theorem wp_append1 {P : Program} {o : Oper} {a : Act} {w w' : World} {K : Act → World → Prop} {Q : Exit → Act → World → Prop} (s x : Operand) (t : TypeId) (ho : o.op = .call { callee := .builtin .append, args := #[s, x], argTypes := #[t, t] }) {v v' : Value} {ad : Addr} {m c : Nat} (hs : a.eval s = v) (hx : a.eval x = .slice (some ad) m c)
  (hr : (Builtin.append_ #[t, t] o.type #[v, .slice (some ad) m c]).run P w = .ok v' w') (hK : K (a.put o.dst v') w') : Oper.wp P o a w K Q := by
 unfold Oper.wp execOp
 simp only [ho, resolve, invoke, builtin, Sem.run_bind, Sem.run_pure, Result.andThen_ok, List.map_toArray, List.map_cons, List.map_nil, hs, hx, hr]
 exact hK
end Go.Proofs.YtggpaljilpbmhaaGreatDoor
namespace Go.Proofs.YtggpaljilpbmhaaGreatDoor
open Go.RowKit

/-- The world while the reference lays its rows. -/
structure L1 (W : World) (rb q : Nat) (g : Pg) (p : Pv) (ja jb : Nat) (va vb : Value) (w : World) : Prop where
 prg : w.heap[W.heap.size]? = some (.cells (g.cs p).toArray 27 (0, 0))
 res : w.heap[rb]? = some (.cells #[.slice none 0 0, .int .i64 0] 54 (0, 0))
 wlk : w.heap[q]? = some (.cells #[va, vb] 211 (0, 0))
 ra : w.ownsRow W.heap.size 4 1 va ja (List.replicate ja (.bool false))
 rb : w.ownsRow W.heap.size 23 1 vb jb (List.replicate jb (.slice none 0 0))
 bel : Below W.heap.size W w
 lq : W.heap.size ≤ q
theorem own_typ {w : World} {base n : Nat} {t : TypeId} {v : Value} {xs : List Value} (h : w.ownsRow base t 1 v n xs) {b : Nat} (e : v.ownBlock = some b) : base ≤ b ∧ ∃ cs : Array Value, w.heap[b]? = some (.cells cs t (0, 0)) := by
 refine ⟨(h.lt b e).1, ?_⟩
 rcases h.2 with ⟨e3, _⟩ | ⟨g3, cap, cur, e3, _, hc, _⟩
 ·rw [e3] at e; cases e
 ·rw [e3] at e
  cases e
  exact ⟨_, hc⟩
theorem own_off {w : World} {base n : Nat} {t t' : TypeId} {v : Value} {xs : List Value} (h : w.ownsRow base t 1 v n xs) (hne : t ≠ t') {b : Nat} {cs : Array Value} {z : Nat × Nat} (e : w.heap[b]? = some (.cells cs t' z)) : v.ownBlock ≠ some b := fun e2 => by
 obtain ⟨_, cs', h'⟩ := own_typ h e2
 rw [e] at h'
 cases h'
 exact hne rfl
section
variable {W : World} {rb q : Nat} {g : Pg} {p : Pv} {ja jb : Nat} {va vb : Value} {w w' : World} {o : Obj}
theorem L1.stepA (h : L1 W rb q g p ja jb va vb w) {va' : Value} (ho : w'.ownsRow W.heap.size 4 1 va' (ja + 1) (List.replicate ja (.bool false) ++ [.bool false])) (hg : (w.alloc o).grownBy w' va.ownBlock) : L1 W rb q g p (ja + 1) jb va' vb (w'.setCell ⟨q, 0, none⟩ va') ∧ w'.heap[q]? = some (.cells #[va, vb] 211 (0, 0)) := by
 have al := below_alloc1 w o
 have K : ∀ {b : Nat} {cs : Array Value} {t' : TypeId} {z : Nat × Nat}, (4 : TypeId) ≠ t' → w.heap[b]? = some (.cells cs t' z) → w'.heap[b]? = some (.cells cs t' z) := fun hne e =>
  (hg.block _ (Nat.lt_of_lt_of_le (block_lt e) al.size) (fun x => own_off h.ra hne e x.symm)).trans ((al.block _ (block_lt e)).trans e)
 have kw := K (by decide) h.wlk
 have kp := K (by decide) h.prg
 have kr := K (by decide) h.res
 have G := grown_set w' q 0 va'
 have s1 := heap_setCell_same w' q 0 _ _ va' kw
 have n1 : W.heap.size ≠ q := fun e => by rw [e] at kp; rw [kw] at kp; simp at kp
 have n2 : rb ≠ q := fun e => by rw [e] at kr; rw [kw] at kr; simp at kr
 refine ⟨⟨(G.block _ (block_lt kp) (by simpa using n1)).trans kp, (G.block _ (block_lt kr) (by simpa using n2)).trans kr, by simpa using s1, ?_, ?_, ?_, h.lq⟩, kw⟩
 ·rw [List.replicate_succ']
  exact ho.kept G (.inr (own_off ho (by decide) kw))
 ·have r1 := row_quietT h.rb (World.grownBy_alloc w o none)
  have r2 : w'.ownsRow W.heap.size 23 1 vb jb (List.replicate jb (.slice none 0 0)) := by
   refine r1.kept hg ?_
   cases e : vb.ownBlock with
   | none => exact .inl rfl
   | some b =>
    obtain ⟨_, cs, hc⟩ := own_typ h.rb e
    exact .inr (fun x => own_off h.ra (by decide) hc x.symm)
  exact r2.kept G (.inr (own_off r2 (by decide) kw))
 ·exact ((h.bel.alloc h.bel.size o).grown hg (by have := h.bel.size; simp; omega) (fun b e => (h.ra.lt b e).1)).setCell (p := ⟨q, 0, none⟩) h.lq va'
/-- The rows laid: the Walk as it lies, where there are instructions. -/
theorem L1.whole (h : L1 W rb q g p p.n p.n va vb w) (hok : g.Ok p W.heap.size w) (hn : 0 < p.n) : ∃ ba bs ca cc, RW W.heap.size w q ba bs ca cc g p (fun _ => none) := by
 rcases h.ra.2 with ⟨_, e0⟩ | ⟨ba, ca, cur, e1, hb1, hc1, hn1, _, hs1, ht1⟩
 ·omega
 ·rcases h.rb.2 with ⟨_, e0⟩ | ⟨bs, cc, cur2, e2, hb2, hc2, hn2, _, hs2, ht2⟩
  ·omega
  ·refine ⟨ba, bs, ca, cc, ?_, ⟨_, hc1, fun j hj => ?_⟩, ⟨_, hc2, fun j hj => ⟨.slice none 0 0, ?_, KI.nil w⟩⟩, hok, h.lq, hb1, hb2, hn1, hn2⟩
   ·rw [h.wlk, e1, e2]
   ·have : (List.replicate p.n (Value.bool false))[j]? = some (.bool false) := by simp [hj]
    rw [← ht1, List.getElem?_take, if_pos (by omega)] at this
    simpa using this
   ·have : (List.replicate p.n (Value.slice none 0 0))[j]? = some (.slice none 0 0) := by simp [hj]
    rw [← ht2, List.getElem?_take, if_pos (by omega)] at this
    simpa using this
end
/-- The world of the reference's walk behind its first loop. -/
structure L2 (W : World) (rb q ba bs ca cc : Nat) (g : Pg) (p : Pv) (k : Kn) (w : World) : Prop where
 prg : w.heap[W.heap.size]? = some (.cells (g.cs p).toArray 27 (0, 0))
 res : w.heap[rb]? = some (.cells #[.slice none 0 0, .int .i64 0] 54 (0, 0))
 rw : 0 < p.n → RW W.heap.size w q ba bs ca cc g p k
 bel : Below W.heap.size W w
 lr : W.heap.size ≤ rb
theorem L2.next {W : World} {rb q ba bs ca cc : Nat} {g : Pg} {p : Pv} {k : Kn} {w w' : World} (h : L2 W rb q ba bs ca cc g p k w) (hb : Below w.heap.size w w') : L2 W rb q ba bs ca cc g p k w' :=
 ⟨(hb.block _ (block_lt h.prg)).trans h.prg, (hb.block _ (block_lt h.res)).trans h.res, fun e => (h.rw e).kept hb, h.bel.trans (hb.mono h.bel.size), h.lr⟩
theorem L2.step {W : World} {rb q ba bs ca cc : Nat} {g : Pg} {p : Pv} {k k' : Kn} {w w' : World} (h : L2 W rb q ba bs ca cc g p k w) (hn : 0 < p.n) (hr : RW W.heap.size w' q ba bs ca cc g p k') (hg : G2w w w' ba bs) : L2 W rb q ba bs ca cc g p k' w' := by
 have hrw := h.rw hn
 obtain ⟨c1, a1, a2⟩ := hrw.rowA
 obtain ⟨c2, b1, b2⟩ := hrw.rowB
 have n1 : W.heap.size ≠ ba := fun e => by have := h.prg; rw [e, a1] at this; simp at this
 have n2 : W.heap.size ≠ bs := fun e => by have := h.prg; rw [e, b1] at this; simp at this
 have n3 : rb ≠ ba := fun e => by have := h.res; rw [e, a1] at this; simp at this
 have n4 : rb ≠ bs := fun e => by have := h.res; rw [e, b1] at this; simp at this
 exact ⟨(hg.block _ (block_lt h.prg) n1 n2).trans h.prg, (hg.block _ (block_lt h.res) n3 n4).trans h.res, fun _ => hr, h.bel.trans (hg.below hrw.la hrw.lb hrw.le), h.lr⟩
theorem L2.bel2 {W : World} {rb q ba bs ca cc : Nat} {g : Pg} {p : Pv} {k : Kn} {w w' : World} (h : L2 W rb q ba bs ca cc g p k w) (hn : 0 < p.n) (hg : G2w w w' ba bs) : Below W.heap.size W w' ∧ w'.heap[rb]? = some (.cells #[.slice none 0 0, .int .i64 0] 54 (0, 0)) := by
 have hrw := h.rw hn
 obtain ⟨c1, a1, a2⟩ := hrw.rowA
 obtain ⟨c2, b1, b2⟩ := hrw.rowB
 have n3 : rb ≠ ba := fun e => by have := h.res; rw [e, a1] at this; simp at this
 have n4 : rb ≠ bs := fun e => by have := h.res; rw [e, b1] at this; simp at this
 exact ⟨h.bel.trans (hg.below hrw.la hrw.lb hrw.le), (hg.block _ (block_lt h.res) n3 n4).trans h.res⟩
end Go.Proofs.YtggpaljilpbmhaaGreatDoor
