import Derived.Test.YtmoklddfaocihaaDoorCvR
namespace Go.Proofs.YtmoklddfaocihaaDoor
open Go.RowKit

/-- The world while the reference lays its rows. -/
structure L1 (W : World) (rb q : Nat) (g : Pg) (p : Pv) (ja jb : Nat) (va vb : Value) (w : World) : Prop where
  prg : w.heap[W.heap.size]? = some (.cells (g.cs p).toArray 27 (0, 0))
  res : w.heap[rb]? = some (.cells #[.slice none 0 0, .int .i64 0] 30 (0, 0))
  wlk : w.heap[q]? = some (.cells #[va, vb] 118 (0, 0))
  ra : w.ownsRow W.heap.size 4 1 va ja (List.replicate ja (.bool false))
  rb : w.ownsRow W.heap.size 23 1 vb jb (List.replicate jb (.slice none 0 0))
  bel : Below W.heap.size W w
  lq : W.heap.size ≤ q
theorem own_typ {w : World} {base n : Nat} {t : TypeId} {v : Value} {xs : List Value} (h : w.ownsRow base t 1 v n xs) {b : Nat} (e : v.ownBlock = some b) : base ≤ b ∧ ∃ cs : Array Value, w.heap[b]? = some (.cells cs t (0, 0)) := by
  refine ⟨(h.lt b e).1, ?_⟩
  rcases h.2 with ⟨e3, _⟩ | ⟨g3, cap, cur, e3, _, hc, _⟩
  · rw [e3] at e; cases e
  · rw [e3] at e
    cases e
    exact ⟨_, hc⟩
theorem own_off {w : World} {base n : Nat} {t t' : TypeId} {v : Value} {xs : List Value} (h : w.ownsRow base t 1 v n xs) (hne : t ≠ t') {b : Nat} {cs : Array Value} {z : Nat × Nat} (e : w.heap[b]? = some (.cells cs t' z)) : v.ownBlock ≠ some b := fun e2 => by
  obtain ⟨_, cs', h'⟩ := own_typ h e2
  rw [e] at h'
  cases h'
  exact hne rfl
section
variable {W : World} {rb q : Nat} {g : Pg} {p : Pv} {ja jb : Nat} {va vb : Value} {w w' : World} {o : Obj}
theorem L1.stepA (h : L1 W rb q g p ja jb va vb w) {va' : Value} (ho : w'.ownsRow W.heap.size 4 1 va' (ja + 1) (List.replicate ja (.bool false) ++ [.bool false])) (hg : (w.alloc o).grownBy w' va.ownBlock) : L1 W rb q g p (ja + 1) jb va' vb (w'.setCell ⟨q, 0, none⟩ va') ∧ w'.heap[q]? = some (.cells #[va, vb] 118 (0, 0)) := by
  have al := below_alloc1 w o
  have K : ∀ {b : Nat} {cs : Array Value} {t' : TypeId} {z : Nat × Nat}, (4 : TypeId) ≠ t' → w.heap[b]? = some (.cells cs t' z) → w'.heap[b]? = some (.cells cs t' z) := fun hne e =>
    (hg.block _ (Nat.lt_of_lt_of_le (block_lt e) al.size) (fun x => own_off h.ra hne e x.symm)).trans ((al.block _ (block_lt e)).trans e)
  have kw := K (by decide) h.wlk
  have kp := K (by decide) h.prg
  have kr := K (by decide) h.res
  have G := grown_set w' q 0 va'
  have s1 := heap_setCell_same w' q 0 _ _ va' kw
  have n1 : W.heap.size ≠ q := fun e => by rw [e] at kp; rw [kw] at kp; simp at kp
  have n2 : rb ≠ q := fun e => by rw [e] at kr; rw [kw] at kr; simp at kr
  refine ⟨⟨(G.block _ (block_lt kp) (by simpa using n1)).trans kp, (G.block _ (block_lt kr) (by simpa using n2)).trans kr, by simpa using s1, ?_, ?_, ?_, h.lq⟩, kw⟩
  · rw [List.replicate_succ']
    exact ho.kept G (.inr (own_off ho (by decide) kw))
  · have r1 := row_quietT h.rb (World.grownBy_alloc w o none)
    have r2 : w'.ownsRow W.heap.size 23 1 vb jb (List.replicate jb (.slice none 0 0)) := by
      refine r1.kept hg ?_
      cases e : vb.ownBlock with
      | none => exact .inl rfl
      | some b =>
        obtain ⟨_, cs, hc⟩ := own_typ h.rb e
        exact .inr (fun x => own_off h.ra (by decide) hc x.symm)
    exact r2.kept G (.inr (own_off r2 (by decide) kw))
  · exact ((h.bel.alloc h.bel.size o).grown hg (by have := h.bel.size; simp; omega) (fun b e => (h.ra.lt b e).1)).setCell (p := ⟨q, 0, none⟩) h.lq va'
theorem L1.stepB (h : L1 W rb q g p ja jb va vb w) {vb' : Value} (ho : w'.ownsRow W.heap.size 23 1 vb' (jb + 1) (List.replicate jb (.slice none 0 0) ++ [.slice none 0 0])) (hg : (w.alloc o).grownBy w' vb.ownBlock) : L1 W rb q g p ja (jb + 1) va vb' (w'.setCell ⟨q, 1, none⟩ vb') ∧ w'.heap[q]? = some (.cells #[va, vb] 118 (0, 0)) := by
  have al := below_alloc1 w o
  have K : ∀ {b : Nat} {cs : Array Value} {t' : TypeId} {z : Nat × Nat}, (23 : TypeId) ≠ t' → w.heap[b]? = some (.cells cs t' z) → w'.heap[b]? = some (.cells cs t' z) := fun hne e =>
    (hg.block _ (Nat.lt_of_lt_of_le (block_lt e) al.size) (fun x => own_off h.rb hne e x.symm)).trans ((al.block _ (block_lt e)).trans e)
  have kw := K (by decide) h.wlk
  have kp := K (by decide) h.prg
  have kr := K (by decide) h.res
  have G := grown_set w' q 1 vb'
  have s1 := heap_setCell_same w' q 1 _ _ vb' kw
  have n1 : W.heap.size ≠ q := fun e => by rw [e] at kp; rw [kw] at kp; simp at kp
  have n2 : rb ≠ q := fun e => by rw [e] at kr; rw [kw] at kr; simp at kr
  refine ⟨⟨(G.block _ (block_lt kp) (by simpa using n1)).trans kp, (G.block _ (block_lt kr) (by simpa using n2)).trans kr, by simpa using s1, ?_, ?_, ?_, h.lq⟩, kw⟩
  · have r1 := row_quietT h.ra (World.grownBy_alloc w o none)
    have r2 : w'.ownsRow W.heap.size 4 1 va ja (List.replicate ja (.bool false)) := by
      refine r1.kept hg ?_
      cases e : va.ownBlock with
      | none => exact .inl rfl
      | some b =>
        obtain ⟨_, cs, hc⟩ := own_typ h.ra e
        exact .inr (fun x => own_off h.rb (by decide) hc x.symm)
    exact r2.kept G (.inr (own_off r2 (by decide) kw))
  · rw [List.replicate_succ']
    exact ho.kept G (.inr (own_off ho (by decide) kw))
  · exact ((h.bel.alloc h.bel.size o).grown hg (by have := h.bel.size; simp; omega) (fun b e => (h.rb.lt b e).1)).setCell (p := ⟨q, 1, none⟩) h.lq vb'
/-- The rows laid: the Walk as it lies, where there are instructions. -/
theorem L1.whole (h : L1 W rb q g p p.n p.n va vb w) (hok : g.Ok p W.heap.size w) (hn : 0 < p.n) : ∃ ba bs ca cc, RW W.heap.size w q ba bs ca cc g p (fun _ => none) := by
  rcases h.ra.2 with ⟨_, e0⟩ | ⟨ba, ca, cur, e1, hb1, hc1, hn1, _, hs1, ht1⟩
  · omega
  · rcases h.rb.2 with ⟨_, e0⟩ | ⟨bs, cc, cur2, e2, hb2, hc2, hn2, _, hs2, ht2⟩
    · omega
    · refine ⟨ba, bs, ca, cc, ?_, ⟨_, hc1, fun j hj => ?_⟩, ⟨_, hc2, fun j hj => ⟨.slice none 0 0, ?_, KI.nil w⟩⟩, hok, h.lq, hb1, hb2, hn1, hn2⟩
      · rw [h.wlk, e1, e2]
      · have : (List.replicate p.n (Value.bool false))[j]? = some (.bool false) := by simp [hj]
        rw [← ht1, List.getElem?_take, if_pos (by omega)] at this
        simpa using this
      · have : (List.replicate p.n (Value.slice none 0 0))[j]? = some (.slice none 0 0) := by simp [hj]
        rw [← ht2, List.getElem?_take, if_pos (by omega)] at this
        simpa using this
end
theorem Tryd.infoB : (Tryd.prog.info? 4).map (fun i => (i.zero, i.size, i.bytes)) = some (some (.bool false), 1, 1) := by kernel_rfl
theorem Tryd.infoSl : (Tryd.prog.info? 23).map (fun i => (i.zero, i.size, i.bytes)) = some (some (.slice none 0 0), 1, 24) := by kernel_rfl
/-- The world of the reference's walk behind its first loop. -/
structure L2 (W : World) (rb q ba bs ca cc : Nat) (g : Pg) (p : Pv) (k : Kn) (w : World) : Prop where
  prg : w.heap[W.heap.size]? = some (.cells (g.cs p).toArray 27 (0, 0))
  res : w.heap[rb]? = some (.cells #[.slice none 0 0, .int .i64 0] 30 (0, 0))
  rw : 0 < p.n → RW W.heap.size w q ba bs ca cc g p k
  bel : Below W.heap.size W w
  lr : W.heap.size ≤ rb
theorem L2.next {W : World} {rb q ba bs ca cc : Nat} {g : Pg} {p : Pv} {k : Kn} {w w' : World} (h : L2 W rb q ba bs ca cc g p k w) (hb : Below w.heap.size w w') : L2 W rb q ba bs ca cc g p k w' :=
  ⟨(hb.block _ (block_lt h.prg)).trans h.prg, (hb.block _ (block_lt h.res)).trans h.res, fun e => (h.rw e).kept hb, h.bel.trans (hb.mono h.bel.size), h.lr⟩
theorem L2.step {W : World} {rb q ba bs ca cc : Nat} {g : Pg} {p : Pv} {k k' : Kn} {w w' : World} (h : L2 W rb q ba bs ca cc g p k w) (hn : 0 < p.n) (hr : RW W.heap.size w' q ba bs ca cc g p k') (hg : G2w w w' ba bs) : L2 W rb q ba bs ca cc g p k' w' := by
  have hrw := h.rw hn
  obtain ⟨c1, a1, a2⟩ := hrw.rowA
  obtain ⟨c2, b1, b2⟩ := hrw.rowB
  have n1 : W.heap.size ≠ ba := fun e => by have := h.prg; rw [e, a1] at this; simp at this
  have n2 : W.heap.size ≠ bs := fun e => by have := h.prg; rw [e, b1] at this; simp at this
  have n3 : rb ≠ ba := fun e => by have := h.res; rw [e, a1] at this; simp at this
  have n4 : rb ≠ bs := fun e => by have := h.res; rw [e, b1] at this; simp at this
  exact ⟨(hg.block _ (block_lt h.prg) n1 n2).trans h.prg, (hg.block _ (block_lt h.res) n3 n4).trans h.res, fun _ => hr, h.bel.trans (hg.below hrw.la hrw.lb hrw.le), h.lr⟩
theorem L2.bel2 {W : World} {rb q ba bs ca cc : Nat} {g : Pg} {p : Pv} {k : Kn} {w w' : World} (h : L2 W rb q ba bs ca cc g p k w) (hn : 0 < p.n) (hg : G2w w w' ba bs) : Below W.heap.size W w' ∧ w'.heap[rb]? = some (.cells #[.slice none 0 0, .int .i64 0] 30 (0, 0)) := by
  have hrw := h.rw hn
  obtain ⟨c1, a1, a2⟩ := hrw.rowA
  obtain ⟨c2, b1, b2⟩ := hrw.rowB
  have n3 : rb ≠ ba := fun e => by have := h.res; rw [e, a1] at this; simp at this
  have n4 : rb ≠ bs := fun e => by have := h.res; rw [e, b1] at this; simp at this
  exact ⟨h.bel.trans (hg.below hrw.la hrw.lb hrw.le), (hg.block _ (block_lt h.res) n3 n4).trans h.res⟩
end Go.Proofs.YtmoklddfaocihaaDoor
