import Derived.Test.YtmoklddfaocihaaDoorCvK
namespace Go.Proofs.YtmoklddfaocihaaDoor
open Go.RowKit

/-- The world while the letters are gone through. -/
structure Lt (W : World) (hb n : Nat) (k : Kn) (l : List Bool) (ib j : Nat) (v : Value) (wr : World) : Prop where
  it : wr.heap[ib]? = some (.stringIter (ktx l) j)
  row : wr.ownsRow W.heap.size 3 1 v j ((l.take j).map iv)
  bel : Below W.heap.size W wr
  sh : Shp wr hb n k
  lb : W.heap.size ≤ ib
  len : l.length ≤ 64
theorem Lt.next {W : World} {hb n : Nat} {k : Kn} {l : List Bool} {ib j : Nat} {v : Value} {wr : World} (h : Lt W hb n k l ib j v wr) {b : Bool} (hb' : l[j]? = some b) {w1 w2 : World} (h1 : w1 = wr.iterAt ib (ktx l) (j + 1)) {v' : Value} {o : Obj}
    (ho : w2.ownsRow W.heap.size 3 1 v' (j + 1) ((l.take j).map iv ++ [iv b])) (hg : (w1.alloc o).grownBy w2 v.ownBlock) : Lt W hb n k l ib (j + 1) v' w2 := by
  have g1 := iter_grown wr ib (ktx l) (j + 1)
  rw [← h1] at g1
  have hi1 : w1.heap[ib]? = some (.stringIter (ktx l) (j + 1)) := by rw [h1]; exact Lib.iterAt_heap wr ib _ _ _ h.it
  have ne1 : ∀ {q : Nat} {cs : Array Value} {t : TypeId} {z : Nat × Nat}, wr.heap[q]? = some (.cells cs t z) → q ≠ ib := fun hq e => by rw [e, h.it] at hq; cases hq
  have hl1 : ib < w1.heap.size := block_lt hi1
  have hv : ∀ g, v.ownBlock = some g → g ≠ ib ∧ ∃ cur, wr.heap[g]? = some (.cells cur 3 (0, 0)) := by
    intro g hgv
    rcases h.row.2 with ⟨e, _⟩ | ⟨g', cap, cur, e, _, hc, _⟩
    · rw [e] at hgv; cases hgv
    · rw [e] at hgv
      cases hgv
      exact ⟨ne1 hc, cur, hc⟩
  have b1 : Below W.heap.size W (w1.alloc o) := by
    have := Lib.below_iterAt h.bel h.lb (ktx l) (j + 1)
    rw [← h1] at this
    exact this.alloc this.size o
  have al := below_alloc1 w1 o
  refine ⟨?_, ?_, ?_, ?_, h.lb, h.len⟩
  · refine (hg.block ib (by simp; omega) (fun e => ?_)).trans ((al.block ib hl1).trans hi1)
    exact (hv ib e.symm).1 rfl
  · rw [List.take_add_one, hb', List.map_append]
    exact ho
  · refine b1.grown hg b1.size (fun g e => ?_)
    exact (h.row.lt g e).1
  · obtain ⟨cs, r1, r2⟩ := h.sh
    have x1 := (g1.block _ (block_lt r1) (by simpa using ne1 r1)).trans r1
    have x2 := (al.block _ (block_lt x1)).trans x1
    refine ⟨cs, (hg.block hb (block_lt x2) (fun e => ?_)).trans x2, r2⟩
    obtain ⟨_, cur, hc⟩ := hv hb e.symm
    rw [r1] at hc
    simp at hc
end Go.Proofs.YtmoklddfaocihaaDoor
