import Derived.Test.YtmoklddfaocihaaDoorCwB
namespace Go.Proofs.YtmoklddfaocihaaDoor
open Go.RowKit

def rowA (p : Pv) (j : Nat) : List Value := (List.range j).map (fun k => .int .u64 (p.C k))
def rowB (p : Pv) (j : Nat) : List Value := (List.range j).map (fun k => .int .i64 (p.S k))
def rowC (p : Pv) : Nat → List Value
  | 0 => []
  | j + 1 => rowC p j ++ [.int .i64 (p.op j), .int .i64 (p.arg j)]
theorem rowA_succ (p : Pv) (j : Nat) : rowA p (j + 1) = rowA p j ++ [.int .u64 (p.C j)] := by unfold rowA; rw [List.range_succ, List.map_append]; rfl
theorem rowB_succ (p : Pv) (j : Nat) : rowB p (j + 1) = rowB p j ++ [.int .i64 (p.S j)] := by unfold rowB; rw [List.range_succ, List.map_append]; rfl
theorem rowC_succ (p : Pv) (j : Nat) : rowC p (j + 1) = rowC p j ++ [.int .i64 (p.op j), .int .i64 (p.arg j)] := rfl
theorem rowC_len (p : Pv) : ∀ j, (rowC p j).length = j * 2
  | 0 => rfl
  | j + 1 => by rw [rowC_succ, List.length_append, rowC_len p j]; simp; omega
theorem rowC_at (p : Pv) : ∀ n j, j < n → (rowC p n)[j * 2]? = some (.int .i64 (p.op j)) ∧ (rowC p n)[j * 2 + 1]? = some (.int .i64 (p.arg j))
  | 0, j, h => by omega
  | n + 1, j, h => by
    rw [rowC_succ]
    have hl := rowC_len p n
    by_cases e : j < n
    · have ih := rowC_at p n j e
      rw [List.getElem?_append_left (by omega), List.getElem?_append_left (by omega)]
      exact ih
    · obtain rfl : j = n := by omega
      rw [List.getElem?_append_right (by omega), List.getElem?_append_right (by omega), hl]
      have : j * 2 + 1 - j * 2 = 1 := by omega
      rw [this]
      simp
theorem own_cells {w : World} {base n s : Nat} {t : TypeId} {v : Value} {xs : List Value} (h : w.ownsRow base t s v n xs) (hn : 0 < n) (hx : xs.length = n * s) : ∃ b cap, v = .slice (some ⟨b, 0, none⟩) n cap ∧ n ≤ cap ∧ base ≤ b ∧ (∃ cs : Array Value, w.heap[b]? = some (.cells cs t (0, 0))) ∧ ∀ j x, xs[j]? = some x → w.cell? ⟨b, j, none⟩ = some x := by
  rcases h.2 with ⟨_, h0⟩ | ⟨g, cap, cur, h1, hb, hc, hnc, _, hsz, htk⟩
  · omega
  · refine ⟨g, cap, h1, hnc, hb, ⟨_, hc⟩, fun j x hj => ?_⟩
    have hjl := (List.getElem?_eq_some_iff.1 hj).1
    rw [← htk, List.getElem?_take, if_pos (by omega)] at hj
    rw [block_cell hc j]
    simpa using hj
/-- The lent program, all laid. -/
structure Lf (W : World) (g : Pg) (p : Pv) (rb cb : Nat) (g' : Pg) (x0 x1 x8 : Value) (w : World) : Prop where
  prg : w.heap[W.heap.size]? = some (.cells (g.cs p).toArray 27 (0, 0))
  res : w.heap[rb]? = some (.cells #[.slice none 0 0, .slice none 0 0, .int .i64 0, .int .i64 0, .int .i64 0, .int .i64 0, .int .i64 0, .int .i64 0, .slice none 0 0] 27 (0, 0))
  box : w.heap[cb]? = some (.cells #[x0, x1, .int .i64 (p.en 0), .int .i64 (p.en 1), .int .i64 (p.en 2), .int .i64 (p.en 3), .int .i64 (p.en 4), .int .i64 (p.en 5), x8] 27 (0, 0))
  ok : g'.Ok p w.heap.size w
  sp : Sp g' p w.heap.size w
  bel : Below W.heap.size W w
  lc : W.heap.size ≤ cb
  lr : W.heap.size ≤ rb
  np : cb ≠ W.heap.size
  nr : cb ≠ rb
  n1 : g'.cb ≠ cb ∧ g'.cb ≠ rb
  n2 : g'.sb ≠ cb ∧ g'.sb ≠ rb
  n3 : g'.ib ≠ cb ∧ g'.ib ≠ rb
theorem ok_far {g : Pg} {p : Pv} {w w' : World} {q : Nat} (h : g.Ok p w.heap.size w) (hs : Sp g p w.heap.size w) (n1 : g.cb ≠ q) (n2 : g.sb ≠ q) (n3 : g.ib ≠ q) (hg : w.grownBy w' (some q)) : g.Ok p w'.heap.size w' ∧ Sp g p w'.heap.size w' := by
  have K : ∀ {b o : Nat} {x : Value}, b ≠ q → b < w.heap.size → w.cell? ⟨b, o, none⟩ = some x → w'.cell? ⟨b, o, none⟩ = some x := fun {b o x} hne hl e => by
    have := hg.block b hl (by simpa using hne)
    simp only [World.cell?, this] at e ⊢
    exact e
  refine ⟨⟨fun e => ⟨(h.hc e).1, Nat.lt_of_lt_of_le (h.hc e).2 hg.size⟩, fun e => ⟨(h.hs e).1, Nat.lt_of_lt_of_le (h.hs e).2 hg.size⟩, fun e => ⟨(h.hi e).1, Nat.lt_of_lt_of_le (h.hi e).2 hg.size⟩, fun j hj => K n1 hs.cl (h.vc j hj), fun j hj => K n2 hs.sl (h.vs j hj), fun j hj => K n3 hs.il (h.vo j hj), fun j hj => K n3 hs.il (h.va j hj), h.lc, h.ls, h.li⟩, ?_⟩
  exact ⟨hs.ca, Nat.lt_of_lt_of_le hs.cl hg.size, hs.cc, K n1 hs.cl hs.c, hs.sa, Nat.lt_of_lt_of_le hs.sl hg.size, hs.sc, K n2 hs.sl hs.s, hs.ia, Nat.lt_of_lt_of_le hs.il hg.size, hs.ic, K n3 hs.il hs.i0, K n3 hs.il hs.i1⟩
section
variable {W : World} {g g' : Pg} {p : Pv} {rb cb : Nat} {x0 x1 x8 : Value} {w : World}
theorem Lf.set0 (h : Lf W g p rb cb g' x0 x1 x8 w) (x : Value) : Lf W g p rb cb g' x x1 x8 (w.setCell ⟨cb, 0, none⟩ x) := by
  have G := grown_set w cb 0 x
  have s1 := heap_setCell_same w cb 0 _ _ x h.box
  have hk := ok_far h.ok h.sp h.n1.1 h.n2.1 h.n3.1 G
  exact ⟨(G.block _ (block_lt h.prg) (by simpa using fun e => h.np e.symm)).trans h.prg, (G.block _ (block_lt h.res) (by simpa using fun e => h.nr e.symm)).trans h.res, by simpa using s1, hk.1, hk.2, h.bel.trans (below_of_grown G h.lc h.bel.size), h.lc, h.lr, h.np, h.nr, h.n1, h.n2, h.n3⟩
theorem Lf.set1 (h : Lf W g p rb cb g' x0 x1 x8 w) (x : Value) : Lf W g p rb cb g' x0 x x8 (w.setCell ⟨cb, 1, none⟩ x) := by
  have G := grown_set w cb 1 x
  have s1 := heap_setCell_same w cb 1 _ _ x h.box
  have hk := ok_far h.ok h.sp h.n1.1 h.n2.1 h.n3.1 G
  exact ⟨(G.block _ (block_lt h.prg) (by simpa using fun e => h.np e.symm)).trans h.prg, (G.block _ (block_lt h.res) (by simpa using fun e => h.nr e.symm)).trans h.res, by simpa using s1, hk.1, hk.2, h.bel.trans (below_of_grown G h.lc h.bel.size), h.lc, h.lr, h.np, h.nr, h.n1, h.n2, h.n3⟩
theorem Lf.set8 (h : Lf W g p rb cb g' x0 x1 x8 w) (x : Value) : Lf W g p rb cb g' x0 x1 x (w.setCell ⟨cb, 8, none⟩ x) := by
  have G := grown_set w cb 8 x
  have s1 := heap_setCell_same w cb 8 _ _ x h.box
  have hk := ok_far h.ok h.sp h.n1.1 h.n2.1 h.n3.1 G
  exact ⟨(G.block _ (block_lt h.prg) (by simpa using fun e => h.np e.symm)).trans h.prg, (G.block _ (block_lt h.res) (by simpa using fun e => h.nr e.symm)).trans h.res, by simpa using s1, hk.1, hk.2, h.bel.trans (below_of_grown G h.lc h.bel.size), h.lc, h.lr, h.np, h.nr, h.n1, h.n2, h.n3⟩
theorem Lf.fin (h : Lf W g p rb cb g' x0 x1 x8 w) (v0 v1 v2 v3 v4 v5 v6 v7 v8 : Value) : g'.Ok p (set9 w rb v0 v1 v2 v3 v4 v5 v6 v7 v8).heap.size (set9 w rb v0 v1 v2 v3 v4 v5 v6 v7 v8) ∧ Sp g' p (set9 w rb v0 v1 v2 v3 v4 v5 v6 v7 v8).heap.size (set9 w rb v0 v1 v2 v3 v4 v5 v6 v7 v8) ∧ Below W.heap.size W (set9 w rb v0 v1 v2 v3 v4 v5 v6 v7 v8) := by
  have G := set9_grown w rb v0 v1 v2 v3 v4 v5 v6 v7 v8
  have hk := ok_far h.ok h.sp h.n1.2 h.n2.2 h.n3.2 G
  exact ⟨hk.1, hk.2, h.bel.trans (below_of_grown G h.lr h.bel.size)⟩
end
theorem Ld.whole {W : World} {g : Pg} {p : Pv} {rb cb : Nat} {va vb vc : Value} {w : World} (h : Ld W g p rb cb va vb vc (p.nc + 1) (p.ns + 1) (p.n + 1) (rowA p p.nc ++ [.int .u64 71]) (rowB p p.ns ++ [.int .i64 72]) (rowC p p.n ++ [.int .i64 73, .int .i64 74]) w) (lr : W.heap.size ≤ rb) (l1 : p.nc ≤ 140737488355328) (l2 : p.ns ≤ 140737488355328) (l3 : p.n ≤ 140737488355328) :
    ∃ g' : Pg, va = .slice g'.ca (p.nc + 1) g'.cc ∧ vb = .slice g'.sa (p.ns + 1) g'.sc ∧ vc = .slice g'.ia (p.n + 1) g'.ic ∧ Lf W g p rb cb g' va vb vc w := by
  obtain ⟨b1, c1, e1, k1, _, ⟨s1, t1⟩, v1⟩ := own_cells h.qa (by omega) (by simp [rowA])
  obtain ⟨b2, c2, e2, k2, _, ⟨s2, t2⟩, v2⟩ := own_cells h.qb (by omega) (by simp [rowB])
  obtain ⟨b3, c3, e3, k3, _, ⟨s3, t3⟩, v3⟩ := own_cells h.qc (by omega) (by rw [List.length_append, rowC_len]; simp; omega)
  have hl := rowC_len p p.n
  have ne : ∀ {b : Nat} {cs cs' : Array Value} {t : TypeId} {q : Nat}, t ≠ 27 → w.heap[b]? = some (.cells cs t (0, 0)) → w.heap[q]? = some (.cells cs' 27 (0, 0)) → b ≠ q := fun hne x y e => by
    rw [e, y] at x
    cases x
    exact hne rfl
  refine ⟨⟨some ⟨b1, 0, none⟩, some ⟨b2, 0, none⟩, some ⟨b3, 0, none⟩, c1, c2, c3, b1, 0, b2, 0, b3, 0⟩, e1, e2, e3, ⟨h.prg, h.res, h.box, ⟨fun _ => ⟨rfl, block_lt t1⟩, fun _ => ⟨rfl, block_lt t2⟩, fun _ => ⟨rfl, block_lt t3⟩, fun j hj => ?_, fun j hj => ?_, fun j hj => ?_, fun j hj => ?_, l1, l2, l3⟩, ⟨rfl, block_lt t1, k1, ?_, rfl, block_lt t2, k2, ?_, rfl, block_lt t3, k3, ?_, ?_⟩, h.bel, h.lc, lr, h.np, h.nr, ⟨ne (by decide) t1 h.box, ne (by decide) t1 h.res⟩, ⟨ne (by decide) t2 h.box, ne (by decide) t2 h.res⟩, ⟨ne (by decide) t3 h.box, ne (by decide) t3 h.res⟩⟩⟩
  · have := v1 j (.int .u64 (p.C j)) (by rw [List.getElem?_append_left (by simp [rowA, hj])]; simp [rowA, hj])
    simpa using this
  · have := v2 j (.int .i64 (p.S j)) (by rw [List.getElem?_append_left (by simp [rowB, hj])]; simp [rowB, hj])
    simpa using this
  · have := v3 (j * 2) (.int .i64 (p.op j)) (by rw [List.getElem?_append_left (by omega)]; exact (rowC_at p p.n j hj).1)
    simpa using this
  · have := v3 (j * 2 + 1) (.int .i64 (p.arg j)) (by rw [List.getElem?_append_left (by omega)]; exact (rowC_at p p.n j hj).2)
    simpa using this
  · have := v1 p.nc (.int .u64 71) (by rw [List.getElem?_append_right (by simp [rowA])]; simp [rowA])
    simpa using this
  · have := v2 p.ns (.int .i64 72) (by rw [List.getElem?_append_right (by simp [rowB])]; simp [rowB])
    simpa using this
  · have := v3 (p.n * 2) (.int .i64 73) (by rw [List.getElem?_append_right (by omega), hl]; simp)
    simpa using this
  · have := v3 (p.n * 2 + 1) (.int .i64 74) (by rw [List.getElem?_append_right (by omega), hl]; simp)
    simpa using this
end Go.Proofs.YtmoklddfaocihaaDoor
