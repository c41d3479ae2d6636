import Derived.Test.YtidhondcfagoaaaDoorM32
import Derived.RangeFuncBox
namespace Go.Proofs.YtidhondcfagoaaaDoor
open Go.RowKit Crc

theorem infoReq : (Tryd.prog.info? 96).map (fun i => (i.zero, i.size, i.bytes)) = some (some (.agg #[.int .u64 0, .int .u64 0, .slice none 0 0]), 3, 40) := by kernel_rfl
/-- The cells of requests. -/
def rcells (rs : List Rq) : List Value := (rs.map fun r => r.cells.toList).flatten
theorem rcells_snoc (rs : List Rq) (r : Rq) : rcells (rs ++ [r]) = rcells rs ++ [.int .u64 (r.cl : Int), .int .u64 (r.sq : Int), .slice r.co r.cn r.cc] := by simp [rcells, Rq.cells]
theorem rcells_len : ∀ rs : List Rq, (rcells rs).length = rs.length * 3
  | [] => rfl
  | r :: t => by
    have := rcells_len t
    simp only [rcells, List.map_cons, List.flatten_cons, List.length_append, List.length_cons] at this ⊢
    rw [this]
    simp [Rq.cells]
    omega
theorem rcells_at : ∀ (rs : List Rq) (i : Nat) (r : Rq), rs[i]? = some r → ∀ j v, r.cells[j]? = some v → (rcells rs)[i * 3 + j]? = some v
  | [], i, r, h, _, _, _ => by simp at h
  | x :: t, 0, r, h, j, v, hv => by
    simp at h
    subst h
    have hj : j < 3 := by have := (Array.getElem?_eq_some_iff.1 hv).1; simpa [Rq.cells] using this
    simp only [rcells, List.map_cons, List.flatten_cons]
    rw [List.getElem?_append_left (by simp [Rq.cells]; omega)]
    simpa using hv
  | x :: t, i + 1, r, h, j, v, hv => by
    simp at h
    have := rcells_at t i r h j v hv
    simp only [rcells, List.map_cons, List.flatten_cons] at this ⊢
    rw [List.getElem?_append_right (by simp [Rq.cells]; omega)]
    have e : (i + 1) * 3 + j - x.cells.toList.length = i * 3 + j := by simp [Rq.cells]; omega
    rw [e]
    exact this

/-- Requests in a list of their own. -/
structure OwnRs (base : Nat) (w : World) (v : Value) (rs : List Rq) : Prop where
  row : w.ownsRow base 96 3 v rs.length (rcells rs)
  ok : ∀ r ∈ rs, r.Ok w.heap.size w
  le : rs.length ≤ 3518437208883
theorem OwnRs.form {base : Nat} {w : World} {v : Value} {rs : List Rq} (h : OwnRs base w v rs) : ∃ ao cap b, v = .slice ao rs.length cap ∧ Rqs w.heap.size w ao rs b 0 := by
  rcases h.row.2 with ⟨rfl, h0⟩ | ⟨g, cap, cur, rfl, hbg, hg, hnc, hcm, hcs, htake⟩
  · have : rs = [] := List.eq_nil_of_length_eq_zero h0
    subst this
    exact ⟨none, 0, 0, rfl, fun h => by simp at h, fun h => by simp at h, h.le, fun i r hr => by simp at hr, h.ok⟩
  · refine ⟨some ⟨g, 0, none⟩, cap, g, rfl, fun _ => rfl, fun _ => (Array.getElem?_eq_some_iff.1 hg).1, h.le, fun i r hr j v hv => ?_, h.ok⟩
    have h1 := rcells_at rs i r hr j v hv
    have hlt : i * 3 + j < rs.length * 3 := by rw [← rcells_len]; exact (List.getElem?_eq_some_iff.1 h1).1
    rw [← htake, List.getElem?_take, if_pos hlt] at h1
    have h2 := cell_of_row w g (0 + i * 3 + j) cur _ (0, 0) hg
    rw [h2, Nat.zero_add]
    simpa using h1

theorem row_ne_lent {base gc n : Nat} {w : World} {v : Value} {k : Nat} {xs : List Value} {C : List Nat} (h : w.ownsRow base 96 3 v k xs) (hl : Lent w gc n C) : v.ownBlock ≠ some gc := by
  intro e
  rcases h.2 with ⟨rfl, _⟩ | ⟨g, cap, cur, rfl, _, hg, _⟩
  · cases e
  · cases e
    rcases hl.2.2 with ⟨h, _⟩ | ⟨g', cap', cur', h1, _, hg', _⟩
    · cases h
    · cases h1
      rw [hg] at hg'
      cases hg'
theorem row_ne_box {base B : Nat} {w : World} {v : Value} {k : Nat} {xs : List Value} {cs : Array Value} (h : w.ownsRow base 96 3 v k xs) (hb : w.heap[B]? = some (.cells cs 41 (0, 0))) : v.ownBlock ≠ some B := by
  intro e
  rcases h.2 with ⟨rfl, _⟩ | ⟨g, cap, cur, rfl, _, hg, _⟩
  · cases e
  · cases e
    rw [hg] at hb
    cases hb
end Go.Proofs.YtidhondcfagoaaaDoor
namespace Go.Proofs.YtidhondcfagoaaaDoor
open Go.RowKit Crc

theorem lent_ne_cells {gc n B : Nat} {w : World} {C : List Nat} {cs : Array Value} {t : TypeId} (hl : Lent w gc n C) (hb : w.heap[B]? = some (.cells cs t (0, 0))) (ht : t ≠ 5) : some B ≠ some gc := by
  intro e
  cases e
  rcases hl.2.2 with ⟨h, _⟩ | ⟨g', cap', cur', h1, _, hg', _⟩
  · cases h
  · cases h1
    rw [hb] at hg'
    cases hg'
    exact ht rfl
theorem LentRs.next {w w' : World} {rs : List Rq} {row : Option Nat} (h : LentRs w rs) (hg : w.grownBy w' row) (hr : ∀ gc n C, Lent w gc n C → row ≠ some gc) : LentRs w' rs := fun r hx => by
  obtain ⟨gc, h1, h2, h3⟩ := h r hx
  exact ⟨gc, h1, h2, h3.next hg (hr gc _ _ h3)⟩
/-- Numbers that a request has. -/
def Rq.num (r : Rq) : Prop := r.cl < 18446744073709551616 ∧ r.sq < 18446744073709551616 ∧ (∀ x ∈ r.C, x < 256) ∧ r.cn ≤ 140737488355328
theorem LentRs.ok {w : World} {rs : List Rq} (h : LentRs w rs) (hn : ∀ r ∈ rs, r.num) : (∀ r ∈ rs, r.Ok w.heap.size w) ∧ (∀ r ∈ rs, ∀ b off, r.co = some ⟨b, off, none⟩ → b < w.heap.size) := by
  refine ⟨fun r hr => ?_, fun r hr b off hbo => ?_⟩
  · obtain ⟨gc, h1, h2, h3⟩ := h r hr
    obtain ⟨n1, n2, n3, n4⟩ := hn r hr
    refine ⟨n1, n2, ?_⟩
    rw [h1, h2]
    exact h3.shows n3 n4
  · obtain ⟨gc, h1, h2, h3⟩ := h r hr
    rw [h1] at hbo
    cases hbo
    rcases h3.2.2 with ⟨h, _⟩ | ⟨g', cap', cur', h1, _, hg', _⟩
    · cases h
    · cases h1; exact block_lt hg'

theorem row_quiet {base size k : Nat} {e : TypeId} {w w' : World} {v : Value} {xs : List Value} (h : w.ownsRow base e size v k xs) (hg : w.grownBy w' none) : w'.ownsRow base e size v k xs := by
  refine h.kept hg ?_
  cases v.ownBlock with
  | none => exact .inl rfl
  | some g => exact .inr (by simp)
/-- Between two rounds of the copying. -/
structure Cp (w W2 : World) (stamp : Nat) (rs : List Rq) (k : Nat) (v : Value) (rs1 : List Rq) (wr : World) : Prop where
  bel : Below (w.heap.size + 1 + 1) W2 wr
  box : wr.heap[w.heap.size + 1 + 1]? = some (.cells #[.int .u64 (stamp : Int), v] 41 (0, 0))
  row : wr.ownsRow (w.heap.size + 3) 96 3 v k (rcells rs1)
  len : rs1.length = k
  val : rs1.map Rq.val = (rs.take k).map Rq.val
  lent : LentRs wr rs1
  num : ∀ r ∈ rs1, r.num

theorem Cp.next {w W2 : World} {stamp : Nat} {rs : List Rq} {k : Nat} {v v' : Value} {rs1 : List Rq} {wr w1 w2 : World} {r r1 : Rq} {o1 o2 : Obj} {x : Value} {cs : Array Value}
    (hw : w.heap.size + 3 ≤ wr.heap.size) (h : Cp w W2 stamp rs k v rs1 wr) (hr : rs[k]? = some r) (hb1 : Below (wr.heap.size + 1) (wr.alloc o1) w1) (hq : w1.heap[wr.heap.size]? = some (.cells cs 96 (0, 0)))
    (hl : Lent w1 (wr.heap.size + 1) r1.cn r1.C) (hco : r1.co = some ⟨wr.heap.size + 1, 0, none⟩) (hcc : r1.cc = r1.cn + 4) (hv : r1.val = r.val) (hn : r1.num)
    (ho : w2.ownsRow (w.heap.size + 3) 96 3 v' (k + 1) (rcells (rs1 ++ [r1]))) (hg : ((w1.setCell ⟨wr.heap.size, 2, none⟩ x).alloc o2).grownBy w2 v.ownBlock) :
    Cp w W2 stamp rs (k + 1) v' (rs1 ++ [r1]) (w2.setCell ⟨w.heap.size + 1 + 1, 1, none⟩ v') ∧ w2.cell? ⟨w.heap.size + 1 + 1, 1, none⟩ = some v ∧ w2.frozen? ⟨w.heap.size + 1 + 1, 1, none⟩ = false := by
  have hbA : Below wr.heap.size wr w1 := (below_alloc1 wr o1).trans (hb1.mono (by omega))
  have hcb := block_lt h.box
  have hgA := World.grownBy_alloc (w1.setCell ⟨wr.heap.size, 2, none⟩ x) o2 none
  have row1 : w1.ownsRow (w.heap.size + 3) 96 3 v k (rcells rs1) := row_quiet h.row (below_none hbA)
  have hvq : v.ownBlock ≠ some wr.heap.size := fun e => by have := (h.row.lt _ e).2; omega
  have box1 : w1.heap[w.heap.size + 1 + 1]? = some (.cells #[.int .u64 (stamp : Int), v] 41 (0, 0)) := (hbA.block _ hcb).trans h.box
  have box2 : (w1.setCell ⟨wr.heap.size, 2, none⟩ x).heap[w.heap.size + 1 + 1]? = some (.cells #[.int .u64 (stamp : Int), v] 41 (0, 0)) := ((grown_set w1 wr.heap.size 2 x).block _ (block_lt box1) (by simp; omega)).trans box1
  have box3 : ((w1.setCell ⟨wr.heap.size, 2, none⟩ x).alloc o2).heap[w.heap.size + 1 + 1]? = some (.cells #[.int .u64 (stamp : Int), v] 41 (0, 0)) := (hgA.block _ (block_lt box2) (by simp)).trans box2
  have row2 : (w1.setCell ⟨wr.heap.size, 2, none⟩ x).ownsRow (w.heap.size + 3) 96 3 v k (rcells rs1) := row1.kept (grown_set _ _ _ _) (.inr hvq)
  have row3 := row_quiet row2 hgA
  have hrc := row_ne_box row3 box3
  have box4 : w2.heap[w.heap.size + 1 + 1]? = some (.cells #[.int .u64 (stamp : Int), v] 41 (0, 0)) := (hg.block _ (block_lt box3) (fun e => hrc e.symm)).trans box3
  have hrc' := row_ne_box ho box4
  have l1 : LentRs w1 rs1 := h.lent.below hbA
  have l1' : LentRs w1 (rs1 ++ [r1]) := fun y hy => by
    rcases List.mem_append.1 hy with hy | hy
    · exact l1 y hy
    · simp at hy; subst hy; exact ⟨_, hco, hcc, hl⟩
  have l2 := l1'.next (grown_set w1 wr.heap.size 2 x) (fun gc n C hL => lent_ne_cells hL hq (by decide))
  have l3 := l2.next hgA (fun gc n C hL => by simp)
  have l4 := l3.next hg (fun gc n C hL => row_ne_lent row3 hL)
  have l5 := l4.next (grown_set w2 (w.heap.size + 1 + 1) 1 v') (fun gc n C hL => lent_ne_cells hL box4 (by decide))
  have b1 : Below (w.heap.size + 1 + 1) W2 w1 := h.bel.trans (hbA.mono (by omega))
  have b2 := b1.setCell (p := ⟨wr.heap.size, 2, none⟩) (by simp; omega) x
  have b3 := b2.grown hgA (by have := b2.size; have := block_lt box2; omega) (fun k e => by cases e)
  have b4 := b3.grown hg (by have := block_lt box3; omega) (fun k e => by have := (row3.lt k e).1; omega)
  have b5 := b4.setCell (p := ⟨w.heap.size + 1 + 1, 1, none⟩) (Nat.le_refl _) v'
  refine ⟨⟨b5, ?_, ho.kept (grown_set _ _ _ _) (.inr hrc'), by simp [h.len], ?_, l5, ?_⟩, block_cell box4 1, block_free box4 1⟩
  · rw [heap_setCell_same w2 (w.heap.size + 1 + 1) 1 _ _ v' box4]; rfl
  · rw [List.map_append, h.val, List.take_add_one, hr]
    simp [hv]
  · intro y hy
    rcases List.mem_append.1 hy with hy | hy
    · exact h.num y hy
    · simp at hy; subst hy; exact hn
end Go.Proofs.YtidhondcfagoaaaDoor
