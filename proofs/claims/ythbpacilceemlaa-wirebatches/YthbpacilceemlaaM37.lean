import Derived.Test.YthbpacilceemlaaQKept
import Derived.RangeFuncBox
namespace Go.Proofs.Ythbpacilceemlaa
open Go.RowKit Crc

theorem infoReq : (Try.prog.info? 113).map (fun i => (i.zero, i.size, i.bytes)) = some (some (.agg #[.int .u64 0, .int .u64 0, .slice none 0 0]), 3, 40) := by kernel_rfl
/-- The cells of requests. -/
def rcells (rs : List Rq) : List Value := (rs.map fun r => r.cells.toList).flatten
theorem rcells_snoc (rs : List Rq) (r : Rq) : rcells (rs ++ [r]) = rcells rs ++ [.int .u64 (r.cl : Int), .int .u64 (r.sq : Int), .slice r.co r.cn r.cc] := by simp [rcells, Rq.cells]
theorem rcells_len : ∀ rs : List Rq, (rcells rs).length = rs.length * 3
  | [] => rfl
  | r :: t => by
    have := rcells_len t
    simp only [rcells, List.map_cons, List.flatten_cons, List.length_append, List.length_cons] at this ⊢
    rw [this]
    simp [Rq.cells]
    omega
theorem rcells_at : ∀ (rs : List Rq) (i : Nat) (r : Rq), rs[i]? = some r → ∀ j v, r.cells[j]? = some v → (rcells rs)[i * 3 + j]? = some v
  | [], i, r, h, _, _, _ => by simp at h
  | x :: t, 0, r, h, j, v, hv => by
    simp at h
    subst h
    have hj : j < 3 := by have := (Array.getElem?_eq_some_iff.1 hv).1; simpa [Rq.cells] using this
    simp only [rcells, List.map_cons, List.flatten_cons]
    rw [List.getElem?_append_left (by simp [Rq.cells]; omega)]
    simpa using hv
  | x :: t, i + 1, r, h, j, v, hv => by
    simp at h
    have := rcells_at t i r h j v hv
    simp only [rcells, List.map_cons, List.flatten_cons] at this ⊢
    rw [List.getElem?_append_right (by simp [Rq.cells]; omega)]
    have e : (i + 1) * 3 + j - x.cells.toList.length = i * 3 + j := by simp [Rq.cells]; omega
    rw [e]
    exact this

/-- Requests in a list of their own. -/
structure OwnRs (base : Nat) (w : World) (v : Value) (rs : List Rq) : Prop where
  row : w.ownsRow base 113 3 v rs.length (rcells rs)
  ok : ∀ r ∈ rs, r.Ok w.heap.size w
  le : rs.length ≤ 3518437208883
theorem OwnRs.form {base : Nat} {w : World} {v : Value} {rs : List Rq} (h : OwnRs base w v rs) : ∃ ao cap b, v = .slice ao rs.length cap ∧ Rqs w.heap.size w ao rs b 0 := by
  rcases h.row.2 with ⟨rfl, h0⟩ | ⟨g, cap, cur, rfl, hbg, hg, hnc, hcm, hcs, htake⟩
  · have : rs = [] := List.eq_nil_of_length_eq_zero h0
    subst this
    exact ⟨none, 0, 0, rfl, fun h => by simp at h, fun h => by simp at h, h.le, fun i r hr => by simp at hr, h.ok⟩
  · refine ⟨some ⟨g, 0, none⟩, cap, g, rfl, fun _ => rfl, fun _ => (Array.getElem?_eq_some_iff.1 hg).1, h.le, fun i r hr j v hv => ?_, h.ok⟩
    have h1 := rcells_at rs i r hr j v hv
    have hlt : i * 3 + j < rs.length * 3 := by rw [← rcells_len]; exact (List.getElem?_eq_some_iff.1 h1).1
    rw [← htake, List.getElem?_take, if_pos hlt] at h1
    have h2 := cell_of_row w g (0 + i * 3 + j) cur _ (0, 0) hg
    rw [h2, Nat.zero_add]
    simpa using h1

theorem row_ne_lent {base gc n : Nat} {w : World} {v : Value} {k : Nat} {xs : List Value} {C : List Nat} (h : w.ownsRow base 113 3 v k xs) (hl : Lent w gc n C) : v.ownBlock ≠ some gc := by
  intro e
  rcases h.2 with ⟨rfl, _⟩ | ⟨g, cap, cur, rfl, _, hg, _⟩
  · cases e
  · cases e
    rcases hl.2.2 with ⟨h, _⟩ | ⟨g', cap', cur', h1, _, hg', _⟩
    · cases h
    · cases h1
      rw [hg] at hg'
      cases hg'
theorem row_ne_box {base B : Nat} {w : World} {v : Value} {k : Nat} {xs : List Value} {cs : Array Value} (h : w.ownsRow base 113 3 v k xs) (hb : w.heap[B]? = some (.cells cs 71 (0, 0))) : v.ownBlock ≠ some B := by
  intro e
  rcases h.2 with ⟨rfl, _⟩ | ⟨g, cap, cur, rfl, _, hg, _⟩
  · cases e
  · cases e
    rw [hg] at hb
    cases hb
end Go.Proofs.Ythbpacilceemlaa
namespace Go.Proofs.Ythbpacilceemlaa
open Go.RowKit Crc

theorem lent_ne_cells {gc n B : Nat} {w : World} {C : List Nat} {cs : Array Value} {t : TypeId} (hl : Lent w gc n C) (hb : w.heap[B]? = some (.cells cs t (0, 0))) (ht : t ≠ 5) : some B ≠ some gc := by
  intro e
  cases e
  rcases hl.2.2 with ⟨h, _⟩ | ⟨g', cap', cur', h1, _, hg', _⟩
  · cases h
  · cases h1
    rw [hb] at hg'
    cases hg'
    exact ht rfl
theorem LentRs.next {w w' : World} {rs : List Rq} {row : Option Nat} (h : LentRs w rs) (hg : w.grownBy w' row) (hr : ∀ gc n C, Lent w gc n C → row ≠ some gc) : LentRs w' rs := fun r hx => by
  obtain ⟨gc, h1, h2, h3⟩ := h r hx
  exact ⟨gc, h1, h2, h3.next hg (hr gc _ _ h3)⟩
/-- Numbers that a request has. -/
def Rq.num (r : Rq) : Prop := r.cl < 18446744073709551616 ∧ r.sq < 18446744073709551616 ∧ (∀ x ∈ r.C, x < 256) ∧ r.cn ≤ 140737488355328
theorem LentRs.ok {w : World} {rs : List Rq} (h : LentRs w rs) (hn : ∀ r ∈ rs, r.num) : (∀ r ∈ rs, r.Ok w.heap.size w) ∧ (∀ r ∈ rs, ∀ b off, r.co = some ⟨b, off, none⟩ → b < w.heap.size) := by
  refine ⟨fun r hr => ?_, fun r hr b off hbo => ?_⟩
  · obtain ⟨gc, h1, h2, h3⟩ := h r hr
    obtain ⟨n1, n2, n3, n4⟩ := hn r hr
    refine ⟨n1, n2, ?_⟩
    rw [h1, h2]
    exact h3.shows n3 n4
  · obtain ⟨gc, h1, h2, h3⟩ := h r hr
    rw [h1] at hbo
    cases hbo
    rcases h3.2.2 with ⟨h, _⟩ | ⟨g', cap', cur', h1, _, hg', _⟩
    · cases h
    · cases h1; exact block_lt hg'

theorem row_quiet {base size k : Nat} {e : TypeId} {w w' : World} {v : Value} {xs : List Value} (h : w.ownsRow base e size v k xs) (hg : w.grownBy w' none) : w'.ownsRow base e size v k xs := by
  refine h.kept hg ?_
  cases v.ownBlock with
  | none => exact .inl rfl
  | some g => exact .inr (by simp)
/-- Between two rounds of the copying. -/
structure Cp (w W2 : World) (stamp : Nat) (rs : List Rq) (k : Nat) (v : Value) (rs1 : List Rq) (wr : World) : Prop where
  bel : Below (w.heap.size + 1 + 1) W2 wr
  box : wr.heap[w.heap.size + 1 + 1]? = some (.cells #[.int .u64 (stamp : Int), v] 71 (0, 0))
  row : wr.ownsRow (w.heap.size + 3) 113 3 v k (rcells rs1)
  len : rs1.length = k
  val : rs1.map Rq.val = (rs.take k).map Rq.val
  lent : LentRs wr rs1
  num : ∀ r ∈ rs1, r.num

theorem Cp.next {w W2 : World} {stamp : Nat} {rs : List Rq} {k : Nat} {v v' : Value} {rs1 : List Rq} {wr w1 w2 : World} {r r1 : Rq} {o1 o2 : Obj} {x : Value} {cs : Array Value}
    (hw : w.heap.size + 3 ≤ wr.heap.size) (h : Cp w W2 stamp rs k v rs1 wr) (hr : rs[k]? = some r) (hb1 : Below (wr.heap.size + 1) (wr.alloc o1) w1) (hq : w1.heap[wr.heap.size]? = some (.cells cs 113 (0, 0)))
    (hl : Lent w1 (wr.heap.size + 1) r1.cn r1.C) (hco : r1.co = some ⟨wr.heap.size + 1, 0, none⟩) (hcc : r1.cc = r1.cn + 4) (hv : r1.val = r.val) (hn : r1.num)
    (ho : w2.ownsRow (w.heap.size + 3) 113 3 v' (k + 1) (rcells (rs1 ++ [r1]))) (hg : ((w1.setCell ⟨wr.heap.size, 2, none⟩ x).alloc o2).grownBy w2 v.ownBlock) :
    Cp w W2 stamp rs (k + 1) v' (rs1 ++ [r1]) (w2.setCell ⟨w.heap.size + 1 + 1, 1, none⟩ v') ∧ w2.cell? ⟨w.heap.size + 1 + 1, 1, none⟩ = some v ∧ w2.frozen? ⟨w.heap.size + 1 + 1, 1, none⟩ = false := by
  have hbA : Below wr.heap.size wr w1 := (below_alloc1 wr o1).trans (hb1.mono (by omega))
  have hcb := block_lt h.box
  have hgA := World.grownBy_alloc (w1.setCell ⟨wr.heap.size, 2, none⟩ x) o2 none
  have row1 : w1.ownsRow (w.heap.size + 3) 113 3 v k (rcells rs1) := row_quiet h.row (below_none hbA)
  have hvq : v.ownBlock ≠ some wr.heap.size := fun e => by have := (h.row.lt _ e).2; omega
  have box1 : w1.heap[w.heap.size + 1 + 1]? = some (.cells #[.int .u64 (stamp : Int), v] 71 (0, 0)) := (hbA.block _ hcb).trans h.box
  have box2 : (w1.setCell ⟨wr.heap.size, 2, none⟩ x).heap[w.heap.size + 1 + 1]? = some (.cells #[.int .u64 (stamp : Int), v] 71 (0, 0)) := ((grown_set w1 wr.heap.size 2 x).block _ (block_lt box1) (by simp; omega)).trans box1
  have box3 : ((w1.setCell ⟨wr.heap.size, 2, none⟩ x).alloc o2).heap[w.heap.size + 1 + 1]? = some (.cells #[.int .u64 (stamp : Int), v] 71 (0, 0)) := (hgA.block _ (block_lt box2) (by simp)).trans box2
  have row2 : (w1.setCell ⟨wr.heap.size, 2, none⟩ x).ownsRow (w.heap.size + 3) 113 3 v k (rcells rs1) := row1.kept (grown_set _ _ _ _) (.inr hvq)
  have row3 := row_quiet row2 hgA
  have hrc := row_ne_box row3 box3
  have box4 : w2.heap[w.heap.size + 1 + 1]? = some (.cells #[.int .u64 (stamp : Int), v] 71 (0, 0)) := (hg.block _ (block_lt box3) (fun e => hrc e.symm)).trans box3
  have hrc' := row_ne_box ho box4
  have l1 : LentRs w1 rs1 := h.lent.below hbA
  have l1' : LentRs w1 (rs1 ++ [r1]) := fun y hy => by
    rcases List.mem_append.1 hy with hy | hy
    · exact l1 y hy
    · simp at hy; subst hy; exact ⟨_, hco, hcc, hl⟩
  have l2 := l1'.next (grown_set w1 wr.heap.size 2 x) (fun gc n C hL => lent_ne_cells hL hq (by decide))
  have l3 := l2.next hgA (fun gc n C hL => by simp)
  have l4 := l3.next hg (fun gc n C hL => row_ne_lent row3 hL)
  have l5 := l4.next (grown_set w2 (w.heap.size + 1 + 1) 1 v') (fun gc n C hL => lent_ne_cells hL box4 (by decide))
  have b1 : Below (w.heap.size + 1 + 1) W2 w1 := h.bel.trans (hbA.mono (by omega))
  have b2 := b1.setCell (p := ⟨wr.heap.size, 2, none⟩) (by simp; omega) x
  have b3 := b2.grown hgA (by have := b2.size; have := block_lt box2; omega) (fun k e => by cases e)
  have b4 := b3.grown hg (by have := block_lt box3; omega) (fun k e => by have := (row3.lt k e).1; omega)
  have b5 := b4.setCell (p := ⟨w.heap.size + 1 + 1, 1, none⟩) (Nat.le_refl _) v'
  refine ⟨⟨b5, ?_, ho.kept (grown_set _ _ _ _) (.inr hrc'), by simp [h.len], ?_, l5, ?_⟩, block_cell box4 1, block_free box4 1⟩
  · rw [heap_setCell_same w2 (w.heap.size + 1 + 1) 1 _ _ v' box4]; rfl
  · rw [List.map_append, h.val, List.take_add_one, hr]
    simp [hv]
  · intro y hy
    rcases List.mem_append.1 hy with hy | hy
    · exact h.num y hy
    · simp at hy; subst hy; exact hn
end Go.Proofs.Ythbpacilceemlaa
namespace Go.Proofs.Ythbpacilceemlaa
open Go.RowKit Crc

theorem cell_req_new (W : World) (x y z : Value) (t : TypeId) : ∀ (j : Nat) (u : Value), [x, y, z][j]? = some u → (W.alloc (.cells #[x, y, z] t)).cell? (Addr.add ⟨W.heap.size, 0, none⟩ j) = some u := by
  intro j u hu
  have := World.cell?_alloc_new W #[x, y, z] t j
  have he : Addr.add ⟨W.heap.size, 0, none⟩ j = ⟨W.heap.size, j, none⟩ := by
    simp only [Addr.add]
    split <;> simp_all
  rw [he, this]
  simpa using hu

theorem fin_copy {w wr : World} {v : Value} {rs rs1 : List Rq} {cs : Array Value} (hn : ∀ r ∈ rs1, r.num) (h : OwnRs (w.heap.size + 3) wr v rs1) (hl : LentRs wr rs1) (hv : rs1.map Rq.val = rs.map Rq.val) (hb : wr.heap[w.heap.size + 1]? = some (.cells cs 71 (0, 0))) (hbw : Below w.heap.size w wr) (x y : Value) :
    OwnRs w.heap.size ((wr.setCell ⟨w.heap.size + 1, 0, none⟩ x).setCell ⟨w.heap.size + 1, 1, none⟩ y) v rs1 ∧ rs1.map Rq.val = rs.map Rq.val ∧ LentRs ((wr.setCell ⟨w.heap.size + 1, 0, none⟩ x).setCell ⟨w.heap.size + 1, 1, none⟩ y) rs1 ∧ (∀ r ∈ rs1, ∀ b off, r.co = some ⟨b, off, none⟩ → b < ((wr.setCell ⟨w.heap.size + 1, 0, none⟩ x).setCell ⟨w.heap.size + 1, 1, none⟩ y).heap.size) ∧ Below w.heap.size w ((wr.setCell ⟨w.heap.size + 1, 0, none⟩ x).setCell ⟨w.heap.size + 1, 1, none⟩ y) := by
  have hne : v.ownBlock ≠ some (w.heap.size + 1) := fun e => by have := (h.row.lt _ e).1; omega
  have r2 := (h.row.kept (grown_set wr (w.heap.size + 1) 0 x) (.inr hne)).kept (grown_set _ (w.heap.size + 1) 1 y) (.inr hne)
  have hb2 := heap_setCell_same wr (w.heap.size + 1) 0 _ _ x hb
  have l2 := (hl.next (grown_set wr (w.heap.size + 1) 0 x) (fun gc n C hL => lent_ne_cells hL hb (by decide))).next (grown_set _ (w.heap.size + 1) 1 y) (fun gc n C hL => lent_ne_cells hL hb2 (by decide))
  obtain ⟨o1, o2⟩ := l2.ok hn
  refine ⟨⟨⟨r2.1, ?_⟩, o1, h.le⟩, hv, l2, o2, (hbw.setCell (p := ⟨w.heap.size + 1, 0, none⟩) (by simp) _).setCell (p := ⟨w.heap.size + 1, 1, none⟩) (by simp) _⟩
  rcases r2.2 with h0 | ⟨g, cap, cur, h1, h2, h3⟩
  · exact .inl h0
  · exact .inr ⟨g, cap, cur, h1, by omega, h3⟩

set_option maxRecDepth 10000 in
set_option maxHeartbeats 1600000 in
theorem copyBatch_any {w : World} (stamp : Nat) {ro : Option Addr} {rs : List Rq} {b off : Nat} (rc : Nat) (h : Rqs w.heap.size w ro rs b off) :
    Calls Try.prog 30 #[.agg #[.int .u64 (stamp : Int), .slice ro rs.length rc]] w fun e w' => ∃ v rs1, e = .returned (.agg #[.int .u64 (stamp : Int), v]) ∧ Hid (OwnRs w.heap.size w' v rs1 ∧ rs1.map Rq.val = rs.map Rq.val ∧ LentRs w' rs1 ∧ (∀ r ∈ rs1, ∀ b off, r.co = some ⟨b, off, none⟩ → b < w'.heap.size) ∧ Below w.heap.size w w') := by
  obtain ⟨i0, hi, hz0, hz1, hz2⟩ := info_parts infoReq
  have hle := h.le
  have HR := hide h
  clear h
  obtain ⟨W2, hW2⟩ : ∃ W2, ((w.alloc (.cells #[.int .u64 (stamp : Int), .slice ro rs.length rc] 71)).alloc (.cells #[.int .u64 0, .slice none 0 0] 71)).alloc (.cells #[.int .u64 (stamp : Int), .slice none 0 0] 71) = W2 := ⟨_, rfl⟩
  have s2 : W2.heap.size = w.heap.size + 3 := by rw [← hW2]; simp
  have HW : Hid (Below w.heap.size w W2 ∧ W2.cell? ⟨w.heap.size, 1, none⟩ = some (.slice ro rs.length rc) ∧ W2.heap[w.heap.size + 1]? = some (.cells #[.int .u64 0, .slice none 0 0] 71 (0, 0)) ∧ Cp w W2 stamp rs 0 (.slice none 0 0) [] W2) := by
    have e1 : (w.alloc (.cells #[.int .u64 (stamp : Int), .slice ro rs.length rc] 71)).heap.size = w.heap.size + 1 := by simp
    have e2 : ((w.alloc (.cells #[.int .u64 (stamp : Int), .slice ro rs.length rc] 71)).alloc (.cells #[.int .u64 0, .slice none 0 0] 71)).heap.size = w.heap.size + 1 + 1 := by simp
    refine ⟨?_, ?_, ?_, ⟨Below.refl _ _, ?_, World.ownsRow_nil _ _ _ _, rfl, by simp, fun r hr => by simp at hr, fun r hr => by simp at hr⟩⟩
    · rw [← hW2]; exact ((below_alloc1 w _).alloc (by simp) _).alloc (by simp; omega) _
    · rw [← hW2]
      exact (World.cell?_alloc_lt _ _ _ (by rw [e2]; simp; omega)).trans ((World.cell?_alloc_lt _ _ _ (by rw [e1]; simp)).trans (World.cell?_alloc_new w _ _ _))
    · rw [← hW2]
      have h1 := alloc_at (w.alloc (.cells #[.int .u64 (stamp : Int), .slice ro rs.length rc] 71)) (.cells #[.int .u64 0, .slice none 0 0] 71)
      rw [e1] at h1
      exact ((World.grownBy_alloc _ _ none).block _ (block_lt h1) (by simp)).trans h1
    · rw [← hW2, ← e2]; exact alloc_at _ _
  have HW2 := hide hW2
  clear hW2
  go_enter Try.func30, Try.ntmps30
  go_wp2
  rw [HW2.out]
  go_loopw [4] (fun i wr => ∃ k : Nat, k ≤ rs.length ∧ i = .int .i64 k ∧ Hid (∃ v rs1, Cp w W2 stamp rs k v rs1 wr)) (fun i _ => rs.length - (intOf i).toNat)
  case atStart => exact ⟨0, by omega, rfl, _, _, HW.out.2.2.2⟩
  case round =>
    obtain ⟨k, hk, rfl, HS⟩ := hrel
    obtain ⟨v, rs1, hcp⟩ := HS.out
    have HCP := hide hcp
    have hbw : Below w.heap.size w wr := HW.out.1.trans (hcp.bel.mono (by omega))
    have m1 : wr.cell? ⟨w.heap.size, 1, none⟩ = some (.slice ro rs.length rc) := (hcp.bel.cell (p := ⟨w.heap.size, 1, none⟩) (by simp; omega)).trans HW.out.2.1
    have hsz : w.heap.size + 3 ≤ wr.heap.size := by have := hcp.bel.size; omega
    have HBW := hide hbw
    clear hcp hbw HS
    by_cases hlt : k < rs.length
    · obtain ⟨r, hr, hd, hok, hbl, rfl, c0, c1, c2⟩ := (HR.out.below HBW.out).get hlt
      have HLD : Hid (∀ o, Calls Try.prog 11 #[.slice r.co r.cn r.cc] (wr.alloc o) fun e w1 => e = .returned (.slice (some ⟨wr.heap.size + 1, 0, none⟩) r.cn (r.cn + 4)) ∧ Lent w1 (wr.heap.size + 1) r.cn r.C ∧ Below (wr.heap.size + 1) (wr.alloc o) w1) := fun o => by
        have h := lend_sh (w := wr.alloc o) ((hok.hC.wide HBW.out.size).belowL (below_alloc1 wr o)) (by simp)
        rw [show (wr.alloc o).heap.size = wr.heap.size + 1 by simp] at h
        exact h
      have HNX : Hid (∀ (v' : Value) (w1 w2 : World) (o1 o2 : Obj) (x : Value) (cs : Array Value), Below (wr.heap.size + 1) (wr.alloc o1) w1 → w1.heap[wr.heap.size]? = some (.cells cs 113 (0, 0)) → Lent w1 (wr.heap.size + 1) r.cn r.C → w2.ownsRow (w.heap.size + 3) 113 3 v' (k + 1) (rcells (rs1 ++ [⟨r.cl, r.sq, some ⟨wr.heap.size + 1, 0, none⟩, r.cn, r.cn + 4, r.C⟩])) → ((w1.setCell ⟨wr.heap.size, 2, none⟩ x).alloc o2).grownBy w2 v.ownBlock →
          Cp w W2 stamp rs (k + 1) v' (rs1 ++ [⟨r.cl, r.sq, some ⟨wr.heap.size + 1, 0, none⟩, r.cn, r.cn + 4, r.C⟩]) (w2.setCell ⟨w.heap.size + 1 + 1, 1, none⟩ v') ∧ w2.cell? ⟨w.heap.size + 1 + 1, 1, none⟩ = some v ∧ w2.frozen? ⟨w.heap.size + 1 + 1, 1, none⟩ = false) := fun v' w1 w2 o1 o2 x cs hb1 hq hl ho hg =>
        Cp.next (r := r) (r1 := ⟨r.cl, r.sq, some ⟨wr.heap.size + 1, 0, none⟩, r.cn, r.cn + 4, r.C⟩) hsz HCP.out hr hb1 hq hl rfl rfl rfl ⟨hok.hc, hok.hs, hok.hC.2.2.2.1, hok.hC.2.2.1⟩ ho hg
      obtain ⟨cl, sq, co, cn, cc, C⟩ := r
      simp only at c0 c1 c2 HLD HNX
      have HBX := hide HCP.out.box
      have HRW := hide HCP.out.row
      clear hr hd hok
      go_wp2_with fail
      refine (HLD.out _).mono ?_
      rintro e w1 ⟨rfl, hL, hB1⟩
      have HL := hide hL
      have HB1 := hide hB1
      have hq : w1.heap[wr.heap.size]? = some (.cells #[.int .u64 (cl : Int), .int .u64 (sq : Int), .slice co cn cc] 113 (0, 0)) := (hB1.block _ (by omega)).trans (alloc_at _ _)
      have q0 := block_cell hq 0
      have q1 := block_cell hq 1
      have q2 := block_cell hq 2
      have f2 := block_free hq 2
      simp at q0 q1 q2
      have hbx : w1.heap[w.heap.size + 1 + 1]? = some (.cells #[.int .u64 (stamp : Int), v] 71 (0, 0)) := (hB1.block _ (by omega)).trans (((World.grownBy_alloc wr _ none).block _ (by omega) (by simp)).trans HBX.out)
      have x1 := block_cell hbx 1
      simp at x1
      have HOW : Hid (∀ s o, ((w1.setCell ⟨wr.heap.size, 2, none⟩ s).alloc o).ownsRow (w.heap.size + 3) 113 3 v k (rcells rs1)) := fun s o => by
        have r1 := row_quiet HRW.out (World.grownBy_alloc wr (.cells #[.int .u64 (cl : Int), .int .u64 (sq : Int), .slice co cn cc] 113) none)
        have hb : Below (wr.alloc (.cells #[.int .u64 (cl : Int), .int .u64 (sq : Int), .slice co cn cc] 113)).heap.size (wr.alloc (.cells #[.int .u64 (cl : Int), .int .u64 (sq : Int), .slice co cn cc] 113)) w1 := by rw [show (wr.alloc (.cells #[.int .u64 (cl : Int), .int .u64 (sq : Int), .slice co cn cc] 113)).heap.size = wr.heap.size + 1 by simp]; exact HB1.out
        have r2 := row_quiet r1 (below_none hb)
        have hvq : v.ownBlock ≠ some wr.heap.size := fun e => by have := (HRW.out.lt _ e).2; omega
        exact row_quiet (r2.kept (grown_set _ _ _ _) (.inr hvq)) (World.grownBy_alloc _ _ none)
      have hs1 : wr.heap.size < w1.heap.size := block_lt hq
      have hneq : ¬ wr.heap.size = w.heap.size + 1 + 1 := by omega
      have hneq' : ¬ w.heap.size + 1 + 1 = wr.heap.size := by omega
      have hcs : w.heap.size + 1 + 1 < w1.heap.size := by omega
      have HQ := hide hq
      clear hL hB1 hq hbx m1 c0 c1 c2
      have HNW : Hid (∀ (j : Nat) (u : Value), [Value.int .u64 (cl : Int), .int .u64 (sq : Int), .slice (some ⟨wr.heap.size + 1, 0, none⟩) cn (cn + 4)][j]? = some u → ((w1.setCell ⟨wr.heap.size, 2, none⟩ (.slice (some ⟨wr.heap.size + 1, 0, none⟩) cn (cn + 4))).alloc (.cells #[.int .u64 (cl : Int), .int .u64 (sq : Int), .slice (some ⟨wr.heap.size + 1, 0, none⟩) cn (cn + 4)] 113)).cell? (Addr.add ⟨w1.heap.size, 0, none⟩ j) = some u) := by
        have h := cell_req_new (w1.setCell ⟨wr.heap.size, 2, none⟩ (.slice (some ⟨wr.heap.size + 1, 0, none⟩) cn (cn + 4))) (.int .u64 (cl : Int)) (.int .u64 (sq : Int)) (.slice (some ⟨wr.heap.size + 1, 0, none⟩) cn (cn + 4)) 113
        rw [show (w1.setCell ⟨wr.heap.size, 2, none⟩ (.slice (some ⟨wr.heap.size + 1, 0, none⟩) cn (cn + 4))).heap.size = w1.heap.size by simp] at h
        exact h
      go_wp2_with (first
        | (at_builtin; refine wpList_append_own _ rfl (.tmp 26) (.tmp 28) 69 rfl (w.heap.size + 3) 113 i0 (.agg #[.int .u64 0, .int .u64 0, .slice none 0 0]) 3 40 Try.underlying69 hi hz0 hz1 hz2 rfl (by decide) v k (rcells rs1) rfl (HOW.out _ _) ⟨w1.heap.size, 0, none⟩ 1 1 [.int .u64 (cl : Int), .int .u64 (sq : Int), .slice (some ⟨wr.heap.size + 1, 0, none⟩) cn (cn + 4)] rfl rfl HNW.out (by simp [Value.oneCell']) (by unfold maxLen; omega) (by omega) (by simp; omega) ?_; intro v' w2 ho hg _; obtain ⟨g', cap', rfl⟩ := ownsRow_succ ho; obtain ⟨hcp2, y1, y2⟩ := HNX.out _ _ _ _ _ _ _ HB1.out HQ.out HL.out (by rw [rcells_snoc]; exact ho) hg; have HC2 := hide hcp2; clear hcp2 ho hg))
      go_roundw
      case rel => exact ⟨k + 1, by omega, by go_num, _, _, HC2.out⟩
      case measure => simp [intOf]; omega
    · obtain rfl : k = rs.length := by omega
      have hbx := HCP.out.box
      have x0 := block_cell hbx 0
      have x1 := block_cell hbx 1
      have hrb : wr.heap[w.heap.size + 1]? = some (.cells #[.int .u64 0, .slice none 0 0] 71 (0, 0)) := (HCP.out.bel.block _ (by omega)).trans HW.out.2.2.1
      have y0 := block_cell hrb 0
      have y1 := block_cell hrb 1
      have f0 := block_free hrb 0
      have f1 := block_free hrb 1
      simp at x0 x1 y0 y1
      have HRB := hide hrb
      have HOR : Hid (OwnRs (w.heap.size + 3) wr v rs1) := by
        obtain ⟨l1, l2⟩ := HCP.out.lent.ok HCP.out.num
        have hl := HCP.out.len
        exact ⟨by rw [hl]; exact HCP.out.row, l1, by omega⟩
      clear hbx hrb
      obtain ⟨ao, cp, b', hv, _⟩ := HOR.out.form
      subst hv
      generalize hgn : rs1.length = m at *
      go_wp2
      refine bodyPost_ret (v := .agg #[.int .u64 (stamp : Int), .slice ao m cp]) (by simp [results, Try.results30, go_sem, y0, y1]) rfl ⟨_, rs1, rfl, ?_⟩
      have hval : rs1.map Rq.val = rs.map Rq.val := by have := HCP.out.val; rwa [List.take_length] at this
      exact fin_copy HCP.out.num HOR.out HCP.out.lent hval HRB.out HBW.out _ _
end Go.Proofs.Ythbpacilceemlaa
