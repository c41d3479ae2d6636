import Derived.Test.YtldhafpeigdloaaGreatDoorM10
import Derived.RangeFuncBox
import Derived.Test.YtldhafpeigdloaaGreatDoorM3
import Derived.Test.YtldhafpeigdloaaGreatDoorM6
namespace Go.Proofs.YtldhafpeigdloaaGreatDoor
open Go.RowKit Crc

/-- The commands are lent copies. -/
def LentRs (w : World) (rs : List Rq) : Prop := ∀ r ∈ rs, ∃ gc, r.co = some ⟨gc, 0, none⟩ ∧ r.cc = r.cn + 4 ∧ Lent w gc r.cn r.C
theorem LentRs.below {w w' : World} {rs : List Rq} (h : LentRs w rs) (hb : Below w.heap.size w w') : LentRs w' rs := fun r hr => by
  obtain ⟨gc, h1, h2, h3⟩ := h r hr
  exact ⟨gc, h1, h2, h3.next (below_none hb) (by simp)⟩

end Go.Proofs.YtldhafpeigdloaaGreatDoor
namespace Go.Proofs.YtldhafpeigdloaaGreatDoor
open Go.RowKit Crc

theorem infoReq : (Tryz.prog.info? 100).map (fun i => (i.zero, i.size, i.bytes)) = some (some (.agg #[.int .u64 0, .int .u64 0, .slice none 0 0]), 3, 40) := by kernel_rfl
/-- The cells of requests. -/
def rcells (rs : List Rq) : List Value := (rs.map fun r => r.cells.toList).flatten
theorem rcells_snoc (rs : List Rq) (r : Rq) : rcells (rs ++ [r]) = rcells rs ++ [.int .u64 (r.cl : Int), .int .u64 (r.sq : Int), .slice r.co r.cn r.cc] := by simp [rcells, Rq.cells]
theorem rcells_len : ∀ rs : List Rq, (rcells rs).length = rs.length * 3
  | [] => rfl
  | r :: t => by
    have := rcells_len t
    simp only [rcells, List.map_cons, List.flatten_cons, List.length_append, List.length_cons] at this ⊢
    rw [this]
    simp [Rq.cells]
    omega
theorem rcells_at : ∀ (rs : List Rq) (i : Nat) (r : Rq), rs[i]? = some r → ∀ j v, r.cells[j]? = some v → (rcells rs)[i * 3 + j]? = some v
  | [], i, r, h, _, _, _ => by simp at h
  | x :: t, 0, r, h, j, v, hv => by
    simp at h
    subst h
    have hj : j < 3 := by have := (Array.getElem?_eq_some_iff.1 hv).1; simpa [Rq.cells] using this
    simp only [rcells, List.map_cons, List.flatten_cons]
    rw [List.getElem?_append_left (by simp [Rq.cells]; omega)]
    simpa using hv
  | x :: t, i + 1, r, h, j, v, hv => by
    simp at h
    have := rcells_at t i r h j v hv
    simp only [rcells, List.map_cons, List.flatten_cons] at this ⊢
    rw [List.getElem?_append_right (by simp [Rq.cells]; omega)]
    have e : (i + 1) * 3 + j - x.cells.toList.length = i * 3 + j := by simp [Rq.cells]; omega
    rw [e]
    exact this

/-- Requests in a list of their own. -/
structure OwnRs (base : Nat) (w : World) (v : Value) (rs : List Rq) : Prop where
  row : w.ownsRow base 100 3 v rs.length (rcells rs)
  ok : ∀ r ∈ rs, r.Ok w.heap.size w
  le : rs.length ≤ 3518437208883
theorem OwnRs.form {base : Nat} {w : World} {v : Value} {rs : List Rq} (h : OwnRs base w v rs) : ∃ ao cap b, v = .slice ao rs.length cap ∧ Rqs w.heap.size w ao rs b 0 := by
  rcases h.row.2 with ⟨rfl, h0⟩ | ⟨g, cap, cur, rfl, hbg, hg, hnc, hcm, hcs, htake⟩
  · have : rs = [] := List.eq_nil_of_length_eq_zero h0
    subst this
    exact ⟨none, 0, 0, rfl, fun h => by simp at h, fun h => by simp at h, h.le, fun i r hr => by simp at hr, h.ok⟩
  · refine ⟨some ⟨g, 0, none⟩, cap, g, rfl, fun _ => rfl, fun _ => (Array.getElem?_eq_some_iff.1 hg).1, h.le, fun i r hr j v hv => ?_, h.ok⟩
    have h1 := rcells_at rs i r hr j v hv
    have hlt : i * 3 + j < rs.length * 3 := by rw [← rcells_len]; exact (List.getElem?_eq_some_iff.1 h1).1
    rw [← htake, List.getElem?_take, if_pos hlt] at h1
    have h2 := cell_of_row w g (0 + i * 3 + j) cur _ (0, 0) hg
    rw [h2, Nat.zero_add]
    simpa using h1

theorem row_ne_lent {base gc n : Nat} {w : World} {v : Value} {k : Nat} {xs : List Value} {C : List Nat} (h : w.ownsRow base 100 3 v k xs) (hl : Lent w gc n C) : v.ownBlock ≠ some gc := by
  intro e
  rcases h.2 with ⟨rfl, _⟩ | ⟨g, cap, cur, rfl, _, hg, _⟩
  · cases e
  · cases e
    rcases hl.2.2 with ⟨h, _⟩ | ⟨g', cap', cur', h1, _, hg', _⟩
    · cases h
    · cases h1
      rw [hg] at hg'
      cases hg'
theorem row_ne_box {base B : Nat} {w : World} {v : Value} {k : Nat} {xs : List Value} {cs : Array Value} (h : w.ownsRow base 100 3 v k xs) (hb : w.heap[B]? = some (.cells cs 29 (0, 0))) : v.ownBlock ≠ some B := by
  intro e
  rcases h.2 with ⟨rfl, _⟩ | ⟨g, cap, cur, rfl, _, hg, _⟩
  · cases e
  · cases e
    rw [hg] at hb
    cases hb
end Go.Proofs.YtldhafpeigdloaaGreatDoor
namespace Go.Proofs.YtldhafpeigdloaaGreatDoor
open Go.RowKit Crc

theorem lent_ne_cells {gc n B : Nat} {w : World} {C : List Nat} {cs : Array Value} {t : TypeId} (hl : Lent w gc n C) (hb : w.heap[B]? = some (.cells cs t (0, 0))) (ht : t ≠ 5) : some B ≠ some gc := by
  intro e
  cases e
  rcases hl.2.2 with ⟨h, _⟩ | ⟨g', cap', cur', h1, _, hg', _⟩
  · cases h
  · cases h1
    rw [hb] at hg'
    cases hg'
    exact ht rfl
theorem LentRs.next {w w' : World} {rs : List Rq} {row : Option Nat} (h : LentRs w rs) (hg : w.grownBy w' row) (hr : ∀ gc n C, Lent w gc n C → row ≠ some gc) : LentRs w' rs := fun r hx => by
  obtain ⟨gc, h1, h2, h3⟩ := h r hx
  exact ⟨gc, h1, h2, h3.next hg (hr gc _ _ h3)⟩
/-- Numbers that a request has. -/
def Rq.num (r : Rq) : Prop := r.cl < 18446744073709551616 ∧ r.sq < 18446744073709551616 ∧ (∀ x ∈ r.C, x < 256) ∧ r.cn ≤ 140737488355328
theorem LentRs.ok {w : World} {rs : List Rq} (h : LentRs w rs) (hn : ∀ r ∈ rs, r.num) : (∀ r ∈ rs, r.Ok w.heap.size w) ∧ (∀ r ∈ rs, ∀ b off, r.co = some ⟨b, off, none⟩ → b < w.heap.size) := by
  refine ⟨fun r hr => ?_, fun r hr b off hbo => ?_⟩
  · obtain ⟨gc, h1, h2, h3⟩ := h r hr
    obtain ⟨n1, n2, n3, n4⟩ := hn r hr
    refine ⟨n1, n2, ?_⟩
    rw [h1, h2]
    exact h3.shows n3 n4
  · obtain ⟨gc, h1, h2, h3⟩ := h r hr
    rw [h1] at hbo
    cases hbo
    rcases h3.2.2 with ⟨h, _⟩ | ⟨g', cap', cur', h1, _, hg', _⟩
    · cases h
    · cases h1; exact block_lt hg'

theorem row_quiet {base size k : Nat} {e : TypeId} {w w' : World} {v : Value} {xs : List Value} (h : w.ownsRow base e size v k xs) (hg : w.grownBy w' none) : w'.ownsRow base e size v k xs := by
  refine h.kept hg ?_
  cases v.ownBlock with
  | none => exact .inl rfl
  | some g => exact .inr (by simp)
/-- Between two rounds of the copying. -/
structure Cp (w W2 : World) (stamp : Nat) (rs : List Rq) (k : Nat) (v : Value) (rs1 : List Rq) (wr : World) : Prop where
  bel : Below (w.heap.size + 1 + 1) W2 wr
  box : wr.heap[w.heap.size + 1 + 1]? = some (.cells #[.int .u64 (stamp : Int), v] 29 (0, 0))
  row : wr.ownsRow (w.heap.size + 3) 100 3 v k (rcells rs1)
  len : rs1.length = k
  val : rs1.map Rq.val = (rs.take k).map Rq.val
  lent : LentRs wr rs1
  num : ∀ r ∈ rs1, r.num

theorem Cp.next {w W2 : World} {stamp : Nat} {rs : List Rq} {k : Nat} {v v' : Value} {rs1 : List Rq} {wr w1 w2 : World} {r r1 : Rq} {o1 o2 : Obj} {x : Value} {cs : Array Value}
    (hw : w.heap.size + 3 ≤ wr.heap.size) (h : Cp w W2 stamp rs k v rs1 wr) (hr : rs[k]? = some r) (hb1 : Below (wr.heap.size + 1) (wr.alloc o1) w1) (hq : w1.heap[wr.heap.size]? = some (.cells cs 100 (0, 0)))
    (hl : Lent w1 (wr.heap.size + 1) r1.cn r1.C) (hco : r1.co = some ⟨wr.heap.size + 1, 0, none⟩) (hcc : r1.cc = r1.cn + 4) (hv : r1.val = r.val) (hn : r1.num)
    (ho : w2.ownsRow (w.heap.size + 3) 100 3 v' (k + 1) (rcells (rs1 ++ [r1]))) (hg : ((w1.setCell ⟨wr.heap.size, 2, none⟩ x).alloc o2).grownBy w2 v.ownBlock) :
    Cp w W2 stamp rs (k + 1) v' (rs1 ++ [r1]) (w2.setCell ⟨w.heap.size + 1 + 1, 1, none⟩ v') ∧ w2.cell? ⟨w.heap.size + 1 + 1, 1, none⟩ = some v ∧ w2.frozen? ⟨w.heap.size + 1 + 1, 1, none⟩ = false := by
  have hbA : Below wr.heap.size wr w1 := (below_alloc1 wr o1).trans (hb1.mono (by omega))
  have hcb := block_lt h.box
  have hgA := World.grownBy_alloc (w1.setCell ⟨wr.heap.size, 2, none⟩ x) o2 none
  have row1 : w1.ownsRow (w.heap.size + 3) 100 3 v k (rcells rs1) := row_quiet h.row (below_none hbA)
  have hvq : v.ownBlock ≠ some wr.heap.size := fun e => by have := (h.row.lt _ e).2; omega
  have box1 : w1.heap[w.heap.size + 1 + 1]? = some (.cells #[.int .u64 (stamp : Int), v] 29 (0, 0)) := (hbA.block _ hcb).trans h.box
  have box2 : (w1.setCell ⟨wr.heap.size, 2, none⟩ x).heap[w.heap.size + 1 + 1]? = some (.cells #[.int .u64 (stamp : Int), v] 29 (0, 0)) := ((grown_set w1 wr.heap.size 2 x).block _ (block_lt box1) (by simp; omega)).trans box1
  have box3 : ((w1.setCell ⟨wr.heap.size, 2, none⟩ x).alloc o2).heap[w.heap.size + 1 + 1]? = some (.cells #[.int .u64 (stamp : Int), v] 29 (0, 0)) := (hgA.block _ (block_lt box2) (by simp)).trans box2
  have row2 : (w1.setCell ⟨wr.heap.size, 2, none⟩ x).ownsRow (w.heap.size + 3) 100 3 v k (rcells rs1) := row1.kept (grown_set _ _ _ _) (.inr hvq)
  have row3 := row_quiet row2 hgA
  have hrc := row_ne_box row3 box3
  have box4 : w2.heap[w.heap.size + 1 + 1]? = some (.cells #[.int .u64 (stamp : Int), v] 29 (0, 0)) := (hg.block _ (block_lt box3) (fun e => hrc e.symm)).trans box3
  have hrc' := row_ne_box ho box4
  have l1 : LentRs w1 rs1 := h.lent.below hbA
  have l1' : LentRs w1 (rs1 ++ [r1]) := fun y hy => by
    rcases List.mem_append.1 hy with hy | hy
    · exact l1 y hy
    · simp at hy; subst hy; exact ⟨_, hco, hcc, hl⟩
  have l2 := l1'.next (grown_set w1 wr.heap.size 2 x) (fun gc n C hL => lent_ne_cells hL hq (by decide))
  have l3 := l2.next hgA (fun gc n C hL => by simp)
  have l4 := l3.next hg (fun gc n C hL => row_ne_lent row3 hL)
  have l5 := l4.next (grown_set w2 (w.heap.size + 1 + 1) 1 v') (fun gc n C hL => lent_ne_cells hL box4 (by decide))
  have b1 : Below (w.heap.size + 1 + 1) W2 w1 := h.bel.trans (hbA.mono (by omega))
  have b2 := b1.setCell (p := ⟨wr.heap.size, 2, none⟩) (by simp; omega) x
  have b3 := b2.grown hgA (by have := b2.size; have := block_lt box2; omega) (fun k e => by cases e)
  have b4 := b3.grown hg (by have := block_lt box3; omega) (fun k e => by have := (row3.lt k e).1; omega)
  have b5 := b4.setCell (p := ⟨w.heap.size + 1 + 1, 1, none⟩) (Nat.le_refl _) v'
  refine ⟨⟨b5, ?_, ho.kept (grown_set _ _ _ _) (.inr hrc'), by simp [h.len], ?_, l5, ?_⟩, block_cell box4 1, block_free box4 1⟩
  · rw [heap_setCell_same w2 (w.heap.size + 1 + 1) 1 _ _ v' box4]; rfl
  · rw [List.map_append, h.val, List.take_add_one, hr]
    simp [hv]
  · intro y hy
    rcases List.mem_append.1 hy with hy | hy
    · exact h.num y hy
    · simp at hy; subst hy; exact hn
end Go.Proofs.YtldhafpeigdloaaGreatDoor
namespace Go.Proofs.YtldhafpeigdloaaGreatDoor
open Go.RowKit Crc

theorem cell_req_new (W : World) (x y z : Value) (t : TypeId) : ∀ (j : Nat) (u : Value), [x, y, z][j]? = some u → (W.alloc (.cells #[x, y, z] t)).cell? (Addr.add ⟨W.heap.size, 0, none⟩ j) = some u := by
  intro j u hu
  have := World.cell?_alloc_new W #[x, y, z] t j
  have he : Addr.add ⟨W.heap.size, 0, none⟩ j = ⟨W.heap.size, j, none⟩ := by
    simp only [Addr.add]
    split <;> simp_all
  rw [he, this]
  simpa using hu

theorem fin_copy {w wr : World} {v : Value} {rs rs1 : List Rq} {cs : Array Value} (hn : ∀ r ∈ rs1, r.num) (h : OwnRs (w.heap.size + 3) wr v rs1) (hl : LentRs wr rs1) (hv : rs1.map Rq.val = rs.map Rq.val) (hb : wr.heap[w.heap.size + 1]? = some (.cells cs 29 (0, 0))) (hbw : Below w.heap.size w wr) (x y : Value) :
    OwnRs w.heap.size ((wr.setCell ⟨w.heap.size + 1, 0, none⟩ x).setCell ⟨w.heap.size + 1, 1, none⟩ y) v rs1 ∧ rs1.map Rq.val = rs.map Rq.val ∧ LentRs ((wr.setCell ⟨w.heap.size + 1, 0, none⟩ x).setCell ⟨w.heap.size + 1, 1, none⟩ y) rs1 ∧ (∀ r ∈ rs1, ∀ b off, r.co = some ⟨b, off, none⟩ → b < ((wr.setCell ⟨w.heap.size + 1, 0, none⟩ x).setCell ⟨w.heap.size + 1, 1, none⟩ y).heap.size) ∧ Below w.heap.size w ((wr.setCell ⟨w.heap.size + 1, 0, none⟩ x).setCell ⟨w.heap.size + 1, 1, none⟩ y) := by
  have hne : v.ownBlock ≠ some (w.heap.size + 1) := fun e => by have := (h.row.lt _ e).1; omega
  have r2 := (h.row.kept (grown_set wr (w.heap.size + 1) 0 x) (.inr hne)).kept (grown_set _ (w.heap.size + 1) 1 y) (.inr hne)
  have hb2 := heap_setCell_same wr (w.heap.size + 1) 0 _ _ x hb
  have l2 := (hl.next (grown_set wr (w.heap.size + 1) 0 x) (fun gc n C hL => lent_ne_cells hL hb (by decide))).next (grown_set _ (w.heap.size + 1) 1 y) (fun gc n C hL => lent_ne_cells hL hb2 (by decide))
  obtain ⟨o1, o2⟩ := l2.ok hn
  refine ⟨⟨⟨r2.1, ?_⟩, o1, h.le⟩, hv, l2, o2, (hbw.setCell (p := ⟨w.heap.size + 1, 0, none⟩) (by simp) _).setCell (p := ⟨w.heap.size + 1, 1, none⟩) (by simp) _⟩
  rcases r2.2 with h0 | ⟨g, cap, cur, h1, h2, h3⟩
  · exact .inl h0
  · exact .inr ⟨g, cap, cur, h1, by omega, h3⟩

set_option maxRecDepth 10000 in
set_option maxHeartbeats 1600000 in
theorem copyBatch_any {w : World} (stamp : Nat) {ro : Option Addr} {rs : List Rq} {b off : Nat} (rc : Nat) (h : Rqs w.heap.size w ro rs b off) :
    Calls Tryz.prog 18 #[.agg #[.int .u64 (stamp : Int), .slice ro rs.length rc]] w fun e w' => ∃ v rs1, e = .returned (.agg #[.int .u64 (stamp : Int), v]) ∧ Hid (OwnRs w.heap.size w' v rs1 ∧ rs1.map Rq.val = rs.map Rq.val ∧ LentRs w' rs1 ∧ (∀ r ∈ rs1, ∀ b off, r.co = some ⟨b, off, none⟩ → b < w'.heap.size) ∧ Below w.heap.size w w') := by
  obtain ⟨i0, hi, hz0, hz1, hz2⟩ := info_parts infoReq
  have hle := h.le
  have HR := hide h
  clear h
  obtain ⟨W2, hW2⟩ : ∃ W2, ((w.alloc (.cells #[.int .u64 (stamp : Int), .slice ro rs.length rc] 29)).alloc (.cells #[.int .u64 0, .slice none 0 0] 29)).alloc (.cells #[.int .u64 (stamp : Int), .slice none 0 0] 29) = W2 := ⟨_, rfl⟩
  have s2 : W2.heap.size = w.heap.size + 3 := by rw [← hW2]; simp
  have HW : Hid (Below w.heap.size w W2 ∧ W2.cell? ⟨w.heap.size, 1, none⟩ = some (.slice ro rs.length rc) ∧ W2.heap[w.heap.size + 1]? = some (.cells #[.int .u64 0, .slice none 0 0] 29 (0, 0)) ∧ Cp w W2 stamp rs 0 (.slice none 0 0) [] W2) := by
    have e1 : (w.alloc (.cells #[.int .u64 (stamp : Int), .slice ro rs.length rc] 29)).heap.size = w.heap.size + 1 := by simp
    have e2 : ((w.alloc (.cells #[.int .u64 (stamp : Int), .slice ro rs.length rc] 29)).alloc (.cells #[.int .u64 0, .slice none 0 0] 29)).heap.size = w.heap.size + 1 + 1 := by simp
    refine ⟨?_, ?_, ?_, ⟨Below.refl _ _, ?_, World.ownsRow_nil _ _ _ _, rfl, by simp, fun r hr => by simp at hr, fun r hr => by simp at hr⟩⟩
    · rw [← hW2]; exact ((below_alloc1 w _).alloc (by simp) _).alloc (by simp; omega) _
    · rw [← hW2]
      exact (World.cell?_alloc_lt _ _ _ (by rw [e2]; simp; omega)).trans ((World.cell?_alloc_lt _ _ _ (by rw [e1]; simp)).trans (World.cell?_alloc_new w _ _ _))
    · rw [← hW2]
      have h1 := alloc_at (w.alloc (.cells #[.int .u64 (stamp : Int), .slice ro rs.length rc] 29)) (.cells #[.int .u64 0, .slice none 0 0] 29)
      rw [e1] at h1
      exact ((World.grownBy_alloc _ _ none).block _ (block_lt h1) (by simp)).trans h1
    · rw [← hW2, ← e2]; exact alloc_at _ _
  have HW2 := hide hW2
  clear hW2
  go_enter Tryz.func18, Tryz.ntmps18
  go_wp2
  rw [HW2.out]
  go_loopw [4] (fun i wr => ∃ k : Nat, k ≤ rs.length ∧ i = .int .i64 k ∧ Hid (∃ v rs1, Cp w W2 stamp rs k v rs1 wr)) (fun i _ => rs.length - (intOf i).toNat)
  case atStart => exact ⟨0, by omega, rfl, _, _, HW.out.2.2.2⟩
  case round =>
    obtain ⟨k, hk, rfl, HS⟩ := hrel
    obtain ⟨v, rs1, hcp⟩ := HS.out
    have HCP := hide hcp
    have hbw : Below w.heap.size w wr := HW.out.1.trans (hcp.bel.mono (by omega))
    have m1 : wr.cell? ⟨w.heap.size, 1, none⟩ = some (.slice ro rs.length rc) := (hcp.bel.cell (p := ⟨w.heap.size, 1, none⟩) (by simp; omega)).trans HW.out.2.1
    have hsz : w.heap.size + 3 ≤ wr.heap.size := by have := hcp.bel.size; omega
    have HBW := hide hbw
    clear hcp hbw HS
    by_cases hlt : k < rs.length
    · obtain ⟨r, hr, hd, hok, hbl, rfl, c0, c1, c2⟩ := (HR.out.below HBW.out).get hlt
      have HLD : Hid (∀ o, Calls Tryz.prog 9 #[.slice r.co r.cn r.cc] (wr.alloc o) fun e w1 => e = .returned (.slice (some ⟨wr.heap.size + 1, 0, none⟩) r.cn (r.cn + 4)) ∧ Lent w1 (wr.heap.size + 1) r.cn r.C ∧ Below (wr.heap.size + 1) (wr.alloc o) w1) := fun o => by
        have h := lend_sh (w := wr.alloc o) ((hok.hC.wide HBW.out.size).belowL (below_alloc1 wr o)) (by simp)
        rw [show (wr.alloc o).heap.size = wr.heap.size + 1 by simp] at h
        exact h
      have HNX : Hid (∀ (v' : Value) (w1 w2 : World) (o1 o2 : Obj) (x : Value) (cs : Array Value), Below (wr.heap.size + 1) (wr.alloc o1) w1 → w1.heap[wr.heap.size]? = some (.cells cs 100 (0, 0)) → Lent w1 (wr.heap.size + 1) r.cn r.C → w2.ownsRow (w.heap.size + 3) 100 3 v' (k + 1) (rcells (rs1 ++ [⟨r.cl, r.sq, some ⟨wr.heap.size + 1, 0, none⟩, r.cn, r.cn + 4, r.C⟩])) → ((w1.setCell ⟨wr.heap.size, 2, none⟩ x).alloc o2).grownBy w2 v.ownBlock →
          Cp w W2 stamp rs (k + 1) v' (rs1 ++ [⟨r.cl, r.sq, some ⟨wr.heap.size + 1, 0, none⟩, r.cn, r.cn + 4, r.C⟩]) (w2.setCell ⟨w.heap.size + 1 + 1, 1, none⟩ v') ∧ w2.cell? ⟨w.heap.size + 1 + 1, 1, none⟩ = some v ∧ w2.frozen? ⟨w.heap.size + 1 + 1, 1, none⟩ = false) := fun v' w1 w2 o1 o2 x cs hb1 hq hl ho hg =>
        Cp.next (r := r) (r1 := ⟨r.cl, r.sq, some ⟨wr.heap.size + 1, 0, none⟩, r.cn, r.cn + 4, r.C⟩) hsz HCP.out hr hb1 hq hl rfl rfl rfl ⟨hok.hc, hok.hs, hok.hC.2.2.2.1, hok.hC.2.2.1⟩ ho hg
      obtain ⟨cl, sq, co, cn, cc, C⟩ := r
      simp only at c0 c1 c2 HLD HNX
      have HBX := hide HCP.out.box
      have HRW := hide HCP.out.row
      clear hr hd hok
      go_wp2_with fail
      refine (HLD.out _).mono ?_
      rintro e w1 ⟨rfl, hL, hB1⟩
      have HL := hide hL
      have HB1 := hide hB1
      have hq : w1.heap[wr.heap.size]? = some (.cells #[.int .u64 (cl : Int), .int .u64 (sq : Int), .slice co cn cc] 100 (0, 0)) := (hB1.block _ (by omega)).trans (alloc_at _ _)
      have q0 := block_cell hq 0
      have q1 := block_cell hq 1
      have q2 := block_cell hq 2
      have f2 := block_free hq 2
      simp at q0 q1 q2
      have hbx : w1.heap[w.heap.size + 1 + 1]? = some (.cells #[.int .u64 (stamp : Int), v] 29 (0, 0)) := (hB1.block _ (by omega)).trans (((World.grownBy_alloc wr _ none).block _ (by omega) (by simp)).trans HBX.out)
      have x1 := block_cell hbx 1
      simp at x1
      have HOW : Hid (∀ s o, ((w1.setCell ⟨wr.heap.size, 2, none⟩ s).alloc o).ownsRow (w.heap.size + 3) 100 3 v k (rcells rs1)) := fun s o => by
        have r1 := row_quiet HRW.out (World.grownBy_alloc wr (.cells #[.int .u64 (cl : Int), .int .u64 (sq : Int), .slice co cn cc] 100) none)
        have hb : Below (wr.alloc (.cells #[.int .u64 (cl : Int), .int .u64 (sq : Int), .slice co cn cc] 100)).heap.size (wr.alloc (.cells #[.int .u64 (cl : Int), .int .u64 (sq : Int), .slice co cn cc] 100)) w1 := by rw [show (wr.alloc (.cells #[.int .u64 (cl : Int), .int .u64 (sq : Int), .slice co cn cc] 100)).heap.size = wr.heap.size + 1 by simp]; exact HB1.out
        have r2 := row_quiet r1 (below_none hb)
        have hvq : v.ownBlock ≠ some wr.heap.size := fun e => by have := (HRW.out.lt _ e).2; omega
        exact row_quiet (r2.kept (grown_set _ _ _ _) (.inr hvq)) (World.grownBy_alloc _ _ none)
      have hs1 : wr.heap.size < w1.heap.size := block_lt hq
      have hneq : ¬ wr.heap.size = w.heap.size + 1 + 1 := by omega
      have hneq' : ¬ w.heap.size + 1 + 1 = wr.heap.size := by omega
      have hcs : w.heap.size + 1 + 1 < w1.heap.size := by omega
      have HQ := hide hq
      clear hL hB1 hq hbx m1 c0 c1 c2
      have HNW : Hid (∀ (j : Nat) (u : Value), [Value.int .u64 (cl : Int), .int .u64 (sq : Int), .slice (some ⟨wr.heap.size + 1, 0, none⟩) cn (cn + 4)][j]? = some u → ((w1.setCell ⟨wr.heap.size, 2, none⟩ (.slice (some ⟨wr.heap.size + 1, 0, none⟩) cn (cn + 4))).alloc (.cells #[.int .u64 (cl : Int), .int .u64 (sq : Int), .slice (some ⟨wr.heap.size + 1, 0, none⟩) cn (cn + 4)] 100)).cell? (Addr.add ⟨w1.heap.size, 0, none⟩ j) = some u) := by
        have h := cell_req_new (w1.setCell ⟨wr.heap.size, 2, none⟩ (.slice (some ⟨wr.heap.size + 1, 0, none⟩) cn (cn + 4))) (.int .u64 (cl : Int)) (.int .u64 (sq : Int)) (.slice (some ⟨wr.heap.size + 1, 0, none⟩) cn (cn + 4)) 100
        rw [show (w1.setCell ⟨wr.heap.size, 2, none⟩ (.slice (some ⟨wr.heap.size + 1, 0, none⟩) cn (cn + 4))).heap.size = w1.heap.size by simp] at h
        exact h
      go_wp2_with (first
        | (at_builtin; refine wpList_append_own _ rfl (.tmp 26) (.tmp 28) 27 rfl (w.heap.size + 3) 100 i0 (.agg #[.int .u64 0, .int .u64 0, .slice none 0 0]) 3 40 Tryz.underlying27 hi hz0 hz1 hz2 rfl (by decide) v k (rcells rs1) rfl (HOW.out _ _) ⟨w1.heap.size, 0, none⟩ 1 1 [.int .u64 (cl : Int), .int .u64 (sq : Int), .slice (some ⟨wr.heap.size + 1, 0, none⟩) cn (cn + 4)] rfl rfl HNW.out (by simp [Value.oneCell']) (by unfold maxLen; omega) (by omega) (by simp; omega) ?_; intro v' w2 ho hg _; obtain ⟨g', cap', rfl⟩ := ownsRow_succ ho; obtain ⟨hcp2, y1, y2⟩ := HNX.out _ _ _ _ _ _ _ HB1.out HQ.out HL.out (by rw [rcells_snoc]; exact ho) hg; have HC2 := hide hcp2; clear hcp2 ho hg))
      go_roundw
      case rel => exact ⟨k + 1, by omega, by go_num, _, _, HC2.out⟩
      case measure => simp [intOf]; omega
    · obtain rfl : k = rs.length := by omega
      have hbx := HCP.out.box
      have x0 := block_cell hbx 0
      have x1 := block_cell hbx 1
      have hrb : wr.heap[w.heap.size + 1]? = some (.cells #[.int .u64 0, .slice none 0 0] 29 (0, 0)) := (HCP.out.bel.block _ (by omega)).trans HW.out.2.2.1
      have y0 := block_cell hrb 0
      have y1 := block_cell hrb 1
      have f0 := block_free hrb 0
      have f1 := block_free hrb 1
      simp at x0 x1 y0 y1
      have HRB := hide hrb
      have HOR : Hid (OwnRs (w.heap.size + 3) wr v rs1) := by
        obtain ⟨l1, l2⟩ := HCP.out.lent.ok HCP.out.num
        have hl := HCP.out.len
        exact ⟨by rw [hl]; exact HCP.out.row, l1, by omega⟩
      clear hbx hrb
      obtain ⟨ao, cp, b', hv, _⟩ := HOR.out.form
      subst hv
      generalize hgn : rs1.length = m at *
      go_wp2
      refine bodyPost_ret (v := .agg #[.int .u64 (stamp : Int), .slice ao m cp]) (by simp [results, Tryz.results18, go_sem, y0, y1]) rfl ⟨_, rs1, rfl, ?_⟩
      have hval : rs1.map Rq.val = rs.map Rq.val := by have := HCP.out.val; rwa [List.take_length] at this
      exact fin_copy HCP.out.num HOR.out HCP.out.lent hval HRB.out HBW.out _ _
end Go.Proofs.YtldhafpeigdloaaGreatDoor
namespace Go.Proofs.YtldhafpeigdloaaGreatDoor
open Go.RowKit Crc

/-- A fault noted from outside. -/
def RS.failP (s : RS) (a y : Int) : RS := if s.sound then { s with place := a, why := y } else s

set_option maxRecDepth 10000 in
set_option maxHeartbeats 800000 in
theorem failP_any (lim p : Nat) (s : RS) (a y : Int) (w : World) (hR : RdS lim w p s) :
    Calls Tryz.prog 109 #[.pointer (some ⟨p, 0, none⟩), .int .i64 a, .int .i64 y] w fun e w' => e = .returned (.tuple #[]) ∧ RdS lim w' p (s.failP a y) ∧ w.grownBy w' (some p) := by
  have HRR := hide hR
  obtain ⟨made, place, why0, B, pos, K⟩ := s
  obtain ⟨ao, cap, hb, hS, hp, hl⟩ := hR
  simp only at hb hS hp hl
  have c0 := block_cell hb 0
  have c1 := block_cell hb 1
  have c2 := block_cell hb 2
  have f1 := block_free hb 1
  have f2 := block_free hb 2
  simp at c0 c1 c2
  by_cases hd : made = true ∧ why0 = 0
  · obtain ⟨rfl, rfl⟩ := hd
    refine (fail_sound p place a y w c0 c1 c2 f1 f2).mono ?_
    rintro e w' ⟨rfl, rfl⟩
    refine ⟨rfl, ?_, grown_trans (row := some p) (grown_set _ _ _ _) (grown_set _ _ _ _)⟩
    rw [show RS.failP ⟨true, place, 0, B, pos, K⟩ a y = ⟨true, a, y, B, pos, K⟩ by simp [RS.failP, RS.sound]]
    have hb1 : (w.setCell ⟨p, 1, none⟩ (.int .i64 a)).heap[p]? = some (.cells (List.toArray (.bool true :: .int .i64 a :: .int .i64 0 :: .slice ao B.length cap :: .int .i64 (pos : Int) :: K.R)) K.t (0, 0)) := by
      rw [heap_setCell_same w p 1 _ _ _ hb]; simp
    refine ⟨ao, cap, ?_, ?_, hp, hl⟩
    · rw [heap_setCell_same _ p 2 _ _ _ hb1]; simp
    · exact (hS.kept (grown_set _ _ _ _) (fun g hg => by cases hg; exact hl)).kept (grown_set _ _ _ _) (fun g hg => by cases hg; exact hl)
  · have hsb : (made && (why0 == 0)) = false := by
      cases made
      · rfl
      · simp at hd; simp [hd]
    have HSD := hide (sound_any p made why0 w c0 c2)
    rw [hsb] at HSD
    have HF : Hid (RS.failP ⟨made, place, why0, B, pos, K⟩ a y = ⟨made, place, why0, B, pos, K⟩) := if_neg hd
    clear hb hS hp hl hd hsb c0 c1 c2 f1 f2
    go_enter Tryz.func109, Tryz.ntmps109
    go_wp2_with fail
    refine HSD.out.mono ?_
    rintro e w1 ⟨rfl, rfl⟩
    go_wp2
    go_end0
    refine ⟨rfl, ?_, rfl, rfl, rfl, Nat.le_refl _, fun _ _ _ => rfl⟩
    rw [HF.out]
    exact HRR.out

def bndY (n least most : Nat) : Int := if n < least ∨ most < n then 29 else 0
set_option maxRecDepth 10000 in
theorem boundFault_any (n least most : Nat) (w : World) :
    Calls Tryz.prog 78 #[.int .u64 (n : Int), .int .u64 (least : Int), .int .u64 (most : Int)] w fun e w' => e = .returned (.int .i64 (bndY n least most)) ∧ w' = w := by
  by_cases h1 : n < least
  · have d1 : decide ((n : Int) < (least : Int)) = true := by simp; omega
    have HY : Hid (bndY n least most = 29) := if_pos (.inl h1)
    rw [HY.out]
    go_enter Tryz.func78, Tryz.ntmps78
    go_wp2
    go_ret
    exact ⟨rfl, rfl⟩
  · have d1 : decide ((n : Int) < (least : Int)) = false := by simp; omega
    by_cases h2 : most < n
    · have d2 : decide ((most : Int) < (n : Int)) = true := by simp; omega
      have HY : Hid (bndY n least most = 29) := if_pos (.inr h2)
      rw [HY.out]
      go_enter Tryz.func78, Tryz.ntmps78
      go_wp2
      go_ret
      exact ⟨rfl, rfl⟩
    · have d2 : decide ((most : Int) < (n : Int)) = false := by simp; omega
      have HY : Hid (bndY n least most = 0) := if_neg (by omega)
      rw [HY.out]
      go_enter Tryz.func78, Tryz.ntmps78
      go_wp2
      go_ret
      exact ⟨rfl, rfl⟩

def rdNum (s : RS) : RS := s.step (numAt s.rest).2.1 (numAt s.rest).2.2
def rdBound (s : RS) (least most : Nat) : RS := if bndY (numAt s.rest).1 least most = 0 then rdNum s else (rdNum s).failP s.pos 29

set_option maxRecDepth 10000 in
set_option maxHeartbeats 800000 in
theorem readBound_any (lim p : Nat) (s : RS) (least most : Nat) (w : World) (hR : RdS lim w p s) :
    Calls Tryz.prog 130 #[.pointer (some ⟨p, 0, none⟩), .int .u64 (least : Int), .int .u64 (most : Int)] w fun e w' => e = .returned (.int .u64 ((numAt s.rest).1 : Nat)) ∧ Hid (RdS lim w' p (rdBound s least most) ∧ w.grownBy w' (some p)) := by
  have HAT := hide (rAt_any lim p s w hR)
  have HNM : Hid (Calls Tryz.prog 133 #[.pointer (some ⟨p, 0, none⟩)] w fun e w' => e = .returned (.int .u64 ((numAt s.rest).1 : Nat)) ∧ Hid (RdS lim w' p (rdNum s) ∧ w.grownBy w' (some p))) := (rNum_any lim p s w hR).mono (fun _ _ h => ⟨h.1, h.2⟩)
  have HBF := hide (boundFault_any (numAt s.rest).1 least most)
  have HFP : Hid (∀ w', RdS lim w' p (rdNum s) → Calls Tryz.prog 109 #[.pointer (some ⟨p, 0, none⟩), .int .i64 (s.pos : Int), .int .i64 29] w' fun e w2 => e = .returned (.tuple #[]) ∧ Hid (RdS lim w2 p ((rdNum s).failP s.pos 29) ∧ w'.grownBy w2 (some p))) := fun w' h => (failP_any lim p (rdNum s) s.pos 29 w' h).mono (fun _ _ h => ⟨h.1, h.2⟩)
  clear hR
  by_cases hy : bndY (numAt s.rest).1 least most = 0
  · have HE : Hid (rdBound s least most = rdNum s) := if_pos hy
    rw [hy] at HBF
    rw [HE.out]
    generalize (numAt s.rest).1 = n at *
    clear hy
    go_enter Tryz.func130, Tryz.ntmps130
    go_wp2_with fail
    refine HAT.out.mono ?_
    rintro e w1 ⟨rfl, rfl⟩
    go_wp2_with fail
    refine HNM.out.mono ?_
    rintro e w2 ⟨rfl, H2⟩
    go_wp2_with fail
    refine (HBF.out _).mono ?_
    rintro e w3 ⟨rfl, rfl⟩
    go_wp2
    go_ret
    exact ⟨rfl, H2⟩
  · have HE : Hid (rdBound s least most = (rdNum s).failP s.pos 29) := if_neg hy
    have h29 : bndY (numAt s.rest).1 least most = 29 := by
      unfold bndY at hy ⊢
      by_cases h : (numAt s.rest).1 < least ∨ most < (numAt s.rest).1
      · rw [if_pos h]
      · rw [if_neg h] at hy; exact absurd rfl hy
    rw [h29] at HBF
    rw [HE.out]
    generalize (numAt s.rest).1 = n at *
    clear hy h29
    go_enter Tryz.func130, Tryz.ntmps130
    go_wp2_with fail
    refine HAT.out.mono ?_
    rintro e w1 ⟨rfl, rfl⟩
    go_wp2_with fail
    refine HNM.out.mono ?_
    rintro e w2 ⟨rfl, H2⟩
    go_wp2_with fail
    refine (HBF.out _).mono ?_
    rintro e w3 ⟨rfl, rfl⟩
    go_wp2_with fail
    refine (HFP.out _ H2.out.1).mono ?_
    rintro e w4 ⟨rfl, H4⟩
    go_wp2
    go_ret
    exact ⟨rfl, H4.out.1, grown_trans (row := some p) H2.out.2 H4.out.2⟩
end Go.Proofs.YtldhafpeigdloaaGreatDoor
namespace Go.Proofs.YtldhafpeigdloaaGreatDoor
open Go.RowKit Crc

/-- A request that is read. -/
def rqS1 (s : RS) : RS := rdBound s 256 18446744073709551615
def rqS2 (s : RS) : RS := rdNum (rqS1 s)
def rqS3 (s : RS) : RS := (rqS2 s).step (blobAt (rqS2 s).rest 700).2.1 (blobAt (rqS2 s).rest 700).2.2
def rqV (s : RS) : Nat × Nat × List Nat := ((numAt s.rest).1, (numAt (rqS1 s).rest).1, (blobAt (rqS2 s).rest 700).1)
theorem RdS.quiet {lim : Nat} {w w' : World} {p : Nat} {s : RS} (h : RdS lim w p s) (hg : w.grownBy w' none) : RdS lim w' p s := h.kept hg (fun g e => by cases e)

theorem fin_req {lim p : Nat} {w w3 : World} {v : Value} {C : List Nat} {s : RS} (hp : p < w.heap.size) (ho : Owns (w.heap.size + 1) w3 v C) (hR : RdS lim w3 p s) (hg : w.grownBy w3 (some p)) (x y z : Value) :
    Owns (w.heap.size + 1) (((w3.setCell ⟨w.heap.size, 0, none⟩ x).setCell ⟨w.heap.size, 1, none⟩ y).setCell ⟨w.heap.size, 2, none⟩ z) v C ∧ RdS lim (((w3.setCell ⟨w.heap.size, 0, none⟩ x).setCell ⟨w.heap.size, 1, none⟩ y).setCell ⟨w.heap.size, 2, none⟩ z) p s ∧ w.grownBy (((w3.setCell ⟨w.heap.size, 0, none⟩ x).setCell ⟨w.heap.size, 1, none⟩ y).setCell ⟨w.heap.size, 2, none⟩ z) (some p) := by
  have hne : v.ownBlock ≠ some w.heap.size := fun e => by have := (ho.1.lt _ e).1; omega
  have hr : ∀ g, some w.heap.size = some g → lim ≤ g ∧ g ≠ p := fun g e => by cases e; have := hR.limp; exact ⟨by omega, by omega⟩
  refine ⟨((ho.kept (grown_set _ _ _ _) (.inr hne)).kept (grown_set _ _ _ _) (.inr hne)).kept (grown_set _ _ _ _) (.inr hne), ((hR.kept (grown_set _ _ _ _) hr).kept (grown_set _ _ _ _) hr).kept (grown_set _ _ _ _) hr, hg.os, hg.tape, hg.output, by simpa using hg.size, fun k hk hn => ?_⟩
  have e1 := (grown_set w3 w.heap.size 0 x).block k (by have := hg.size; omega) (by simp; omega)
  have e2 := (grown_set (w3.setCell ⟨w.heap.size, 0, none⟩ x) w.heap.size 1 y).block k (by have := hg.size; simp; omega) (by simp; omega)
  have e3 := (grown_set ((w3.setCell ⟨w.heap.size, 0, none⟩ x).setCell ⟨w.heap.size, 1, none⟩ y) w.heap.size 2 z).block k (by have := hg.size; simp; omega) (by simp; omega)
  exact e3.trans (e2.trans (e1.trans (hg.block k hk hn)))

set_option maxRecDepth 10000 in
set_option maxHeartbeats 800000 in
theorem readRequest_any (lim p : Nat) (s : RS) (w : World) (hR : RdS lim w p s) :
    Calls Tryz.prog 137 #[.pointer (some ⟨p, 0, none⟩)] w fun e w' => ∃ vo vc, e = .returned (.agg #[.int .u64 ((rqV s).1 : Int), .int .u64 ((rqV s).2.1 : Int), .slice vo (rqV s).2.2.length vc]) ∧ Hid (Owns (w.heap.size + 1) w' (.slice vo (rqV s).2.2.length vc) (rqV s).2.2 ∧ RdS lim w' p (rqS3 s) ∧ w.grownBy w' (some p)) := by
  have hp := hR.plt
  have hA := World.grownBy_alloc w (.cells #[.int .u64 0, .int .u64 0, .slice none 0 0] 100)
  have H1 : Hid (Calls Tryz.prog 130 #[.pointer (some ⟨p, 0, none⟩), .int .u64 256, .int .u64 18446744073709551615] (w.alloc (.cells #[.int .u64 0, .int .u64 0, .slice none 0 0] 100)) fun e w1 => e = .returned (.int .u64 ((rqV s).1 : Int)) ∧ Hid (RdS lim w1 p (rqS1 s) ∧ (w.alloc (.cells #[.int .u64 0, .int .u64 0, .slice none 0 0] 100)).grownBy w1 (some p))) := readBound_any lim p s 256 18446744073709551615 _ (hR.quiet (hA none))
  have H2 : Hid (∀ w1, RdS lim w1 p (rqS1 s) → Calls Tryz.prog 133 #[.pointer (some ⟨p, 0, none⟩)] w1 fun e w2 => e = .returned (.int .u64 ((rqV s).2.1 : Int)) ∧ Hid (RdS lim w2 p (rqS2 s) ∧ w1.grownBy w2 (some p))) := fun w1 h => (rNum_any lim p (rqS1 s) w1 h).mono (fun _ _ h => ⟨h.1, h.2⟩)
  have H3 : Hid (∀ w2, RdS lim w2 p (rqS2 s) → Calls Tryz.prog 129 #[.pointer (some ⟨p, 0, none⟩), .int .i64 700] w2 fun e w3 => ∃ vo vc, e = .returned (.slice vo (rqV s).2.2.length vc) ∧ Hid (Owns w2.heap.size w3 (.slice vo (rqV s).2.2.length vc) (rqV s).2.2 ∧ RdS lim w3 p (rqS3 s) ∧ w2.grownBy w3 (some p))) := fun w2 h => by
    refine (rBlob_any lim p (rqS2 s) 700 w2 h (by omega) (by omega)).mono ?_
    rintro e w3 ⟨v, rfl, ho, _, hr, hg⟩
    obtain ⟨vo, vc, hv, _, _⟩ := ho.form
    subst hv
    exact ⟨vo, vc, rfl, ho, hr, hg⟩
  have HK : Hid (∀ w1 w2 w3, (w.alloc (.cells #[.int .u64 0, .int .u64 0, .slice none 0 0] 100)).grownBy w1 (some p) → w1.grownBy w2 (some p) → w2.grownBy w3 (some p) → w3.heap[w.heap.size]? = some (.cells #[.int .u64 0, .int .u64 0, .slice none 0 0] 100 (0, 0)) ∧ w.grownBy w3 (some p) ∧ w.heap.size + 1 ≤ w2.heap.size) := by
    intro w1 w2 w3 g1 g2 g3
    have g13 := grown_trans (row := some p) (grown_trans (row := some p) g1 g2) g3
    have hs : (w.alloc (.cells #[.int .u64 0, .int .u64 0, .slice none 0 0] 100)).heap.size = w.heap.size + 1 := by simp
    refine ⟨(g13.block _ (by rw [hs]; omega) (by simp; omega)).trans (alloc_at _ _), grown_trans (row := some p) (hA (some p)) g13, ?_⟩
    have := g1.size; have := g2.size; omega
  clear hR hA
  generalize (rqV s).2.2.length = m at *
  go_enter Tryz.func137, Tryz.ntmps137
  go_wp2_with fail
  refine H1.out.mono ?_
  rintro e w1 ⟨rfl, G1⟩
  go_wp2_with fail
  refine (H2.out w1 G1.out.1).mono ?_
  rintro e w2 ⟨rfl, G2⟩
  go_wp2_with fail
  refine (H3.out w2 G2.out.1).mono ?_
  rintro e w3 ⟨vo, vc, rfl, G3⟩
  obtain ⟨hb, hg, hs⟩ := HK.out w1 w2 w3 G1.out.2 G2.out.2 G3.out.2.2
  have c0 := block_cell hb 0
  have c1 := block_cell hb 1
  have c2 := block_cell hb 2
  have f0 := block_free hb 0
  have f1 := block_free hb 1
  have f2 := block_free hb 2
  simp at c0 c1 c2
  have HG := hide hg
  have HS := hide hs
  clear hb hg hs
  go_wp2
  refine bodyPost_ret (v := .agg #[.int .u64 ((rqV s).1 : Int), .int .u64 ((rqV s).2.1 : Int), .slice vo m vc]) (by simp [results, Tryz.results137, go_sem, c0, c1, c2]) rfl ⟨vo, vc, rfl, ?_⟩
  exact fin_req hp (G3.out.1.lower HS.out) G3.out.2.1 HG.out _ _ _
end Go.Proofs.YtldhafpeigdloaaGreatDoor
namespace Go.Proofs.YtldhafpeigdloaaGreatDoor
open Go.RowKit Crc

/-- Requests that are read, one behind the other. -/
def rdGo : Nat → RS → List (Nat × Nat × List Nat) × RS
  | 0, s => ([], s)
  | n + 1, s => (rqV s :: (rdGo n (rqS3 s)).1, (rdGo n (rqS3 s)).2)
def bS1 (s : RS) : RS := rdBound s 0 1099511627776
def bN (s : RS) : Nat := (countAt (bS1 s).rest 8).1
def bS2 (s : RS) : RS := (bS1 s).step (countAt (bS1 s).rest 8).2.1 (countAt (bS1 s).rest 8).2.2
def bVals (s : RS) : List (Nat × Nat × List Nat) := (rdGo (bN s) (bS2 s)).1
def bEnd (s : RS) : RS := (rdGo (bN s) (bS2 s)).2

def Rq.sl (r : Rq) : Value := .slice r.co r.cn r.cc
/-- Commands in lists of their own, apart from one another. -/
structure FreeRs (base : Nat) (w : World) (rs : List Rq) : Prop where
  own : ∀ r ∈ rs, Owns base w r.sl r.C
  apart : rs.Pairwise fun a b => a.sl.ownBlock = none ∨ a.sl.ownBlock ≠ b.sl.ownBlock
theorem FreeRs.next {base : Nat} {w w' : World} {rs : List Rq} {row : Option Nat} (h : FreeRs base w rs) (hg : w.grownBy w' row) (hr : ∀ r ∈ rs, r.sl.ownBlock = none ∨ r.sl.ownBlock ≠ row) : FreeRs base w' rs := ⟨fun r hx => (h.own r hx).kept hg (hr r hx), h.apart⟩
theorem owns_ne_cells {base B : Nat} {w : World} {v : Value} {C : List Nat} {cs : Array Value} {t : TypeId} (h : Owns base w v C) (hb : w.heap[B]? = some (.cells cs t (0, 0))) (ht : t ≠ 5) : v.ownBlock ≠ some B := by
  intro e
  rcases h.1.2 with ⟨rfl, _⟩ | ⟨g, cap, cur, rfl, _, hg, _⟩
  · cases e
  · cases e
    rw [hg] at hb
    cases hb
    exact ht rfl
theorem owns_ne_row {base base' : Nat} {w : World} {v u : Value} {C : List Nat} {k : Nat} {xs : List Value} (h : Owns base w v C) (hr : w.ownsRow base' 100 3 u k xs) : v.ownBlock = none ∨ v.ownBlock ≠ u.ownBlock := by
  rcases h.1.2 with ⟨rfl, _⟩ | ⟨g, cap, cur, rfl, _, hg, _⟩
  · exact .inl rfl
  · refine .inr (fun e => ?_)
    rcases hr.2 with ⟨rfl, _⟩ | ⟨g', cap', cur', rfl, _, hg', _⟩
    · cases e
    · cases e
      rw [hg] at hg'
      cases hg'

/-- Between two rounds of the reading. -/
structure Rb (w : World) (lim p B stamp n : Nat) (s0 : RS) (k : Nat) (v : Value) (rs1 : List Rq) (s : RS) (wr : World) : Prop where
  gr : w.grownBy wr (some p)
  res : wr.heap[w.heap.size]? = some (.cells #[.int .u64 0, .slice none 0 0] 29 (0, 0))
  box : wr.heap[B]? = some (.cells #[.int .u64 (stamp : Int), v] 29 (0, 0))
  row : wr.ownsRow (B + 1) 100 3 v k (rcells rs1)
  len : rs1.length = k
  free : FreeRs (B + 1) wr rs1
  num : ∀ r ∈ rs1, r.num
  cn : ∀ r ∈ rs1, r.cn = r.C.length
  rd : RdS lim wr p s
  go : rdGo n s0 = (rs1.map Rq.val ++ (rdGo (n - k) s).1, (rdGo (n - k) s).2)

theorem grown_pos {a b : World} {p : Nat} (h : a.grownBy b (some p)) {k : Nat} (hk : k < a.heap.size) (hne : k ≠ p) : b.heap[k]? = a.heap[k]? := h.block k hk (by simpa using hne)

theorem Rb.next {w : World} {lim p B stamp n : Nat} {s0 : RS} {k : Nat} {v v' : Value} {rs1 : List Rq} {s : RS} {wr w1 w2 : World} {vo : Option Addr} {vc : Nat} {o2 : Obj}
    (hp : p < w.heap.size) (hB : w.heap.size < B) (h : Rb w lim p B stamp n s0 k v rs1 s wr) (hkn : k < n)
    (ho : Owns (wr.heap.size + 1) w1 (.slice vo (rqV s).2.2.length vc) (rqV s).2.2) (hR : RdS lim w1 p (rqS3 s)) (hg : wr.grownBy w1 (some p)) (hn : (rqV s).1 < 18446744073709551616 ∧ (rqV s).2.1 < 18446744073709551616)
    (hr : w2.ownsRow (B + 1) 100 3 v' (k + 1) (rcells (rs1 ++ [⟨(rqV s).1, (rqV s).2.1, vo, (rqV s).2.2.length, vc, (rqV s).2.2⟩]))) (hg2 : (w1.alloc o2).grownBy w2 v.ownBlock) :
    Rb w lim p B stamp n s0 (k + 1) v' (rs1 ++ [⟨(rqV s).1, (rqV s).2.1, vo, (rqV s).2.2.length, vc, (rqV s).2.2⟩]) (rqS3 s) (w2.setCell ⟨B, 1, none⟩ v') ∧ w2.cell? ⟨B, 1, none⟩ = some v ∧ w2.frozen? ⟨B, 1, none⟩ = false := by
  have hs0 := h.gr.size
  have hBl := block_lt h.box
  have hgA := World.grownBy_alloc w1 o2 none
  have hwp : ∀ u, v.ownBlock = some u → u ≠ p := fun u e => by have := (h.row.lt u e).1; omega
  have row1 : w1.ownsRow (B + 1) 100 3 v k (rcells rs1) := h.row.kept hg (.inr (fun e => hwp p e rfl))
  have rowA := row_quiet row1 hgA
  have box1 : w1.heap[B]? = _ := (grown_pos hg hBl (by omega)).trans h.box
  have boxA : (w1.alloc o2).heap[B]? = _ := (hgA.block _ (block_lt box1) (by simp)).trans box1
  have hrc := row_ne_box rowA boxA
  have box2 : w2.heap[B]? = _ := (hg2.block _ (block_lt boxA) (fun e => hrc e.symm)).trans boxA
  have res1 : w1.heap[w.heap.size]? = _ := (grown_pos hg (block_lt h.res) (by omega)).trans h.res
  have resA : (w1.alloc o2).heap[w.heap.size]? = _ := (hgA.block _ (block_lt res1) (by simp)).trans res1
  have hrr := row_ne_box rowA resA
  have res2 : w2.heap[w.heap.size]? = _ := (hg2.block _ (block_lt resA) (fun e => hrr e.symm)).trans resA
  have f1 : FreeRs (B + 1) w1 rs1 := h.free.next hg (fun r hx => .inr (fun e => by have := ((h.free.own r hx).1.lt p e).1; omega))
  have f1' : FreeRs (B + 1) w1 (rs1 ++ [⟨(rqV s).1, (rqV s).2.1, vo, (rqV s).2.2.length, vc, (rqV s).2.2⟩]) := by
    refine ⟨fun r hx => ?_, ?_⟩
    · rcases List.mem_append.1 hx with hx | hx
      · exact f1.own r hx
      · simp at hx; subst hx; exact ho.lower (by omega)
    · rw [List.pairwise_append]
      refine ⟨h.free.apart, by simp, fun a ha b hb => ?_⟩
      simp at hb
      subst hb
      cases e : a.sl.ownBlock with
      | none => exact .inl rfl
      | some g =>
        refine .inr (fun e2 => ?_)
        have h1 := ((h.free.own a ha).1.lt g e).2
        have h2 := (ho.1.lt g e2.symm).1
        omega
  have fA := f1'.next hgA (fun r hx => by
    cases r.sl.ownBlock with
    | none => exact .inl rfl
    | some g => exact .inr (by simp))
  have f2 := fA.next hg2 (fun r hx => owns_ne_row (fA.own r hx) rowA)
  have f3 := f2.next (grown_set w2 B 1 v') (fun r hx => .inr (owns_ne_cells (f2.own r hx) box2 (by decide)))
  have hrd : RdS lim (w2.setCell ⟨B, 1, none⟩ v') p (rqS3 s) := by
    have hl := hR.limp
    refine (((hR.quiet hgA).kept hg2 (fun g e => ?_)).kept (grown_set w2 B 1 v') (fun g e => ?_))
    · have := (rowA.lt g e).1; exact ⟨by omega, by omega⟩
    · cases e; exact ⟨by omega, by omega⟩
  have g3 : w.grownBy (w2.setCell ⟨B, 1, none⟩ v') (some p) := by
    have ga := grown_trans (row := some p) h.gr hg
    have hsz := ga.size
    refine ⟨hg2.os.trans ga.os, hg2.tape.trans ga.tape, hg2.output.trans ga.output, by have := hg2.size; simp at this ⊢; omega, fun q hq hne => ?_⟩
    have e1 := ga.block q hq hne
    have e2 := hgA.block q (by omega) (by simp)
    have e3 := hg2.block q (by simp; omega) (fun e => by have := (rowA.lt q e.symm).1; omega)
    have e4 := (grown_set w2 B 1 v').block q (by have := hg2.size; simp at this; omega) (by simp; omega)
    exact e4.trans (e3.trans (e2.trans e1))
  refine ⟨⟨g3, ?_, ?_, hr.kept (grown_set _ _ _ _) (.inr (row_ne_box hr box2)), by simp [h.len], f3, ?_, ?_, hrd, ?_⟩, block_cell box2 1, block_free box2 1⟩
  · exact ((grown_set w2 B 1 v').block _ (block_lt res2) (by simp; omega)).trans res2
  · rw [heap_setCell_same w2 B 1 _ _ v' box2]; rfl
  · intro r hx
    rcases List.mem_append.1 hx with hx | hx
    · exact h.num r hx
    · simp at hx; subst hx; exact ⟨hn.1, hn.2, ho.2.1, ho.2.2⟩
  · intro r hx
    rcases List.mem_append.1 hx with hx | hx
    · exact h.cn r hx
    · simp at hx; subst hx; rfl
  · rw [h.go, show n - k = (n - (k + 1)) + 1 by omega, rdGo]
    simp [Rq.val]
end Go.Proofs.YtldhafpeigdloaaGreatDoor
