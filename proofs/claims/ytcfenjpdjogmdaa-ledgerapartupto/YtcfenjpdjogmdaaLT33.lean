import Derived.Test.YtcfenjpdjogmdaaLT32
import Derived.Deep.DeepCutAuto
namespace Go.Proofs.Ytcfenjpdjogmdaa
open Go.RowKit

/-- Holds as they lie. -/
structure Hos (W : World) (b off : Nat) (l : List Ho) : Prop where
  ok : ∀ x ∈ l, x.In
  at_ : ∀ (i : Nat) (x : Ho), l[i]? = some x → W.cell? ⟨b, off + i * 3, none⟩ = some (.int .u64 (x.id : Nat)) ∧ W.cell? ⟨b, off + i * 3 + 1, none⟩ = some (.int .u64 (x.fr : Nat)) ∧ W.cell? ⟨b, off + i * 3 + 2, none⟩ = some (.int .u64 (x.am : Nat))
/-- Lines as they lie. -/
structure Jns (W : World) (b off : Nat) (l : List Jn) : Prop where
  ok : ∀ x ∈ l, x.In
  at_ : ∀ (i : Nat) (x : Jn), l[i]? = some x → W.cell? ⟨b, off + i * 5, none⟩ = some (.int .u64 (x.sq : Nat)) ∧ W.cell? ⟨b, off + i * 5 + 1, none⟩ = some (.int .i64 (x.kd : Nat)) ∧ W.cell? ⟨b, off + i * 5 + 2, none⟩ = some (.int .u64 (x.fr : Nat)) ∧ W.cell? ⟨b, off + i * 5 + 3, none⟩ = some (.int .u64 (x.tw : Nat)) ∧ W.cell? ⟨b, off + i * 5 + 4, none⟩ = some (.int .u64 (x.am : Nat))
theorem cell_same {W W' : World} {b : Nat} (h : W'.heap[b]? = W.heap[b]?) (i : Nat) : W'.cell? ⟨b, i, none⟩ = W.cell? ⟨b, i, none⟩ := by simp [World.cell?, h]
theorem Acs.same {W W' : World} {b off : Nat} {l : List Ac} (h : Acs W b off l) (hb : W'.heap[b]? = W.heap[b]?) : Acs W' b off l := ⟨h.ok, fun i x hi j v hj => (cell_same hb _).trans (h.at_ i x hi j v hj)⟩
theorem Hos.same {W W' : World} {b off : Nat} {l : List Ho} (h : Hos W b off l) (hb : W'.heap[b]? = W.heap[b]?) : Hos W' b off l := ⟨h.ok, fun i x hi => by
  obtain ⟨c0, c1, c2⟩ := h.at_ i x hi
  exact ⟨(cell_same hb _).trans c0, (cell_same hb _).trans c1, (cell_same hb _).trans c2⟩⟩
theorem Jns.same {W W' : World} {b off : Nat} {l : List Jn} (h : Jns W b off l) (hb : W'.heap[b]? = W.heap[b]?) : Jns W' b off l := ⟨h.ok, fun i x hi => by
  obtain ⟨c0, c1, c2, c3, c4⟩ := h.at_ i x hi
  exact ⟨(cell_same hb _).trans c0, (cell_same hb _).trans c1, (cell_same hb _).trans c2, (cell_same hb _).trans c3, (cell_same hb _).trans c4⟩⟩
theorem hcells_at : ∀ {l : List Ho} {i : Nat} {a : Ho}, l[i]? = some a → ∀ (j : Nat) (v : Value), a.vals[j]? = some v → (hcells l)[i * 3 + j]? = some v
  | [], i, a, h => by simp at h
  | x :: l, 0, a, h => by
    simp at h
    subst h
    intro j v hj
    have hl := (List.getElem?_eq_some_iff.1 hj).1
    show (x.vals ++ hcells l)[0 * 3 + j]? = some v
    rw [Nat.zero_mul, Nat.zero_add, List.getElem?_append_left hl]
    exact hj
  | x :: l, i + 1, a, h => by
    intro j v hj
    have ih := hcells_at (l := l) (i := i) (by simpa using h) j v hj
    show (x.vals ++ hcells l)[(i + 1) * 3 + j]? = some v
    rw [List.getElem?_append_right (by show 3 ≤ _; omega)]
    show (hcells l)[(i + 1) * 3 + j - 3]? = some v
    rw [show (i + 1) * 3 + j - 3 = i * 3 + j by omega]
    exact ih
theorem jcells_at : ∀ {l : List Jn} {i : Nat} {a : Jn}, l[i]? = some a → ∀ (j : Nat) (v : Value), a.vals[j]? = some v → (jcells l)[i * 5 + j]? = some v
  | [], i, a, h => by simp at h
  | x :: l, 0, a, h => by
    simp at h
    subst h
    intro j v hj
    have hl := (List.getElem?_eq_some_iff.1 hj).1
    show (x.vals ++ jcells l)[0 * 5 + j]? = some v
    rw [Nat.zero_mul, Nat.zero_add, List.getElem?_append_left hl]
    exact hj
  | x :: l, i + 1, a, h => by
    intro j v hj
    have ih := jcells_at (l := l) (i := i) (by simpa using h) j v hj
    show (x.vals ++ jcells l)[(i + 1) * 5 + j]? = some v
    rw [List.getElem?_append_right (by show 5 ≤ _; omega)]
    show (jcells l)[(i + 1) * 5 + j - 5]? = some v
    rw [show (i + 1) * 5 + j - 5 = i * 5 + j by omega]
    exact ih
theorem hos_of_row {W : World} {base g n cap : Nat} {l : List Ho} {m : Nat} (ho : W.ownsRow base 83 3 (.slice (some ⟨g, 0, none⟩) n cap) m (hcells l)) (hin : ∀ x ∈ l, x.In) : Hos W g 0 l := by
  refine ⟨hin, fun i x hi => ?_⟩
  have c0 := ho.cells (g := g) rfl (i * 3 + 0) _ (hcells_at hi 0 _ rfl)
  have c1 := ho.cells (g := g) rfl (i * 3 + 1) _ (hcells_at hi 1 _ rfl)
  have c2 := ho.cells (g := g) rfl (i * 3 + 2) _ (hcells_at hi 2 _ rfl)
  rw [add_at, Nat.zero_add] at c0 c1 c2
  rw [Nat.zero_add]
  exact ⟨c0, c1, c2⟩
theorem jns_of_row {W : World} {base g n cap : Nat} {l : List Jn} {m : Nat} (ho : W.ownsRow base 68 5 (.slice (some ⟨g, 0, none⟩) n cap) m (jcells l)) (hin : ∀ x ∈ l, x.In) : Jns W g 0 l := by
  refine ⟨hin, fun i x hi => ?_⟩
  have c0 := ho.cells (g := g) rfl (i * 5 + 0) _ (jcells_at hi 0 _ rfl)
  have c1 := ho.cells (g := g) rfl (i * 5 + 1) _ (jcells_at hi 1 _ rfl)
  have c2 := ho.cells (g := g) rfl (i * 5 + 2) _ (jcells_at hi 2 _ rfl)
  have c3 := ho.cells (g := g) rfl (i * 5 + 3) _ (jcells_at hi 3 _ rfl)
  have c4 := ho.cells (g := g) rfl (i * 5 + 4) _ (jcells_at hi 4 _ rfl)
  rw [add_at, Nat.zero_add] at c0 c1 c2 c3 c4
  rw [Nat.zero_add]
  exact ⟨c0, c1, c2, c3, c4⟩
/-- An image's accounts and holds, as they lie: blocks ga and gh. -/
structure Im (W : World) (A : List Ac) (H : List Ho) (ao ho : Option Addr) (ga gh : Nat) : Prop where
  ao : 0 < A.length → ao = some ⟨ga, 0, none⟩ ∧ ga < W.heap.size
  ho : 0 < H.length → ho = some ⟨gh, 0, none⟩ ∧ gh < W.heap.size
  a : Acs W ga 0 A
  h : Hos W gh 0 H
theorem Im.kept {W W' : World} {A : List Ac} {H : List Ho} {ao ho : Option Addr} {ga gh : Nat} (h : Im W A H ao ho ga gh) (hs : W.heap.size ≤ W'.heap.size) (h1 : 0 < A.length → W'.heap[ga]? = W.heap[ga]?) (h2 : 0 < H.length → W'.heap[gh]? = W.heap[gh]?) : Im W' A H ao ho ga gh := by
  refine ⟨fun hp => ⟨(h.ao hp).1, Nat.lt_of_lt_of_le (h.ao hp).2 hs⟩, fun hp => ⟨(h.ho hp).1, Nat.lt_of_lt_of_le (h.ho hp).2 hs⟩, ?_, ?_⟩
  · by_cases e : 0 < A.length
    · exact h.a.same (h1 e)
    · exact ⟨h.a.ok, fun i x hi => by have := (List.getElem?_eq_some_iff.1 hi).1; omega⟩
  · by_cases e : 0 < H.length
    · exact h.h.same (h2 e)
    · exact ⟨h.h.ok, fun i x hi => by have := (List.getElem?_eq_some_iff.1 hi).1; omega⟩
theorem Im.below {W W' : World} {A : List Ac} {H : List Ho} {ao ho : Option Addr} {ga gh : Nat} (h : Im W A H ao ho ga gh) (hb : Below W.heap.size W W') : Im W' A H ao ho ga gh := h.kept hb.size (fun hp => hb.block _ (h.ao hp).2) (fun hp => hb.block _ (h.ho hp).2)
theorem slice_inj {a a' : Option Addr} {n n' c c' : Nat} (h : Value.slice a n c = .slice a' n' c') : a = a' ∧ n = n' ∧ c = c' := by cases h; exact ⟨rfl, rfl, rfl⟩
/-- Lists that are one's own are an image's. -/
theorem im_of_rows {W : World} {base base' : Nat} {A : List Ac} {H : List Ho} {ao ho : Option Addr} {cap hcap : Nat} (ra : W.ownsRow base 80 4 (.slice ao A.length cap) A.length (acells A)) (rh : W.ownsRow base' 83 3 (.slice ho H.length hcap) H.length (hcells H)) (ia : ∀ x ∈ A, x.In) (ih : ∀ x ∈ H, x.In) : ∃ ga gh, Im W A H ao ho ga gh ∧ (0 < A.length → base ≤ ga) ∧ (0 < H.length → base' ≤ gh) := by
  have ha : ∃ ga, (0 < A.length → ao = some ⟨ga, 0, none⟩ ∧ ga < W.heap.size ∧ base ≤ ga) ∧ Acs W ga 0 A := by
    rcases ra.2 with ⟨h1, h0⟩ | ⟨g, cp, cur, h1, _, hg, _⟩
    · exact ⟨0, fun h => by omega, ia, fun i x hi => by have := (List.getElem?_eq_some_iff.1 hi).1; omega⟩
    · obtain ⟨e, _, e3⟩ := slice_inj h1
      have := ra.lt g (by rw [h1]; rfl)
      rw [e] at ra
      exact ⟨g, fun _ => ⟨e, this.2, this.1⟩, acs_of_row ra ia⟩
  have hh : ∃ gh, (0 < H.length → ho = some ⟨gh, 0, none⟩ ∧ gh < W.heap.size ∧ base' ≤ gh) ∧ Hos W gh 0 H := by
    rcases rh.2 with ⟨h1, h0⟩ | ⟨g, cp, cur, h1, _, hg, _⟩
    · exact ⟨0, fun h => by omega, ih, fun i x hi => by have := (List.getElem?_eq_some_iff.1 hi).1; omega⟩
    · obtain ⟨e, _, e3⟩ := slice_inj h1
      have := rh.lt g (by rw [h1]; rfl)
      rw [e] at rh
      exact ⟨g, fun _ => ⟨e, this.2, this.1⟩, hos_of_row rh ih⟩
  obtain ⟨ga, h1, h2⟩ := ha
  obtain ⟨gh, h3, h4⟩ := hh
  exact ⟨ga, gh, ⟨fun hp => ⟨(h1 hp).1, (h1 hp).2.1⟩, fun hp => ⟨(h3 hp).1, (h3 hp).2.1⟩, h2, h4⟩, fun hp => (h1 hp).2.2, fun hp => (h3 hp).2.2⟩
abbrev z4 : Array Value := #[.int .u64 0, .int .u64 0, .int .u64 0, .int .u64 0]
end Go.Proofs.Ytcfenjpdjogmdaa
namespace Go.Proofs.Ytcfenjpdjogmdaa
open Go.RowKit

theorem set5b {w w0 : World} {tb B : Nat} {t : TypeId} {cs : Array Value} (hs : cs.size = 5) (h : w.heap[tb]? = some (.cells cs t (0, 0))) (hB : Below B w0 w) (hk : B ≤ tb) (v0 v1 v2 v3 v4 : Value) {wf : World} (he : ((((w.setCell ⟨tb, 0, none⟩ v0).setCell ⟨tb, 1, none⟩ v1).setCell ⟨tb, 2, none⟩ v2).setCell ⟨tb, 3, none⟩ v3).setCell ⟨tb, 4, none⟩ v4 = wf) :
    wf.heap[tb]? = some (.cells #[v0, v1, v2, v3, v4] t (0, 0)) ∧ Below B w0 wf ∧ w.grownBy wf (some tb) := by
  subst he
  have gr := grown_two (grown_two (grown_two (grown_two (grown_set w tb 0 v0) (grown_set _ tb 1 v1)) (grown_set _ tb 2 v2)) (grown_set _ tb 3 v3)) (grown_set _ tb 4 v4)
  refine ⟨?_, hB.grown (row := some tb) gr (by have := block_lt h; omega) (fun q e => by cases e; exact hk), gr⟩
  obtain ⟨l⟩ := cs
  simp only [List.size_toArray] at hs
  match l, hs with
  | [a, b, c, d, e], _ => simp [World.setCell, Array.getElem?_modify, h]
end Go.Proofs.Ytcfenjpdjogmdaa
namespace Go.Proofs.Ytcfenjpdjogmdaa
open Go.RowKit

/-- Rows of unlike types lie apart. -/
theorem rows2_ne {W : World} {B1 B2 e1 e2 k1 k2 n m : Nat} {v u : Value} {xs ys : List Value} (h : W.ownsRow B1 e1 k1 v n xs) (h' : W.ownsRow B2 e2 k2 u m ys) (hne : e1 ≠ e2) : u.ownBlock = none ∨ u.ownBlock ≠ v.ownBlock := by
  rcases h'.2 with ⟨rfl, _⟩ | ⟨g', c', cur', rfl, _, hg', _⟩
  · exact .inl rfl
  · refine .inr (fun e => ?_)
    rcases h.2 with ⟨rfl, _⟩ | ⟨g, c, cur, rfl, _, hg, _⟩
    · cases e
    · cases e
      rw [hg] at hg'
      cases hg'
      exact hne rfl
def Jn.arr (e : Jn) : Array Value := #[.int .u64 (e.sq : Nat), .int .i64 (e.kd : Nat), .int .u64 (e.fr : Nat), .int .u64 (e.tw : Nat), .int .u64 (e.am : Nat)]
/-- The world of fold: the boxes of the image, of the line, of the answer and of the new image, which has these accounts and holds. -/
structure Fo (w : World) (mc : Array Value) (e : Jn) (t0 t1 : Value) (out : List Ac) (v : Value) (hs : List Ho) (u : Value) (V : World) : Prop where
  bel : Below w.heap.size w V
  b0 : V.heap[w.heap.size]? = some (.cells mc 35 (0, 0))
  b1 : V.heap[w.heap.size + 1]? = some (.cells e.arr 68 (0, 0))
  b2 : V.heap[w.heap.size + 1 + 1]? = some (.cells #[.int .u64 0, .int .u64 0, .slice none 0 0, .slice none 0 0, .slice none 0 0] 35 (0, 0))
  b3 : V.heap[w.heap.size + 1 + 1 + 1]? = some (.cells #[t0, t1, v, u, .slice none 0 0] 35 (0, 0))
  ra : V.ownsRow (w.heap.size + 1 + 1 + 1 + 1) 80 4 v out.length (acells out)
  rh : V.ownsRow (w.heap.size + 1 + 1 + 1 + 1) 83 3 u hs.length (hcells hs)
section
variable {w : World} {mc : Array Value} {e : Jn} {t0 t1 : Value} {out : List Ac} {v : Value} {hs : List Ho} {u : Value} {V : World}
theorem Fo.alloc (h : Fo w mc e t0 t1 out v hs u V) (o : Obj) : Fo w mc e t0 t1 out v hs u (V.alloc o) := by
  have hg := World.grownBy_alloc V o none
  exact ⟨h.bel.alloc h.bel.size o, (hg.block _ (block_lt h.b0) (by simp)).trans h.b0, (hg.block _ (block_lt h.b1) (by simp)).trans h.b1, (hg.block _ (block_lt h.b2) (by simp)).trans h.b2, (hg.block _ (block_lt h.b3) (by simp)).trans h.b3, h.ra.alloc o, h.rh.alloc o⟩
/-- A box of one's own turns. -/
theorem Fo.box {V' : World} {q : Nat} (h : Fo w mc e t0 t1 out v hs u V) (hg : V.grownBy V' (some q)) (hq : w.heap.size + 1 + 1 + 1 < q) (h1 : v.ownBlock ≠ some q) (h2 : u.ownBlock ≠ some q) : Fo w mc e t0 t1 out v hs u V' := by
  have n : ∀ k, k ≤ w.heap.size + 1 + 1 + 1 → some k ≠ some q := fun k hk e => by cases e; omega
  exact ⟨h.bel.grown hg h.bel.size (fun j e => by cases e; omega), (hg.block _ (block_lt h.b0) (n _ (by omega))).trans h.b0, (hg.block _ (block_lt h.b1) (n _ (by omega))).trans h.b1, (hg.block _ (block_lt h.b2) (n _ (by omega))).trans h.b2, (hg.block _ (block_lt h.b3) (n _ (by omega))).trans h.b3, h.ra.kept hg (.inr h1), h.rh.kept hg (.inr h2)⟩
theorem Fo.new (h : Fo w mc e t0 t1 out v hs u V) : v.ownBlock ≠ some V.heap.size ∧ u.ownBlock ≠ some V.heap.size ∧ w.heap.size + 1 + 1 + 1 < V.heap.size := ⟨fun e => by have := (h.ra.lt _ e).2; omega, fun e => by have := (h.rh.lt _ e).2; omega, block_lt h.b3⟩
/-- The new image's list of accounts: one more. -/
theorem Fo.appA (h : Fo w mc e t0 t1 out v hs u V) (o : Obj) {x : Ac} {v' : Value} {w4 : World} (ho : w4.ownsRow (w.heap.size + 1 + 1 + 1 + 1) 80 4 v' (out.length + 1) (acells out ++ x.vals)) (hg : (V.alloc o).grownBy w4 v.ownBlock) : Fo w mc e t0 t1 (out ++ [x]) v' hs u (w4.setCell ⟨w.heap.size + 1 + 1 + 1, 2, none⟩ v') := by
  have ha := h.alloc o
  have ne : ∀ k cs t, (V.alloc o).heap[k]? = some (.cells cs t (0, 0)) → t ≠ 80 → some k ≠ v.ownBlock := fun k cs t hk ht e => rowT_ne ha.ra hk ht e.symm
  have c0 := (hg.block _ (block_lt ha.b0) (ne _ _ _ ha.b0 (by decide))).trans ha.b0
  have c1 := (hg.block _ (block_lt ha.b1) (ne _ _ _ ha.b1 (by decide))).trans ha.b1
  have c2 := (hg.block _ (block_lt ha.b2) (ne _ _ _ ha.b2 (by decide))).trans ha.b2
  have c3 := (hg.block _ (block_lt ha.b3) (ne _ _ _ ha.b3 (by decide))).trans ha.b3
  have hu := ha.rh.kept hg (rows2_ne ha.ra ha.rh (by decide))
  have gs := grown_set w4 (w.heap.size + 1 + 1 + 1) 2 v'
  have n : ∀ k, k < w.heap.size + 1 + 1 + 1 → some k ≠ some (w.heap.size + 1 + 1 + 1) := fun k hk e => by cases e; omega
  have e4 : acells (out ++ [x]) = acells out ++ x.vals := by rw [acells_app]; simp [acells]
  refine ⟨(ha.bel.grown hg ha.bel.size (fun j e => by have := (ha.ra.lt j e).1; omega)).grown gs (by have := hg.size; have := ha.bel.size; omega) (fun j e => by cases e; omega), (gs.block _ (block_lt c0) (n _ (by omega))).trans c0, (gs.block _ (block_lt c1) (n _ (by omega))).trans c1, (gs.block _ (block_lt c2) (n _ (by omega))).trans c2, heap_setCell_same w4 _ 2 _ _ _ c3, ?_, hu.kept gs (.inr (rowT_ne hu c3 (by decide)))⟩
  rw [e4, List.length_append]
  exact ho.kept gs (.inr (rowT_ne ho c3 (by decide)))
/-- The new image's list of holds: one more. -/
theorem Fo.appH (h : Fo w mc e t0 t1 out v hs u V) (o : Obj) {x : Ho} {u' : Value} {w4 : World} (ho : w4.ownsRow (w.heap.size + 1 + 1 + 1 + 1) 83 3 u' (hs.length + 1) (hcells hs ++ x.vals)) (hg : (V.alloc o).grownBy w4 u.ownBlock) : Fo w mc e t0 t1 out v (hs ++ [x]) u' (w4.setCell ⟨w.heap.size + 1 + 1 + 1, 3, none⟩ u') := by
  have ha := h.alloc o
  have ne : ∀ k cs t, (V.alloc o).heap[k]? = some (.cells cs t (0, 0)) → t ≠ 83 → some k ≠ u.ownBlock := fun k cs t hk ht e => rowT_ne ha.rh hk ht e.symm
  have c0 := (hg.block _ (block_lt ha.b0) (ne _ _ _ ha.b0 (by decide))).trans ha.b0
  have c1 := (hg.block _ (block_lt ha.b1) (ne _ _ _ ha.b1 (by decide))).trans ha.b1
  have c2 := (hg.block _ (block_lt ha.b2) (ne _ _ _ ha.b2 (by decide))).trans ha.b2
  have c3 := (hg.block _ (block_lt ha.b3) (ne _ _ _ ha.b3 (by decide))).trans ha.b3
  have hv := ha.ra.kept hg (rows2_ne ha.rh ha.ra (by decide))
  have gs := grown_set w4 (w.heap.size + 1 + 1 + 1) 3 u'
  have n : ∀ k, k < w.heap.size + 1 + 1 + 1 → some k ≠ some (w.heap.size + 1 + 1 + 1) := fun k hk e => by cases e; omega
  have e4 : hcells (hs ++ [x]) = hcells hs ++ x.vals := by rw [hcells_app]; simp [hcells]
  refine ⟨(ha.bel.grown hg ha.bel.size (fun j e => by have := (ha.rh.lt j e).1; omega)).grown gs (by have := hg.size; have := ha.bel.size; omega) (fun j e => by cases e; omega), (gs.block _ (block_lt c0) (n _ (by omega))).trans c0, (gs.block _ (block_lt c1) (n _ (by omega))).trans c1, (gs.block _ (block_lt c2) (n _ (by omega))).trans c2, heap_setCell_same w4 _ 3 _ _ _ c3, hv.kept gs (.inr (rowT_ne hv c3 (by decide))), ?_⟩
  rw [e4, List.length_append]
  exact ho.kept gs (.inr (rowT_ne ho c3 (by decide)))
end
/-- The answer's box is written. -/
theorem Fo.fin {w : World} {mc : Array Value} {e : Jn} {t0 t1 : Value} {out : List Ac} {v : Value} {hs : List Ho} {u : Value} {V : World} (h : Fo w mc e t0 t1 out v hs u V) : ∀ u0 u1 u2 u3 u4 : Value, Hid ((((((V.setCell ⟨w.heap.size + 1 + 1, 0, none⟩ u0).setCell ⟨w.heap.size + 1 + 1, 1, none⟩ u1).setCell ⟨w.heap.size + 1 + 1, 2, none⟩ u2).setCell ⟨w.heap.size + 1 + 1, 3, none⟩ u3).setCell ⟨w.heap.size + 1 + 1, 4, none⟩ u4).ownsRow w.heap.size 80 4 v out.length (acells out) ∧ (((((V.setCell ⟨w.heap.size + 1 + 1, 0, none⟩ u0).setCell ⟨w.heap.size + 1 + 1, 1, none⟩ u1).setCell ⟨w.heap.size + 1 + 1, 2, none⟩ u2).setCell ⟨w.heap.size + 1 + 1, 3, none⟩ u3).setCell ⟨w.heap.size + 1 + 1, 4, none⟩ u4).ownsRow w.heap.size 83 3 u hs.length (hcells hs) ∧ Below w.heap.size w (((((V.setCell ⟨w.heap.size + 1 + 1, 0, none⟩ u0).setCell ⟨w.heap.size + 1 + 1, 1, none⟩ u1).setCell ⟨w.heap.size + 1 + 1, 2, none⟩ u2).setCell ⟨w.heap.size + 1 + 1, 3, none⟩ u3).setCell ⟨w.heap.size + 1 + 1, 4, none⟩ u4)) := fun u0 u1 u2 u3 u4 => by
  have hg := set5_g V (w.heap.size + 1 + 1) u0 u1 u2 u3 u4
  unfold set5 at hg
  exact ⟨row_lower (h.ra.kept hg (.inr (rowT_ne h.ra h.b2 (by decide)))) (by omega), row_lower (h.rh.kept hg (.inr (rowT_ne h.rh h.b2 (by decide)))) (by omega), h.bel.grown hg h.bel.size (fun j e => by cases e; omega)⟩
theorem own_form2 {w : World} {base n s : Nat} {t : TypeId} {v : Value} {xs : List Value} (h : w.ownsRow base t s v n xs) : ∃ ao cap, v = .slice ao n cap := by
  rcases h.2 with ⟨e3, e0⟩ | ⟨g3, cap, cur, e3, _⟩
  · exact ⟨none, 0, by rw [e3, e0]⟩
  · exact ⟨_, cap, e3⟩
end Go.Proofs.Ytcfenjpdjogmdaa
namespace Go.Proofs.Ytcfenjpdjogmdaa
open Go.RowKit

end Go.Proofs.Ytcfenjpdjogmdaa
namespace Go.Proofs.Ytcfenjpdjogmdaa
open Go.RowKit

/-- A change that can be taken back. -/
inductive Bk where
  | A (x : Nat) (old : Option Ac)
  | H (x : Nat) (old : Option Ho)
  | J (k sq : Nat) (old : Jn)
/-- A closure that takes it back. -/
def Bk.Ok (W : World) (p a b : Nat) : Bk → Value → Prop
  | .A x old, v => x < 18446744073709551616 ∧ BackA W a x old v
  | .H x old, v => x < 18446744073709551616 ∧ BackH W b x old v
  | .J k sq old, v => k < 64 ∧ BackJ W p k sq old v
theorem Bk.Ok.one {W : World} {p a b : Nat} {d : Bk} {v : Value} (h : d.Ok W p a b v) : v.oneCell' = true := by
  cases d with
  | A x old => obtain ⟨f, ca, rfl⟩ := h.2.func; rfl
  | H x old => obtain ⟨f, ca, rfl⟩ := h.2.func; rfl
  | J k sq old => obtain ⟨_, _, _, _, _, _, _, _, rfl⟩ := h.2; rfl
/-- A ledger as maps. -/
structure MS where
  (tot acn : Nat)
  acf : Nat → Option Ac
  hon : Nat
  hof : Nat → Option Ho
  nx : Nat
  rg : Nat → Jn
def LS.ms (S : LS) : MS := ⟨S.tot, S.acc.length, byK Ac.id S.acc, S.hol.length, byK Ho.id S.hol, S.nx, S.rg⟩
def updO {α : Type} (f : Nat → Option α) (x : Nat) (o : Option α) : Nat → Option α := fun y => if y = x then o else f y
def cntO {α : Type} (n : Nat) (was new : Option α) : Nat := n + (if new.isSome = true then 1 else 0) - (if was.isSome = true then 1 else 0)
def Bk.undo (M : MS) : Bk → MS
  | .A x old => { M with acn := cntO M.acn (M.acf x) old, acf := updO M.acf x old }
  | .H x old => { M with hon := cntO M.hon (M.hof x) old, hof := updO M.hof x old }
  | .J k sq old => { M with nx := sq, rg := fun i => if i = k then old else M.rg i }
/-- All taken back, the last one first. -/
def undoAll (ds : List Bk) (M : MS) : MS := ds.foldr (fun d M => d.undo M) M
theorem undoAll_app (ds es : List Bk) (M : MS) : undoAll (ds ++ es) M = undoAll ds (undoAll es M) := by unfold undoAll; rw [List.foldr_append]
/-- The marks and changes of a ledger. -/
structure SZ where
  (mv cv : Value)
  ms : List Nat
  cs : List Bk
/-- What is no ledger's own stays: by the kinds of blocks. -/
structure Fl (W W' : World) : Prop where
  size : W.heap.size ≤ W'.heap.size
  at_ : ∀ (k : Nat) (cs : Array Value) (t : TypeId), W.heap[k]? = some (.cells cs t (0, 0)) → t ≠ 77 → t ≠ 3 → t ≠ 122 → W'.heap[k]? = some (.cells cs t (0, 0))
theorem Fl.refl (W : World) : Fl W W := ⟨Nat.le_refl _, fun _ _ _ h _ _ _ => h⟩
theorem Fl.trans {W W1 W2 : World} (h : Fl W W1) (h' : Fl W1 W2) : Fl W W2 := ⟨Nat.le_trans h.size h'.size, fun k cs t hk h1 h2 h3 => h'.at_ k cs t (h.at_ k cs t hk h1 h2 h3) h1 h2 h3⟩
theorem Fl.grown {W W' : World} {row : Option Nat} (hg : W.grownBy W' row) (hr : ∀ q, row = some q → ∀ cs t, W.heap[q]? = some (.cells cs t (0, 0)) → t = 77 ∨ t = 3 ∨ t = 122) : Fl W W' := by
  refine ⟨hg.size, fun k cs t hk h1 h2 h3 => ?_⟩
  rw [hg.block k (block_lt hk) (fun e => ?_)]
  · exact hk
  · rcases hr k e.symm cs t hk with e | e | e
    · exact h1 e
    · exact h2 e
    · exact h3 e
theorem Fl.below {W W' : World} (hb : Below W.heap.size W W') : Fl W W' := Fl.grown (below_none hb) (fun q e => by cases e)
theorem Bk.Ok.fl {W W' : World} {p a b : Nat} {d : Bk} {v : Value} (h : d.Ok W p a b v) (hf : Fl W W') : d.Ok W' p a b v := by
  cases d with
  | A x old =>
    obtain ⟨h0, q0, q1, h1, h2, ⟨y, q, h3, h4, h5⟩ | ⟨h3, h4⟩⟩ := h
    · exact ⟨h0, q0, q1, hf.at_ _ _ _ h1 (by decide) (by decide) (by decide), hf.at_ _ _ _ h2 (by decide) (by decide) (by decide), .inl ⟨y, q, h3, hf.at_ _ _ _ h4 (by decide) (by decide) (by decide), h5⟩⟩
    · exact ⟨h0, q0, q1, hf.at_ _ _ _ h1 (by decide) (by decide) (by decide), hf.at_ _ _ _ h2 (by decide) (by decide) (by decide), .inr ⟨h3, h4⟩⟩
  | H x old =>
    obtain ⟨h0, q0, q1, h1, h2, ⟨y, q, h3, h4, h5⟩ | ⟨h3, h4⟩⟩ := h
    · exact ⟨h0, q0, q1, hf.at_ _ _ _ h1 (by decide) (by decide) (by decide), hf.at_ _ _ _ h2 (by decide) (by decide) (by decide), .inl ⟨y, q, h3, hf.at_ _ _ _ h4 (by decide) (by decide) (by decide), h5⟩⟩
    · exact ⟨h0, q0, q1, hf.at_ _ _ _ h1 (by decide) (by decide) (by decide), hf.at_ _ _ _ h2 (by decide) (by decide) (by decide), .inr ⟨h3, h4⟩⟩
  | J k sq old =>
    obtain ⟨h0, q13, q11, q12, q5, h1, h2, h3, h4, h5⟩ := h
    exact ⟨h0, q13, q11, q12, q5, hf.at_ _ _ _ h1 (by decide) (by decide) (by decide), hf.at_ _ _ _ h2 (by decide) (by decide) (by decide), hf.at_ _ _ _ h3 (by decide) (by decide) (by decide), hf.at_ _ _ _ h4 (by decide) (by decide) (by decide), h5⟩
/-- A ledger as it lies, with its marks and changes; all of it at B or above. -/
structure LM (W : World) (B p a b : Nat) (Z : SZ) (S : LS) : Prop where
  lg : LG W p a b Z.mv Z.cv S
  mr : W.ownsRow B 3 1 Z.mv Z.ms.length (Z.ms.map (fun m => .int .i64 (m : Nat)))
  cr : ∃ xs, W.ownsRow B 122 1 Z.cv Z.cs.length xs ∧ ∀ (i : Nat) (d : Bk) (v : Value), Z.cs[i]? = some d → xs[i]? = some v → d.Ok W p a b v
  lo : B ≤ p ∧ B ≤ a ∧ B ≤ b
/-- The blocks of its rows are none of the ledger's others. -/
theorem LM.rows {W : World} {B p a b : Nat} {Z : SZ} {S : LS} (h : LM W B p a b Z S) : (∀ q, q = p ∨ q = a ∨ q = b → Z.mv.ownBlock ≠ some q ∧ Z.cv.ownBlock ≠ some q) ∧ (Z.cv.ownBlock = none ∨ Z.cv.ownBlock ≠ Z.mv.ownBlock) := by
  obtain ⟨xs, hc, _⟩ := h.cr
  refine ⟨fun q hq => ?_, rows2_ne h.mr hc (by decide)⟩
  obtain ⟨cs, h1, _⟩ := h.lg.blk
  obtain ⟨es, k, h2⟩ := h.lg.acc.obj
  obtain ⟨es', k', h3⟩ := h.lg.hol.obj
  have key : ∀ {t : TypeId} {n : Nat} {v : Value} {ys : List Value}, W.ownsRow B t 1 v n ys → t ≠ 77 → v.ownBlock ≠ some q := fun {t n v ys} hr ht e => by
    rcases hr.2 with ⟨rfl, _⟩ | ⟨g, cp, cur, rfl, _, hg, _⟩
    · cases e
    · cases e
      rcases hq with rfl | rfl | rfl
      · rw [h1] at hg; cases hg; exact ht rfl
      · rw [h2] at hg; cases hg
      · rw [h3] at hg; cases hg
  exact ⟨key h.mr (by decide), key hc (by decide)⟩
/-- Something turns that is none of its rows. -/
theorem LM.step {W W' : World} {B p a b : Nat} {Z : SZ} {S S' : LS} (h : LM W B p a b Z S) {row : Option Nat} (hg : W.grownBy W' row) (h1 : Z.mv.ownBlock = none ∨ Z.mv.ownBlock ≠ row) (h2 : Z.cv.ownBlock = none ∨ Z.cv.ownBlock ≠ row) (hf : Fl W W') (hL : LG W' p a b Z.mv Z.cv S') : LM W' B p a b Z S' := by
  obtain ⟨xs, hc, hd⟩ := h.cr
  have key : ∀ {t : TypeId} {n : Nat} {v : Value} {ys : List Value}, W.ownsRow B t 1 v n ys → (v.ownBlock = none ∨ v.ownBlock ≠ row) → W'.ownsRow B t 1 v n ys := fun {t n v ys} hr hn => by
    refine ⟨hr.1, ?_⟩
    rcases hr.2 with hr | ⟨g, cp, cur, rfl, q1, q2, q3⟩
    · exact .inl hr
    · refine .inr ⟨g, cp, cur, rfl, q1, (hg.block _ (block_lt q2) (fun e => ?_)).trans q2, q3⟩
      rcases hn with hn | hn
      · cases hn
      · exact hn e
  exact ⟨hL, key h.mr h1, ⟨xs, key hc h2, fun i d v hi hv => (hd i d v hi hv).fl hf⟩, h.lo⟩
theorem LM.kept {W W' : World} {B p a b : Nat} {Z : SZ} {S : LS} (h : LM W B p a b Z S) (hb : Below W.heap.size W W') : LM W' B p a b Z S :=
  h.step (below_none hb) (by cases e : Z.mv.ownBlock <;> simp) (by cases e : Z.cv.ownBlock <;> simp) (Fl.below hb) (h.lg.kept hb)
/-- While a call is going on: from world w0, where the ledger was S0, to world w, where it is S; ex: what is done and not yet noted. -/
structure RunX (B p a b : Nat) (w0 : World) (Z0 : SZ) (S0 : LS) (n : Nat) (ex : List Bk) (w : World) (S : LS) : Prop where
  z : ∃ Z ds, LM w B p a b Z S ∧ Z.mv = Z0.mv ∧ Z.ms = Z0.ms ∧ Z.cs = (if Z0.ms = [] then Z0.cs else Z0.cs ++ ds) ∧ ds.length ≤ n ∧ undoAll (ds ++ ex) S.ms = S0.ms ∧ (∀ k, Z.cv.ownBlock = some k → Z0.cv.ownBlock = some k ∨ w0.heap.size ≤ k)
  os : w.os = w0.os
  tape : w.tape = w0.tape
  output : w.output = w0.output
  size : w0.heap.size ≤ w.heap.size
  block : ∀ k, k < w0.heap.size → k ≠ p → k ≠ a → k ≠ b → Z0.mv.ownBlock ≠ some k → Z0.cv.ownBlock ≠ some k → w.heap[k]? = w0.heap[k]?
  fl : Fl w0 w
  z0 : Z0.cs.length ≤ 100000000000
abbrev Run (B p a b : Nat) (w0 : World) (Z0 : SZ) (S0 : LS) (n : Nat) (w : World) (S : LS) : Prop := RunX B p a b w0 Z0 S0 n [] w S
section
variable {B p a b : Nat} {w0 : World} {Z0 : SZ} {S0 : LS} {n m : Nat} {ex ex' : List Bk} {w w' : World} {S S' : LS}
theorem Run.start {Z : SZ} (h : LM w B p a b Z S) (hz : Z.cs.length ≤ 100000000000) : Run B p a b w Z S 0 w S :=
  ⟨⟨Z, [], h, rfl, rfl, by simp, Nat.le_refl _, rfl, fun k hk => .inl hk⟩, rfl, rfl, rfl, Nat.le_refl _, fun _ _ _ _ _ _ _ => rfl, Fl.refl _, hz⟩
theorem RunX.le (h : RunX B p a b w0 Z0 S0 n ex w S) (hm : n ≤ m) : RunX B p a b w0 Z0 S0 m ex w S := by
  obtain ⟨Z, ds, h1, h2, h3, h4, h5, h6, h7⟩ := h.z
  exact ⟨⟨Z, ds, h1, h2, h3, h4, by omega, h6, h7⟩, h.os, h.tape, h.output, h.size, h.block, h.fl, h.z0⟩
theorem RunX.lg (h : RunX B p a b w0 Z0 S0 n ex w S) : ∃ mk ch, LG w p a b mk ch S := by
  obtain ⟨Z, ds, h1, _⟩ := h.z
  exact ⟨_, _, h1.lg⟩
/-- The ledger's own, or nothing, turns. -/
theorem RunX.step (h : RunX B p a b w0 Z0 S0 n ex w S) {row : Option Nat} (hg : w.grownBy w' row) (hr : ∀ q, row = some q → q = p ∨ q = a ∨ q = b) (hL : ∀ mk ch, LG w p a b mk ch S → LG w' p a b mk ch S') (hu : undoAll ex' S'.ms = undoAll ex S.ms) : RunX B p a b w0 Z0 S0 n ex' w' S' ∧ Fl w w' := by
  obtain ⟨Z, ds, h1, h2, h3, h4, h5, h6, h7⟩ := h.z
  have hrow := h1.rows.1
  obtain ⟨cs, g1, _⟩ := h1.lg.blk
  obtain ⟨es, k, g2⟩ := h1.lg.acc.obj
  obtain ⟨es', k', g3⟩ := h1.lg.hol.obj
  have hf : Fl w w' := Fl.grown hg (fun q e cs' t hq => by
    rcases hr q e with rfl | rfl | rfl
    · rw [g1] at hq; cases hq; exact .inl rfl
    · rw [g2] at hq; cases hq
    · rw [g3] at hq; cases hq)
  have ne : (Z.mv.ownBlock = none ∨ Z.mv.ownBlock ≠ row) ∧ (Z.cv.ownBlock = none ∨ Z.cv.ownBlock ≠ row) := by
    cases row with
    | none => exact ⟨by cases e : Z.mv.ownBlock <;> simp, by cases e : Z.cv.ownBlock <;> simp⟩
    | some q => exact ⟨.inr (hrow q (hr q rfl)).1, .inr (hrow q (hr q rfl)).2⟩
  refine ⟨⟨⟨Z, ds, h1.step hg ne.1 ne.2 hf (hL _ _ h1.lg), h2, h3, h4, h5, ?_, h7⟩, hg.os.trans h.os, hg.tape.trans h.tape, hg.output.trans h.output, Nat.le_trans h.size hg.size, fun k hk n1 n2 n3 n4 n5 => (hg.block k (Nat.lt_of_lt_of_le hk h.size) (fun e => ?_)).trans (h.block k hk n1 n2 n3 n4 n5), h.fl.trans hf, h.z0⟩, hf⟩
  · rw [undoAll_app] at h6 ⊢
    rw [hu]
    exact h6
  · rcases hr k e.symm with e | e | e
    · exact n1 e
    · exact n2 e
    · exact n3 e
theorem RunX.kept (h : RunX B p a b w0 Z0 S0 n ex w S) (hb : Below w.heap.size w w') : RunX B p a b w0 Z0 S0 n ex w' S :=
  (h.step (below_none hb) (fun q e => by cases e) (fun mk ch hl => hl.kept hb) rfl).1
end
theorem infoChg : (Try.prog.info? 122).map (fun i => (i.zero, i.size, i.bytes)) = some (some (.agg #[.nilFunc]), 1, 8) := by kernel_rfl
theorem Fl.bel {W W' : World} {q : Nat} {t : TypeId} {cs : Array Value} (h : W.grownBy W' (some q)) (hq : W.heap[q]? = some (.cells cs t (0, 0))) (ht : t = 77 ∨ t = 3 ∨ t = 122) : Fl W W' := Fl.grown h (fun q' e cs' t' hq' => by
  cases e
  rw [hq] at hq'
  cases hq'
  exact ht)
end Go.Proofs.Ytcfenjpdjogmdaa
namespace Go.Proofs.Ytcfenjpdjogmdaa
open Go.RowKit

theorem LG.setCh {W : World} {p a b : Nat} {mk ch : Value} {S : LS} (h : LG W p a b mk ch S) (v : Value) : LG (W.setCell ⟨p, 325, none⟩ v) p a b mk v S := by
  obtain ⟨cs, h1, hs, ⟨h2, h3, h4, h5, h6, h7⟩, h8⟩ := h.blk
  obtain ⟨n1, n2, n3⟩ := h.nes
  have hg := grown_set W p 325 v
  refine ⟨⟨cs.setIfInBounds 325 v, heap_setCell_same W p 325 _ _ _ h1, by simpa using hs, ⟨by simpa using h2, by simpa using h3, by simpa using h4, by simpa using h5, by simpa using h6, by simp [hs]⟩, fun k hk j v' hj => ?_⟩, h.acc.kept hg (fun e => n1 (Option.some.inj e).symm), h.hol.kept hg (fun e => n2 (Option.some.inj e).symm), h.ne⟩
  have hj5 : j < 5 := (List.getElem?_eq_some_iff.1 hj).1
  simp only [Array.getElem?_setIfInBounds]
  rw [if_neg (by omega)]
  exact h8 k hk j v' hj
theorem LG.setMk {W : World} {p a b : Nat} {mk ch : Value} {S : LS} (h : LG W p a b mk ch S) (v : Value) : LG (W.setCell ⟨p, 324, none⟩ v) p a b v ch S := by
  obtain ⟨cs, h1, hs, ⟨h2, h3, h4, h5, h6, h7⟩, h8⟩ := h.blk
  obtain ⟨n1, n2, n3⟩ := h.nes
  have hg := grown_set W p 324 v
  refine ⟨⟨cs.setIfInBounds 324 v, heap_setCell_same W p 324 _ _ _ h1, by simpa using hs, ⟨by simpa using h2, by simpa using h3, by simpa using h4, by simpa using h5, by simp [hs], by simpa using h7⟩, fun k hk j v' hj => ?_⟩, h.acc.kept hg (fun e => n1 (Option.some.inj e).symm), h.hol.kept hg (fun e => n2 (Option.some.inj e).symm), h.ne⟩
  have hj5 : j < 5 := (List.getElem?_eq_some_iff.1 hj).1
  simp only [Array.getElem?_setIfInBounds]
  rw [if_neg (by omega)]
  exact h8 k hk j v' hj
theorem LM.cells {W : World} {B p a b : Nat} {Z : SZ} {S : LS} (h : LM W B p a b Z S) : ∃ mao mcap cao ccap, Z.mv = .slice mao Z.ms.length mcap ∧ Z.cv = .slice cao Z.cs.length ccap := by
  obtain ⟨mao, mcap, e1⟩ := own_form2 h.mr
  obtain ⟨xs, hc, _⟩ := h.cr
  obtain ⟨cao, ccap, e2⟩ := own_form2 hc
  exact ⟨mao, mcap, cao, ccap, e1, e2⟩
/-- One change more is noted. -/
theorem LM.noted {W W0 W4 : World} {B p a b : Nat} {Z : SZ} {S : LS} (h : LM W B p a b Z S) {xs : List Value} (hd : ∀ (i : Nat) (d : Bk) (v : Value), Z.cs[i]? = some d → xs[i]? = some v → d.Ok W p a b v) (hx : xs.length = Z.cs.length) {d : Bk} {v v' : Value} (hv : d.Ok W p a b v) (h0 : Below W.heap.size W W0) (ho : W4.ownsRow B 122 1 v' (Z.cs.length + 1) (xs ++ [v])) (hg : W0.grownBy W4 Z.cv.ownBlock) :
    LM (W4.setCell ⟨p, 325, none⟩ v') B p a b { Z with cv := v', cs := Z.cs ++ [d] } S ∧ Fl W (W4.setCell ⟨p, 325, none⟩ v') ∧ (∀ k, k < W.heap.size → k ≠ p → Z.cv.ownBlock ≠ some k → (W4.setCell ⟨p, 325, none⟩ v').heap[k]? = W.heap[k]?) ∧ (W4.setCell ⟨p, 325, none⟩ v').os = W.os ∧ (W4.setCell ⟨p, 325, none⟩ v').tape = W.tape ∧ (W4.setCell ⟨p, 325, none⟩ v').output = W.output ∧ W.heap.size ≤ (W4.setCell ⟨p, 325, none⟩ v').heap.size := by
  have hk := h.kept h0
  obtain ⟨hr1, hr2⟩ := hk.rows
  obtain ⟨ys, hcr, _⟩ := hk.cr
  have f1 : Fl W W0 := Fl.below h0
  have f2 : Fl W0 W4 := Fl.grown hg (fun q e cs t hq => by
    rcases hcr.2 with ⟨e1, _⟩ | ⟨g, cp, cur, e1, _, hgq, _⟩
    · rw [e1] at e; cases e
    · rw [e1] at e
      cases e
      rw [hgq] at hq
      cases hq
      exact .inr (.inr rfl))
  have l4 : LG W4 p a b Z.mv Z.cv S := hk.lg.other hg (fun e => (hr1 p (.inl rfl)).2 e.symm) (fun e => (hr1 a (.inr (.inl rfl))).2 e.symm) (fun e => (hr1 b (.inr (.inr rfl))).2 e.symm)
  have lf := l4.setCh v'
  obtain ⟨cs4, q4, _⟩ := l4.blk
  have gs := grown_set W4 p 325 v'
  have f3 : Fl W4 (W4.setCell ⟨p, 325, none⟩ v') := Fl.bel gs q4 (.inl rfl)
  have ff := f1.trans (f2.trans f3)
  have m4 : W4.ownsRow B 3 1 Z.mv Z.ms.length (Z.ms.map (fun m => .int .i64 (m : Nat))) := hk.mr.kept hg (rows2_ne hcr hk.mr (by decide))
  refine ⟨⟨lf, m4.kept gs (.inr (rowT_ne m4 q4 (by decide))), ⟨xs ++ [v], ?_, fun i d' u hi hu => ?_⟩, h.lo⟩, ff, fun k hk1 hk2 hk3 => ?_, ?_, ?_, ?_, Nat.le_trans h0.size (Nat.le_trans hg.size gs.size)⟩
  · show (W4.setCell ⟨p, 325, none⟩ v').ownsRow B _ 1 v' (Z.cs ++ [d]).length _
    rw [List.length_append]
    exact ho.kept gs (.inr (rowT_ne ho q4 (by decide)))
  · have hi' : (Z.cs ++ [d])[i]? = some d' := hi
    by_cases hlt : i < Z.cs.length
    · rw [List.getElem?_append_left hlt] at hi'
      rw [List.getElem?_append_left (by omega)] at hu
      exact (hd i d' u hi' hu).fl ff
    · have h2 := (List.getElem?_eq_some_iff.1 hi').1
      rw [List.length_append] at h2
      simp only [List.length_cons, List.length_nil] at h2
      obtain rfl : i = Z.cs.length := by omega
      rw [List.getElem?_append_right (Nat.le_refl _), Nat.sub_self] at hi'
      rw [← hx, List.getElem?_append_right (Nat.le_refl _), Nat.sub_self] at hu
      simp at hi' hu
      subst hi' hu
      exact hv.fl ff
  · exact ((gs.block k (by have := h0.size; have := hg.size; omega) (fun e => hk2 (Option.some.inj e))).trans (hg.block k (by have := h0.size; omega) (fun e => hk3 e.symm))).trans (h0.block k hk1)
  · exact gs.os.trans (hg.os.trans h0.os)
  · exact gs.tape.trans (hg.tape.trans h0.tape)
  · exact gs.output.trans (hg.output.trans h0.output)
set_option maxRecDepth 10000 in
set_option maxHeartbeats 3200000 in
/-- note: a change, where there is a mark. -/
theorem noteX {B p a b : Nat} {w0 : World} {Z0 : SZ} {S0 : LS} {n : Nat} {d : Bk} {w : World} {S : LS} (h : RunX B p a b w0 Z0 S0 n [d] w S) (hn : n < 1000) {v : Value} (hd : d.Ok w p a b v) :
    Calls Try.prog 48 #[.pointer (some ⟨p, 324, none⟩), v] w fun e w' => e = .returned (.tuple #[]) ∧ Hid (Run B p a b w0 Z0 S0 (n + 1) w' S ∧ Fl w w') := by
  obtain ⟨i0, hi, hz0, hz1, hz2⟩ := info_parts infoChg
  obtain ⟨Z, ds, h1, h2, h3, h4, h5, h6, h7⟩ := h.z
  obtain ⟨mao, mcap, cao, ccap, e1, e2⟩ := h1.cells
  obtain ⟨xs, hcr, hbk⟩ := h1.cr
  have c324 := h1.lg.c.2.2.2.2.1
  have c325 := h1.lg.c.2.2.2.2.2
  have cl := h1.lg.lt.1
  have hone := hd.one
  rw [e1] at c324
  rw [e2] at c325
  by_cases hL : Z.ms = []
  · have HE : Hid (Run B p a b w0 Z0 S0 (n + 1) w S ∧ Fl w w) := by
      refine ⟨⟨⟨Z, ds ++ [d], h1, h2, h3, ?_, by rw [List.length_append]; show _ + 1 ≤ _; omega, by rw [List.append_nil]; exact h6, h7⟩, h.os, h.tape, h.output, h.size, h.block, h.fl, h.z0⟩, Fl.refl _⟩
      rw [h3] at hL
      rw [h4, if_pos hL, if_pos hL]
    rw [hL] at c324
    simp only [List.length_nil] at c324
    clear h h1 h2 h3 h4 h5 h6 h7 e1 e2 hcr hbk c325 hd hone hL hi hz0 hz1 hz2
    go_enter Try.func48, Try.ntmps48
    go_wp2
    go_end0
    exact ⟨rfl, HE⟩
  have hLp : 0 < Z.ms.length := List.length_pos_iff.2 hL
  have hcl : Z.cs.length ≤ 200000000000 := by
    have := h.z0
    rw [h3] at hL
    rw [h4, if_neg hL, List.length_append]
    omega
  have hxl : xs.length = Z.cs.length := by have := hcr.1; omega
  have HRN := hide h
  have HKP : Hid (∀ o (v' : Value) (w4 : World), w4.ownsRow B 122 1 v' (Z.cs.length + 1) (xs ++ [v]) → (w.alloc o).grownBy w4 (Value.slice cao Z.cs.length ccap).ownBlock → (v'.ownBlock = (Value.slice cao Z.cs.length ccap).ownBlock ∨ v'.ownBlock = some (w.alloc o).heap.size) → Hid (Run B p a b w0 Z0 S0 (n + 1) (w4.setCell ⟨p, 325, none⟩ v') S ∧ Fl w (w4.setCell ⟨p, 325, none⟩ v')) ∧ w4.cell? ⟨p, 325, none⟩ = some (.slice cao Z.cs.length ccap) ∧ p < w4.heap.size ∧ w4.frozen? ⟨p, 325, none⟩ = false) := fun o v' w4 ho hg hat => by
    have b0 : Below w.heap.size w (w.alloc o) := (Below.refl _ w).alloc (Nat.le_refl _) o
    rw [← e2] at hg hat
    obtain ⟨k1, k2, k3, k4, k5, k6, k7⟩ := h1.noted hbk hxl hd b0 ho hg
    have hk := h1.kept b0
    have hr1 := hk.rows.1
    have l4 : LG w4 p a b Z.mv Z.cv S := hk.lg.other hg (fun e => (hr1 p (.inl rfl)).2 e.symm) (fun e => (hr1 a (.inr (.inl rfl))).2 e.symm) (fun e => (hr1 b (.inr (.inr rfl))).2 e.symm)
    refine ⟨⟨⟨⟨_, ds ++ [d], k1, h2, h3, ?_, by rw [List.length_append]; show _ + 1 ≤ _; omega, by rw [List.append_nil]; exact h6, fun k hk => ?_⟩, k4.trans h.os, k5.trans h.tape, k6.trans h.output, Nat.le_trans h.size k7, fun k hk n1 n2 n3 n4 n5 => ?_, h.fl.trans k2, h.z0⟩, k2⟩, by rw [← e2]; exact l4.c.2.2.2.2.2, l4.lt.1, l4.free 325⟩
    · show Z.cs ++ [d] = _
      rw [h3] at hL
      rw [h4, if_neg hL, if_neg hL, List.append_assoc]
    · have hk' : v'.ownBlock = some k := hk
      rcases hat with e | e
      · exact h7 k (by rw [← e]; exact hk')
      · rw [hk'] at e
        have := Option.some.inj e
        have := b0.size
        have := h.size
        exact .inr (by omega)
    · refine (k3 k (Nat.lt_of_lt_of_le hk h.size) n1 (fun e => ?_)).trans (h.block k hk n1 n2 n3 n4 n5)
      rcases h7 k e with e | e
      · exact n5 e
      · omega
  have HOW : Hid (∀ o, (w.alloc o).ownsRow B 122 1 (.slice cao Z.cs.length ccap) Z.cs.length xs) := fun o => by rw [← e2]; exact hcr.alloc o
  have HBS : Hid (∀ o, B ≤ (w.alloc o).heap.size) := fun o => by have := h1.lo.1; have := h1.lg.lt.1; simp; omega
  have g0 : decide ((Z.ms.length : Int) > 0) = true := decide_eq_true (by omega)
  have g0' : decide (0 < Z.ms.length) = true := decide_eq_true hLp
  obtain ⟨f, ca, rfl⟩ : ∃ f ca, v = .func f #[] ca := by
    cases d with
    | A x old => exact hd.2.func
    | H x old => exact hd.2.func
    | J k sq old => obtain ⟨_, _, _, _, _, _, _, _, e⟩ := hd.2; exact ⟨_, _, e⟩
  clear h h1 h2 h3 h4 h5 h6 h7 e1 e2 hcr hbk hd hone hL hxl
  go_enter Try.func48, Try.ntmps48
  go_wp2_with (at_builtin; refine wpList_append_own_at _ rfl (.tmp 14) (.tmp 17) 73 rfl B 122 i0 (.agg #[.nilFunc]) 1 8 Try.underlying73 hi hz0 hz1 hz2 rfl (by decide) (.slice cao Z.cs.length ccap) Z.cs.length xs rfl (HOW.out _) ⟨w.heap.size, 0, none⟩ 1 1 [.func f #[] ca] rfl rfl (cells_newA _ _ _) (by simp [Value.oneCell']) (by unfold maxLen; omega) (by omega) (HBS.out _) ?_; intro v' w4 ho hg _ hat; obtain ⟨vo4, vc4, rfl⟩ := own_form2 ho; obtain ⟨HE, m5, ml, mf⟩ := HKP.out _ _ _ ho hg hat; clear ho hg hat)
  go_end0
  exact ⟨rfl, HE⟩
end Go.Proofs.Ytcfenjpdjogmdaa
namespace Go.Proofs.Ytcfenjpdjogmdaa
open Go.RowKit

theorem LG.uniq {W : World} {p a b : Nat} {mk ch mk' ch' : Value} {S S' : LS} (h : LG W p a b mk ch S) (h' : LG W p a b mk' ch' S') : mk = mk' ∧ ch = ch' := by
  have h1 := h.c.2.2.2.2
  have h2 := h'.c.2.2.2.2
  rw [h1.1] at h2
  rw [h1.2] at h2
  exact ⟨Option.some.inj h2.1, Option.some.inj h2.2⟩
/-- What is done and not yet noted, with what takes it back; the box q of what was handed in. -/
def Mid (B p a b : Nat) (w0 : World) (Z0 : SZ) (S0 : LS) (n : Nat) (d : Bk) (w : World) (q : Nat) (o : Obj) (v : Value) (w1 : World) (S : LS) : Prop :=
  RunX B p a b w0 Z0 S0 n [d] w1 S ∧ Fl w w1 ∧ d.Ok w1 p a b v ∧ w1.heap[q]? = some o
section
variable {B p a b : Nat} {w0 : World} {Z0 : SZ} {S0 : LS} {n : Nat} {w : World} {S : LS}
theorem undo_J (S : LS) (kd fr tw am : Nat) : undoAll [.J (S.nx % 64) S.nx (S.rg (S.nx % 64))] (S.line kd fr tw am).ms = undoAll [] S.ms := by
  show (⟨S.tot, S.acc.length, byK Ac.id S.acc, S.hol.length, byK Ho.id S.hol, S.nx, fun i => if i = S.nx % 64 then S.rg (S.nx % 64) else (if i = S.nx % 64 then (⟨S.nx, kd, fr, tw, am⟩ : Jn) else S.rg i)⟩ : MS) = S.ms
  unfold LS.ms
  congr 1
  funext i
  by_cases e : i = S.nx % 64
  · rw [if_pos e, e]
  · rw [if_neg e, if_neg e]
theorem undo_A {l : List Ac} (x : Nat) (new : Option Ac) (hb : ∀ y, byK Ac.id l y = if y = x then new else byK Ac.id S.acc y) (hl : l.length = cntO S.acc.length (byK Ac.id S.acc x) new) (hpos : (byK Ac.id S.acc x).isSome = true → 0 < S.acc.length) : undoAll [.A x (byK Ac.id S.acc x)] ({ S with acc := l } : LS).ms = undoAll [] S.ms := by
  show ({ ({ S with acc := l } : LS).ms with acn := cntO l.length (byK Ac.id l x) (byK Ac.id S.acc x), acf := updO (byK Ac.id l) x (byK Ac.id S.acc x) } : MS) = S.ms
  have e1 : updO (byK Ac.id l) x (byK Ac.id S.acc x) = byK Ac.id S.acc := by
    funext y
    unfold updO
    by_cases e : y = x
    · rw [if_pos e, e]
    · rw [if_neg e, hb, if_neg e]
  have e2 : cntO l.length (byK Ac.id l x) (byK Ac.id S.acc x) = S.acc.length := by
    rw [hl, hb, if_pos rfl]
    unfold cntO
    cases e : (byK Ac.id S.acc x).isSome with
    | true => have := hpos e; cases e' : new.isSome <;> simp <;> omega
    | false => cases e' : new.isSome <;> simp
  rw [e1, e2]
  rfl
theorem undo_H {l : List Ho} (x : Nat) (new : Option Ho) (hb : ∀ y, byK Ho.id l y = if y = x then new else byK Ho.id S.hol y) (hl : l.length = cntO S.hol.length (byK Ho.id S.hol x) new) (hpos : (byK Ho.id S.hol x).isSome = true → 0 < S.hol.length) : undoAll [.H x (byK Ho.id S.hol x)] ({ S with hol := l } : LS).ms = undoAll [] S.ms := by
  show ({ ({ S with hol := l } : LS).ms with hon := cntO l.length (byK Ho.id l x) (byK Ho.id S.hol x), hof := updO (byK Ho.id l) x (byK Ho.id S.hol x) } : MS) = S.ms
  have e1 : updO (byK Ho.id l) x (byK Ho.id S.hol x) = byK Ho.id S.hol := by
    funext y
    unfold updO
    by_cases e : y = x
    · rw [if_pos e, e]
    · rw [if_neg e, hb, if_neg e]
  have e2 : cntO l.length (byK Ho.id l x) (byK Ho.id S.hol x) = S.hol.length := by
    rw [hl, hb, if_pos rfl]
    unfold cntO
    cases e : (byK Ho.id S.hol x).isSome with
    | true => have := hpos e; cases e' : new.isSome <;> simp <;> omega
    | false => cases e' : new.isSome <;> simp
  rw [e1, e2]
  rfl
theorem by_pos {α : Type} {key : α → Nat} {l : List α} {x : Nat} (h : (byK key l x).isSome = true) : 0 < l.length := by
  obtain ⟨y, hy⟩ := Option.isSome_iff_exists.1 h
  exact List.length_pos_of_mem (byK_mem hy).1
set_option maxRecDepth 10000 in
set_option maxHeartbeats 800000 in
theorem lwriteM (h : Run B p a b w0 Z0 S0 n w S) (hn : n < 999) (hok : S.Ok) (kd fr tw am : Nat) :
    Calls Try.prog 46 #[.pointer (some ⟨p, 0, none⟩), .int .i64 (kd : Nat), .int .u64 (fr : Nat), .int .u64 (tw : Nat), .int .u64 (am : Nat)] w fun e w' => e = .returned (.tuple #[]) ∧ Hid (Run B p a b w0 Z0 S0 (n + 1) w' (S.line kd fr tw am) ∧ Fl w w') := by
  have HJ : Hid (Calls Try.prog 61 #[.pointer (some ⟨p, 3, none⟩), .int .i64 (kd : Nat), .int .u64 (fr : Nat), .int .u64 (tw : Nat), .int .u64 (am : Nat)] w.drew fun e w' => ∃ v, e = .returned v ∧ Hid (RunX B p a b w0 Z0 S0 n [.J (S.nx % 64) S.nx (S.rg (S.nx % 64))] w' (S.line kd fr tw am) ∧ Fl w w' ∧ Bk.Ok w' p a b (.J (S.nx % 64) S.nx (S.rg (S.nx % 64))) v)) := by
    have hd : Below w.heap.size w w.drew := (Below.refl _ w).drew
    have h0 := h.kept hd
    obtain ⟨mk, ch, hl⟩ := h0.lg
    refine (jwriteA hl hok kd fr tw am).mono ?_
    rintro e w' ⟨v, rfl, G⟩
    obtain ⟨g1, g2, g3⟩ := G.out
    have hs := h0.step (S' := S.line kd fr tw am) (ex' := [.J (S.nx % 64) S.nx (S.rg (S.nx % 64))]) g3 (fun q e => .inl (Option.some.inj e).symm) (fun mk' ch' hl' => by
      obtain ⟨rfl, rfl⟩ := hl.uniq hl'
      exact g2) (undo_J S kd fr tw am)
    exact ⟨v, rfl, hs.1, (Fl.below hd).trans hs.2, Nat.mod_lt _ (by decide), g1⟩
  have HNW : Hid (∀ w1 v, Hid (RunX B p a b w0 Z0 S0 n [.J (S.nx % 64) S.nx (S.rg (S.nx % 64))] w1 (S.line kd fr tw am) ∧ Fl w w1 ∧ Bk.Ok w1 p a b (.J (S.nx % 64) S.nx (S.rg (S.nx % 64))) v) → Calls Try.prog 48 #[.pointer (some ⟨p, 324, none⟩), v] w1 fun e w' => e = .returned (.tuple #[]) ∧ Hid (Run B p a b w0 Z0 S0 (n + 1) w' (S.line kd fr tw am) ∧ Fl w w')) := fun w1 v hG => by
    refine (noteX hG.out.1 (by omega) hG.out.2.2).mono ?_
    rintro e w' ⟨rfl, G⟩
    exact ⟨rfl, G.out.1, hG.out.2.1.trans G.out.2⟩
  obtain ⟨mk, ch, hl⟩ := h.lg
  have cl := hl.lt.1
  clear h hok hl hn
  go_enter Try.func46, Try.ntmps46
  go_region_with (first | (go_at_call 61; refine HJ.out.mono ?_; rintro e w1 ⟨v, rfl, HG⟩; have HN := hide (HNW.out _ _ HG)) | (go_at_call 48; refine HN.out.mono ?_; rintro e w2 ⟨rfl, HE⟩))
  go_wp2
  go_end0
  exact ⟨rfl, HE⟩
/-- What noting gives, where the box of what was handed in is looked at. -/
theorem noteM {d : Bk} {q : Nat} {o : Obj} {cs : Array Value} {t : TypeId} (ho : o = .cells cs t (0, 0)) (ht : t ≠ 77 ∧ t ≠ 3 ∧ t ≠ 122) (hn : n < 999) {v : Value} {w1 : World} {S' : LS} (h : Mid B p a b w0 Z0 S0 n d w q o v w1 S') :
    Calls Try.prog 48 #[.pointer (some ⟨p, 324, none⟩), v] w1 fun e w' => e = .returned (.tuple #[]) ∧ (w'.cell? ⟨p, 1, none⟩ = some (.map (some a)) ∧ w'.cell? ⟨p, 2, none⟩ = some (.map (some b)) ∧ w'.heap[q]? = some (.cells cs t (0, 0))) ∧ Hid (Run B p a b w0 Z0 S0 (n + 1) w' S' ∧ Fl w w') := by
  obtain ⟨h1, h2, h3, h4⟩ := h
  refine (noteX h1 (by omega) h3).mono ?_
  rintro e w' ⟨rfl, G⟩
  obtain ⟨mk, ch, hl⟩ := G.out.1.lg
  rw [ho] at h4
  exact ⟨rfl, ⟨hl.c.2.1, hl.c.2.2.1, G.out.2.at_ _ _ _ h4 ht.1 ht.2.1 ht.2.2⟩, G.out.1, h2.trans G.out.2⟩
set_option maxRecDepth 10000 in
set_option maxHeartbeats 1600000 in
theorem setAccM (h : Run B p a b w0 Z0 S0 n w S) (hr : n < 999) (hn : S.acc.length ≤ 64) (x : Ac) (hx : x.id < 18446744073709551616) {l : List Ac} (hb : ∀ y, byK Ac.id l y = if y = x.id then some x else byK Ac.id S.acc y) (hl : l.length = if (byK Ac.id S.acc x.id).isSome = true then S.acc.length else S.acc.length + 1) :
    Calls Try.prog 45 #[.pointer (some ⟨p, 0, none⟩), .agg x.arr] w fun e w' => e = .returned (.tuple #[]) ∧ Hid (Run B p a b w0 Z0 S0 (n + 1) w' { S with acc := l } ∧ Fl w w') := by
  obtain ⟨mk, ch, hlg⟩ := h.lg
  have c1 := hlg.c.2.1
  have cl := hlg.lt.1
  have HP : Hid (Calls Try.prog 60 #[.map (some a), .int .u64 (x.id : Nat), .agg x.arr] (w.alloc (.cells x.arr 80)).drew fun e w' => ∃ v, e = .returned v ∧ w'.cell? ⟨p, 1, none⟩ = some (.map (some a)) ∧ (w'.cell? ⟨w.heap.size, 0, none⟩ = some (.int .u64 (x.id : Nat)) ∧ w'.cell? ⟨w.heap.size, 1, none⟩ = some (.int .u64 (x.ow : Nat)) ∧ w'.cell? ⟨w.heap.size, 2, none⟩ = some (.int .u64 (x.ba : Nat)) ∧ w'.cell? ⟨w.heap.size, 3, none⟩ = some (.int .u64 (x.cp : Nat))) ∧ Hid (Mid B p a b w0 Z0 S0 n (.A x.id (byK Ac.id S.acc x.id)) w w.heap.size (.cells x.arr 80 (0, 0)) v w' { S with acc := l })) := by
    have hb0 : Below w.heap.size w (w.alloc (.cells x.arr 80)).drew := ((Below.refl _ w).alloc (Nat.le_refl _) _).drew
    have h0 := h.kept hb0
    have hl0 := hlg.kept hb0
    have q0 : (w.alloc (.cells x.arr 80)).drew.heap[w.heap.size]? = some (.cells x.arr 80 (0, 0)) := alloc_atK _ _
    refine (putA hl0.acc x hx (by unfold maxLen; omega)).mono ?_
    rintro e w' ⟨v, rfl, G⟩
    obtain ⟨gb, ht, hg⟩ := G.out
    have ht' : TAm w' a l.length (byK Ac.id l) := ht.congr hl.symm (fun y => (hb y).symm)
    have hne : w.heap.size ≠ a := fun e => by have := hlg.lt.2.1; omega
    have q1 := (hg.block _ (block_lt q0) (fun e => hne (Option.some.inj e))).trans q0
    have hs := h0.step (S' := { S with acc := l }) (ex' := [.A x.id (byK Ac.id S.acc x.id)]) hg (fun q e => .inr (.inl (Option.some.inj e).symm)) (fun mk' ch' hl' => hl'.toA ht' hg) (undo_A x.id (some x) hb (by rw [hl]; unfold cntO; cases e : (byK Ac.id S.acc x.id).isSome <;> simp) by_pos)
    exact ⟨v, rfl, (hl0.toA ht' hg).c.2.1, ⟨block_cell q1 0, block_cell q1 1, block_cell q1 2, block_cell q1 3⟩, hs.1, (Fl.below hb0).trans hs.2, ⟨hx, gb⟩, q1⟩
  have HNW : Hid (∀ w1 v, Hid (Mid B p a b w0 Z0 S0 n (.A x.id (byK Ac.id S.acc x.id)) w w.heap.size (.cells x.arr 80 (0, 0)) v w1 { S with acc := l }) → Calls Try.prog 48 #[.pointer (some ⟨p, 324, none⟩), v] w1 fun e w' => e = .returned (.tuple #[]) ∧ w'.cell? ⟨p, 1, none⟩ = some (.map (some a)) ∧ (w'.cell? ⟨w.heap.size, 0, none⟩ = some (.int .u64 (x.id : Nat)) ∧ w'.cell? ⟨w.heap.size, 1, none⟩ = some (.int .u64 (x.ow : Nat)) ∧ w'.cell? ⟨w.heap.size, 2, none⟩ = some (.int .u64 (x.ba : Nat)) ∧ w'.cell? ⟨w.heap.size, 3, none⟩ = some (.int .u64 (x.cp : Nat))) ∧ Hid (Run B p a b w0 Z0 S0 (n + 1) w' { S with acc := l } ∧ Fl w w')) := fun w1 v hG => by
    refine (noteM rfl ⟨by decide, by decide, by decide⟩ hr hG.out).mono ?_
    rintro e w' ⟨rfl, ⟨q1, _, q2⟩, G⟩
    exact ⟨rfl, q1, ⟨block_cell q2 0, block_cell q2 1, block_cell q2 2, block_cell q2 3⟩, G⟩
  clear h hn hx hb hl hlg hr
  unfold Ac.arr at *
  generalize (x.id : Int) = X0 at *
  generalize (x.ow : Int) = X1 at *
  generalize (x.ba : Int) = X2 at *
  generalize (x.cp : Int) = X3 at *
  go_enter Try.func45, Try.ntmps45
  go_wp2_with fail
  go_region_held (fun w' => w'.cell? ⟨p, 1, none⟩ = some (.map (some a)) ∧ (w'.cell? ⟨w.heap.size, 0, none⟩ = some (.int .u64 X0) ∧ w'.cell? ⟨w.heap.size, 1, none⟩ = some (.int .u64 X1) ∧ w'.cell? ⟨w.heap.size, 2, none⟩ = some (.int .u64 X2) ∧ w'.cell? ⟨w.heap.size, 3, none⟩ = some (.int .u64 X3))) (go_keep)
    (first | (go_at_call 60; refine HP.out.mono ?_; rintro e w1 ⟨v, rfl, h1, h2, HG⟩; have HN := hide (HNW.out _ _ HG)) | (go_at_call 48; refine HN.out.mono ?_; rintro e w2 ⟨rfl, h3, h4, HE⟩))
  go_wp2
  go_end0
  exact ⟨rfl, HE⟩
end
end Go.Proofs.Ytcfenjpdjogmdaa
